/- A builder of formulas: a clause that is put. Conditions: at most 100000 clauses of at most 100000 numbers. -/
import Derived.Test.YtkmcdbkdlalhdaaCnfL
namespace Go.Proofs.Ytkmcdbkdlalhdaa
open Go.RowKit Go.Maps Go.Lib Go.Sort
set_option linter.unusedVariables false
set_option linter.unusedSimpArgs false
theorem step_append_at {P : Program} {ops : Array Oper} {o : Oper} {a : Act} {w : World} {K : Act → World → Prop} {Q : Exit → Act → World → Prop} {E : Prop} (hgd : o.guard = none) (s x : Operand) (t : TypeId)
    (ho : o.op = .call { callee := .builtin .append, args := #[s, x], argTypes := #[t, t] })
    (base : Nat) (e : TypeId) (i : TypeInfo) (z : Value) (size bytes : Nat) (ht : P.underlying t = some (.slice e)) (hi : P.info? e = some i) (hz : i.zero = some z)
    (hsize : i.size = size) (hby : i.bytes = bytes) (hzs : z.cells.size = size) (hsz : 0 < size)
    (v : Value) (n : Nat) (xs : List Value) (hs : a.eval s = v) (hown : w.ownsRow base e size v n xs)
    (ad : Addr) (m c : Nat) (news : List Value) (hx : a.eval x = .slice (some ad) m c) (hl : news.length = m * size) (hnews : ∀ j u, news[j]? = some u → w.cell? (ad.add j) = some u) (h1 : ∀ u ∈ news, u.oneCell' = true)
    (h63 : n + m ≤ maxLen) (hbytes : (n + m) * bytes ≤ 140737488355328) (hbase : base ≤ w.heap.size)
    (h : ∀ v' w', w'.ownsRow base e size v' (n + m) (xs ++ news) → w.grownBy w' v.ownBlock → (v'.ownBlock = v.ownBlock ∨ v'.ownBlock = some w.heap.size) → K (a.put o.dst v') w') :
    if Region.wanted o (yielded ops a.tmps) = true then Oper.wp P o a w K Q else E := by
  have hw : Region.wanted o (yielded ops a.tmps) = true := by simp [Region.wanted, hgd]
  rw [if_pos hw]
  obtain ⟨v', w', hr, h2, h3, h4, h5⟩ := run_append_own_at (P := P) w base t o.type e i z size bytes ht hi hz hsize hby hzs hsz v n xs hown ad m c news hl hnews h1 h63 hbytes hbase
  unfold Oper.wp execOp
  simp only [ho, resolve, invoke, builtin, Sem.run_bind, Sem.run_pure, Result.andThen_ok, List.map_toArray, List.map_cons, List.map_nil, hs, hx, hr]
  exact h v' w' h2 h3 h5
/-- What is wanted of an append of one clause to a builder's. -/
theorem bld_push {W : World} {base g k c n2 c2 : Nat} {N : Int} {A A2 : Option Addr} {ls : List (List Int)} {xs : List Int} (HB : Bld W base g N A k c ls) (HO : Own W base A2 n2 c2 xs) (o : Obj) (hb : base ≤ W.heap.size) :
    ∃ vs, (W.alloc o).ownsRow base 40 1 (.slice A k c) k vs ∧ ∀ v w', w'.ownsRow base 40 1 v (k + 1) (vs ++ [.slice A2 n2 c2]) → (W.alloc o).grownBy w' (Value.ownBlock (.slice A k c)) → (Value.ownBlock v = Value.ownBlock (.slice A k c) ∨ Value.ownBlock v = some (W.alloc o).heap.size) →
      ∃ A' c', v = .slice A' (k + 1) c' ∧ w'.heap[g]? = some (.cells #[.int .i64 N, .slice A k c] 64 (0, 0)) ∧ Bld (w'.setCell ⟨g, 1, none⟩ (.slice A' (k + 1) c')) base g N A' (k + 1) c' (ls ++ [xs]) ∧ Kept W (w'.setCell ⟨g, 1, none⟩ (.slice A' (k + 1) c')) g A ∧
        (A' = A ∨ ∀ a, A' = some a → W.heap.size ≤ a.block) := by
  obtain ⟨vs, q1, q2⟩ := push_facts HB.row HO o
  refine ⟨vs, q1, fun v w' hw hg hblk => ?_⟩
  obtain ⟨A', c', rfl, hl, hbe, hk⟩ := q2 v w' hw hg
  have hbox := hk g 64 _ (by decide) HB.box
  refine ⟨A', c', rfl, hbox, ⟨(set_at _ hbox).2, HB.lo, hl.set1 hbox (by decide) (by decide) 1 _⟩, ?_, ?_⟩
  · have hgs := hg.size
    rw [World.size_alloc] at hgs
    refine ⟨hg.os, hg.tape, hg.output, by simp [World.setCell]; omega, fun j hj hne hA => ?_⟩
    have e1 : (w'.setCell ⟨g, 1, none⟩ (.slice A' (k + 1) c')).heap[j]? = w'.heap[j]? := by simp [World.setCell, Array.getElem?_modify, Ne.symm hne]
    rw [e1, hg.block j (by simp; omega) ?_, Below.heap_alloc W o j hj]
    intro q
    cases A with
    | none => simp [Value.ownBlock] at q
    | some a => simp [Value.ownBlock] at q; exact hA a rfl q.symm
  · rcases hblk with e | e
    · left
      obtain ⟨vs', r1, -⟩ := hl
      rcases r1.2 with ⟨e0, -⟩ | ⟨g', cap', cur', e0, -⟩
      · injection e0 with _ e1; omega
      · injection e0 with e0
        subst e0
        rcases q1.2 with ⟨e2, -⟩ | ⟨g2, cap2, cur2, e2, -⟩
        · injection e2 with e2; subst e2; simp [Value.ownBlock] at e
        · injection e2 with e2; subst e2; simp [Value.ownBlock] at e; rw [e]
    · right
      intro a ha
      subst ha
      simp [Value.ownBlock] at e
      omega
def putF (N : Int) (ls : List (List Int)) (xs : List Int) : List (List Int) := if xs.all (lit N) then ls ++ [xs] else ls
/-- What a call that puts a clause leaves. -/
def ClPost (w : World) (base g : Nat) (N : Int) (A : Option Addr) (ls : List (List Int)) (e : Ending) (w' : World) : Prop := e = .returned (.tuple #[]) ∧ ∃ A' n' c', Hid (Bld w' base g N A' n' c' ls) ∧ Hid (Kept w w' g A) ∧ Hid (A' = A ∨ ∀ a, A' = some a → w.heap.size ≤ a.block)
theorem Kept.step {w w1 w2 : World} {base g n c : Nat} {N : Int} {A : Option Addr} {ls : List (List Int)} (hb : Below w.heap.size w w1) (h : Kept w1 w2 g A) : Kept w w2 g A :=
  ⟨h.os.trans hb.os, h.tape.trans hb.tape, h.output.trans hb.output, Nat.le_trans hb.size h.size, fun k hk h1 h2 => (h.block k (Nat.lt_of_lt_of_le hk hb.size) h1 h2).trans (hb.block k hk)⟩
theorem below_drew1' (B : Nat) (w : World) : Below B w w.drew := ⟨rfl, rfl, rfl, Nat.le_refl _, fun _ _ => rfl⟩
theorem below_drew1 (w : World) : Below w.heap.size w w.drew := below_drew1' _ w
set_option maxHeartbeats 2000000 in
theorem clause_put (base g n c m cap B : Nat) (N : Int) (A A2 : Option Addr) (ls : List (List Int)) (xs : List Int) (w : World) (h : Bld w base g N A n c ls) (hb : base ≤ w.heap.size) (hi : Ints w B A2 m xs) (hB : B ≤ w.heap.size) (h0 : 0 ≤ N) (h1 : N ≤ 1000000) (hn : n ≤ 100000) (hm : m ≤ 100000) (hx : xs.all (lit N) = true) :
    Calls Try.prog 20 #[bldP g, .slice A2 m cap] w (ClPost w base g N A (ls ++ [xs])) := by
  obtain ⟨i0t, hti, hz0, hz1, hz2⟩ := info_parts info40
  have HLit := hid (literals_i N xs A2 m cap B w h0 h1 hB hi (by omega))
  rw [hx] at HLit
  have hx0 := cells_at h.box
  have H := hid h
  have HI := hid hi
  have hgl : g < w.heap.size := (Array.getElem?_eq_some_iff.1 h.box).1
  obtain ⟨Q, HQ⟩ : ∃ Q : Ending → World → Prop, Hid (Q = ClPost w base g N A (ls ++ [xs])) := ⟨_, hid rfl⟩
  rw [← HQ.out]
  clear h hi hx
  go_enter Try.func20, Try.ntmps20
  go_wp2_with (go_at_call 29; go_must (refine HLit.out.mono ?_); rintro e w1 ⟨rfl, HB1⟩)
  have H0 := hid (H.out.below HB1.out)
  have H1 := hid (H0.out.below (below_drew1 w1))
  have HI1 := hid ((HI.out.below (HB1.out.mono hB)).below (below_drew1' B w1))
  have hx1 := cells_at H0.out.box
  have hgl1 : g < w1.heap.size := Nat.lt_of_lt_of_le hgl HB1.out.size
  have hbs : base ≤ w1.heap.size := Nat.le_trans hb HB1.out.size
  have hBs : B ≤ w1.heap.size := Nat.le_trans hB HB1.out.size
  clear hx0
  go_region_law (first
    | (go_simp
       go_at_call 37
       refine (clone_i xs A2 m cap B w1.drew HI1.out (by omega)).mono ?_
       rintro e w2 ⟨A3, c3, rfl, HO3, HB3⟩
       have H2 := hid (H1.out.below HB3.out)
       have hx2 := cells_at H2.out.box
       have hx2b := fun o => cells_at (H2.out.below (below1 w2 o)).box
       have HS2 : Hid (base ≤ w2.heap.size) := hid (Nat.le_trans hbs HB3.out.size)
       obtain ⟨vs, hv, hp⟩ := bld_push H2.out (HO3.out.low hbs) (.cells #[.slice A3 m c3] 40) HS2.out
       have HV := hid hv
       have HP := hid hp
       clear hv hp)
    | (refine step_append_at rfl (.tmp 18) (.tmp 21) 22 rfl base 40 i0t (.slice none 0 0) 1 24 Try.underlying22 hti hz0 hz1 hz2 rfl (by decide) (.slice A n c) n vs rfl HV.out _ 1 1 [.slice A3 m c3] rfl rfl (cell_one_new _ _ _) (one_slice _ _ _) (by unfold maxLen; omega) (by omega) (by have := HS2.out; simp <;> omega) ?_
       intro v' w3 hown hgrow hblk
       obtain ⟨A4, c4, rfl, hbox, hbld, hkept, hat⟩ := HP.out _ _ hown hgrow hblk
       have HBOX := hid hbox
       have HBLD := hid hbld
       have HKEPT := hid hkept
       have HAT := hid hat
       have hx3 := cells_at HBOX.out
       have hf3 := frozen_no HBOX.out
       clear hown hgrow hblk hbox hbld hkept hat))
  all_goals
    have HW := hid (after (after HB1.out (below_drew1 w1) HB1.out.size) HB3.out (Nat.le_trans HB1.out.size (Nat.le_refl _)))
    have HK := hid (HKEPT.out.step HW.out (base := base) (n := n) (c := c) (N := N) (ls := ls))
    have HAT2 : Hid (A4 = A ∨ ∀ a, A4 = some a → w.heap.size ≤ a.block) := hid (HAT.out.imp id fun h a ha => Nat.le_trans HW.out.size (h a ha))
    go_end0
    rw [HQ.out]
    exact ⟨rfl, A4, n + 1, c4, HBLD, HK, HAT2⟩
theorem clause_skip (base g n c m cap B : Nat) (N : Int) (A A2 : Option Addr) (ls : List (List Int)) (xs : List Int) (w : World) (h : Bld w base g N A n c ls) (hi : Ints w B A2 m xs) (hB : B ≤ w.heap.size) (h0 : 0 ≤ N) (h1 : N ≤ 1000000) (hm : m ≤ 100000) (hx : xs.all (lit N) = false) :
    Calls Try.prog 20 #[bldP g, .slice A2 m cap] w (ClPost w base g N A ls) := by
  have HLit := hid (literals_i N xs A2 m cap B w h0 h1 hB hi (by omega))
  rw [hx] at HLit
  have hx0 := cells_at h.box
  have H := hid h
  obtain ⟨Q, HQ⟩ : ∃ Q : Ending → World → Prop, Hid (Q = ClPost w base g N A ls) := ⟨_, hid rfl⟩
  rw [← HQ.out]
  clear h hi hx
  go_enter Try.func20, Try.ntmps20
  go_wp2_with (go_at_call 29; go_must (refine HLit.out.mono ?_); rintro e w1 ⟨rfl, HB1⟩)
  go_end0
  rw [HQ.out]
  exact ⟨rfl, A, n, c, hid (H.out.below HB1.out), hid (Kept.step (base := base) (n := n) (c := c) (N := N) (ls := ls) HB1.out (Kept.refl _ _ _)), hid (.inl rfl)⟩
theorem bclause_i (base g n c m cap B : Nat) (N : Int) (A A2 : Option Addr) (ls : List (List Int)) (xs : List Int) (w : World) (h : Bld w base g N A n c ls) (hb : base ≤ w.heap.size) (hi : Ints w B A2 m xs) (hB : B ≤ w.heap.size) (h0 : 0 ≤ N) (h1 : N ≤ 1000000) (hn : n ≤ 100000) (hm : m ≤ 100000) :
    Calls Try.prog 20 #[bldP g, .slice A2 m cap] w (ClPost w base g N A (putF N ls xs)) := by
  unfold putF
  cases hx : xs.all (lit N)
  · exact clause_skip base g n c m cap B N A A2 ls xs w h hi hB h0 h1 hm hx
  · exact clause_put base g n c m cap B N A A2 ls xs w h hb hi hB h0 h1 hn hm hx
theorem clause_nil (A2 : Option Addr) (m cap : Nat) (w : World) : Calls Try.prog 20 #[.pointer none, .slice A2 m cap] w fun e w' => e = .returned (.tuple #[]) ∧ w' = w := by
  go_enter Try.func20, Try.ntmps20
  go_wp2
  go_end0
  exact ⟨rfl, rfl⟩
end Go.Proofs.Ytkmcdbkdlalhdaa
