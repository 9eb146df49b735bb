/- IrEdges: what the law's blocks hold while it lays the edges down, and while it reads them. No conditions. -/
import Derived.Test.YtplpjckkocccfaaIrU
import Derived.Test.YtplpjckkocccfaaIrN
import Derived.Deep.RegionLaw
import Derived.OwnWalk
namespace Go.Proofs.Ytplpjckkocccfaa
open Go.RowKit Go.Maps
set_option linter.unusedVariables false
set_option linter.unusedSimpArgs false
set_option maxHeartbeats 4000000 in
theorem rnext_n (op d a b tt el p : Int) (c4 c5 c6 args c8 c11 c12 : Value) (w : World) (h0 : 0 ≤ p) (h1 : p ≤ 10000) : Calls Try.prog 12 #[ins op d a b c4 c5 c6 args c8 tt el c11 c12, .int .i64 p] w fun e w' =>
    ∃ v, e = .returned v ∧ Hid (NewRow w.heap.size w' v (nxt op p tt el)) ∧ Hid (Below w.heap.size w w') := by
  have HB1 := hid (below1 w)
  have HB2 := hid (below2 w)
  cases e16 : (op == 16)
  case true =>
    rw [nxt1 e16]
    go_enter Try.func12, Try.ntmps12
    go_wp2
    go_ret
    exact ⟨_, rfl, hid (newRow_new w _ [tt] _ 1 rfl), HB2.out _ _⟩
  case false =>
    cases e17 : (op == 17)
    case true =>
      cases et : (tt == el)
      case true =>
        rw [nxt2 e17 et]
        go_enter Try.func12, Try.ntmps12
        go_wp2
        go_ret
        exact ⟨_, rfl, hid (newRow_new w _ [tt] _ 1 rfl), HB2.out _ _⟩
      case false =>
        rw [nxt3 e17 et]
        go_enter Try.func12, Try.ntmps12
        go_wp2
        go_ret
        exact ⟨_, rfl, hid (newRow_new w _ [tt, el] _ 2 rfl), HB2.out _ _⟩
    case false =>
      cases e18 : (op == 18)
      case true =>
        rw [nxt4 e18]
        go_enter Try.func12, Try.ntmps12
        go_wp2
        go_ret
        exact ⟨_, rfl, hid (newRow_nil _ _), HB1.out _⟩
      case false =>
        rw [nxt5 e16 e17 e18]
        go_enter Try.func12, Try.ntmps12
        go_wp2
        go_ret
        exact ⟨_, rfl, hid (newRow_new w _ [p + 1] _ 1 rfl), HB2.out _ _⟩
theorem step_append_at {P : Program} {ops : Array Oper} {o : Oper} {a : Act} {w : World} {K : Act → World → Prop} {Q : Exit → Act → World → Prop} {E : Prop} (hgd : o.guard = none) (s x : Operand) (t : TypeId)
    (ho : o.op = .call { callee := .builtin .append, args := #[s, x], argTypes := #[t, t] })
    (base : Nat) (e : TypeId) (i : TypeInfo) (z : Value) (size bytes : Nat) (ht : P.underlying t = some (.slice e)) (hi : P.info? e = some i) (hz : i.zero = some z)
    (hsize : i.size = size) (hby : i.bytes = bytes) (hzs : z.cells.size = size) (hsz : 0 < size)
    (v : Value) (n : Nat) (xs : List Value) (hs : a.eval s = v) (hown : w.ownsRow base e size v n xs)
    (ad : Addr) (m c : Nat) (news : List Value) (hx : a.eval x = .slice (some ad) m c) (hl : news.length = m * size) (hnews : ∀ j u, news[j]? = some u → w.cell? (ad.add j) = some u) (h1 : ∀ u ∈ news, u.oneCell' = true)
    (h63 : n + m ≤ maxLen) (hbytes : (n + m) * bytes ≤ 140737488355328) (hbase : base ≤ w.heap.size)
    (h : ∀ v' w', w'.ownsRow base e size v' (n + m) (xs ++ news) → w.grownBy w' v.ownBlock → (v'.ownBlock = v.ownBlock ∨ v'.ownBlock = some w.heap.size) → K (a.put o.dst v') w') :
    if Region.wanted o (yielded ops a.tmps) = true then Oper.wp P o a w K Q else E := by
  have hw : Region.wanted o (yielded ops a.tmps) = true := by simp [Region.wanted, hgd]
  rw [if_pos hw]
  obtain ⟨v', w', hr, h2, h3, h4, h5⟩ := run_append_own_at (P := P) w base t o.type e i z size bytes ht hi hz hsize hby hzs hsz v n xs hown ad m c news hl hnews h1 h63 hbytes hbase
  unfold Oper.wp execOp
  simp only [ho, resolve, invoke, builtin, Sem.run_bind, Sem.run_pure, Result.andThen_ok, List.map_toArray, List.map_cons, List.map_nil, hs, hx, hr]
  exact h v' w' h2 h3 h5
theorem one_at' (W : World) (v : Value) (k : Nat) (hk : W.heap.size = k) : ∀ j u, [v][j]? = some u → (W.alloc (.cells #[v] 3)).cell? ((⟨k, 0, none⟩ : Addr).add j) = some u := by
  subst hk
  intro j u hj
  cases j with
  | zero => simp at hj; subst hj; exact cells_at (heap_alloc_new W _) 0
  | succ j => simp at hj
theorem res_e {x : Array Value} {b : Nat} {W : World} {v : Value} (h4 : x[4]?.getD undef = .pointer (some ⟨b, 0, none⟩)) (hb : W.heap[b]? = some (.cells #[v] 4 (0, 0))) :
    (results Try.f4 x).run Try.prog W = .ok v W := by
  have c0 : W.cell? ⟨b, 0, none⟩ = some v := cells_at hb 0
  simp [results, Try.results4, go_sem, h4, c0]
theorem below_drew1 (w : World) : Below w.heap.size w w.drew := ⟨rfl, rfl, rfl, Nat.le_refl _, fun _ _ => rfl⟩
/-- A region that goes on, and never ends otherwise. -/
def OnlyN (Q : Exit → Act → World → Prop) : Exit → Act → World → Prop
  | .normal, a, w => Q .normal a w
  | _, _, _ => False
theorem wpIn_onlyN {F : Fence} {n : Nat} {P : Program} {c : Code} {Q : Exit → Act → World → Prop} {a : Act} {w : World} (h : c.wpIn F n P (OnlyN Q) a w) : c.wpIn F n P Q a w :=
  wpIn_mono h (by rintro e _ _ h; cases e <;> first | exact h | exact h.elim)
theorem onlyN_norm {Q : Exit → Act → World → Prop} {a : Act} {w : World} (h : Q .normal a w) : OnlyN Q .normal a w := h
/-- The law's first three boxes: the code, the bound, the answer. -/
structure B3 (w W : World) (O : Array Value) (stop : Int) : Prop where
  below : Below w.heap.size w W
  c : W.heap[w.heap.size]? = some (.cells O 42 (0, 0))
  s : W.heap[w.heap.size + 1]? = some (.cells #[.int .i64 stop] 3 (0, 0))
  r : W.heap[w.heap.size + 1 + 1]? = some (.cells #[.bool false] 4 (0, 0))
theorem B3.later {w W W' : World} {O : Array Value} {stop : Int} (h : B3 w W O stop) (hb : Below W.heap.size W W') : B3 w W' O stop :=
  have o : ∀ {k : Nat} {x : Obj}, W.heap[k]? = some x → W'.heap[k]? = some x := fun hk => old_block hb (Array.getElem?_eq_some_iff.1 hk).1 hk
  ⟨after h.below hb h.below.size, o h.c, o h.s, o h.r⟩
theorem B3.set {w W : World} {O : Array Value} {stop : Int} (h : B3 w W O stop) (b : Bool) : Below w.heap.size w (W.setCell ⟨w.heap.size + 1 + 1, 0, none⟩ (.bool b)) ∧ (W.setCell ⟨w.heap.size + 1 + 1, 0, none⟩ (.bool b)).heap[w.heap.size + 1 + 1]? = some (.cells #[.bool b] 4 (0, 0)) :=
  ⟨h.below.setCell (by show w.heap.size ≤ w.heap.size + 1 + 1; omega) _, by simp [World.setCell, Array.getElem?_modify, h.r]⟩
theorem B3.start (w : World) (O : Array Value) (stop : Int) : B3 w (((w.alloc (.cells O 42)).alloc (.cells #[.int .i64 stop] 3)).alloc (.cells #[.bool false] 4)) O stop := by
  have e1 := heap_alloc_new w (.cells O 42)
  have e2 := heap_alloc_new (w.alloc (.cells O 42)) (.cells #[.int .i64 stop] 3)
  have e3 := heap_alloc_new ((w.alloc (.cells O 42)).alloc (.cells #[.int .i64 stop] 3)) (.cells #[.bool false] 4)
  simp only [World.size_alloc] at e2 e3
  refine ⟨((below2 w _ _).alloc (by simp; omega) _), ?_, ?_, e3⟩
  · exact (Below.heap_alloc _ _ _ (by simp; omega)).trans ((Below.heap_alloc _ _ _ (by simp)).trans e1)
  · exact (Below.heap_alloc _ _ _ (by simp)).trans e2
theorem InsN.insL {N : Nat} {W : World} {A : Option Addr} {rs : List IR} (h : InsN N W A rs) : InsL W A rs := fun i r hr => by
  obtain ⟨b, o, e, -, q⟩ := h i r hr
  exact ⟨b, o, e, q⟩
abbrev vals (l : List Int) : List Value := l.map (Value.int .i64)
theorem own_form' {w : World} {base e n : Nat} {v : Value} {xs : List Value} (h : w.ownsRow base e 1 v n xs) : ∃ A c, v = .slice A n c := by
  rcases h.2 with ⟨e, h0⟩ | ⟨g, cap, cur, e, -⟩
  · exact ⟨_, _, by rw [e, h0]⟩
  · exact ⟨_, _, e⟩
structure ES (w W : World) (O : Array Value) (stop : Int) (fb : Nat) (vf vt : Value) (lf lt : List Int) (la : Option Addr) (xs : List Int) : Prop where
  below : Below w.heap.size w W
  c : W.heap[w.heap.size]? = some (.cells O 42 (0, 0))
  s : W.heap[w.heap.size + 1]? = some (.cells #[.int .i64 stop] 3 (0, 0))
  r : W.heap[w.heap.size + 1 + 1]? = some (.cells #[.bool false] 4 (0, 0))
  lo : w.heap.size + 3 ≤ fb
  f : W.heap[fb]? = some (.cells #[vf] 22 (0, 0))
  t : W.heap[fb + 1]? = some (.cells #[vt] 22 (0, 0))
  rf : W.ownsRow (fb + 2) 3 1 vf lf.length (vals lf)
  rt : W.ownsRow (fb + 2) 3 1 vt lt.length (vals lt)
  ne : ∀ g, vf.ownBlock = some g → vt.ownBlock ≠ some g
  row : xs ≠ [] → ∃ rb, la = some ⟨rb, 0, none⟩ ∧ fb + 2 ≤ rb ∧ rb < W.heap.size ∧ vf.ownBlock ≠ some rb ∧ vt.ownBlock ≠ some rb ∧ Row W rb xs
section
variable {w W W' : World} {O : Array Value} {stop : Int} {fb : Nat} {vf vt v' : Value} {lf lt : List Int} {la : Option Addr} {xs : List Int}
theorem rows_below {e n base : Nat} {v : Value} {l : List Value} (h : W.ownsRow base e 1 v n l) (hb : Below W.heap.size W W') : W'.ownsRow base e 1 v n l :=
  h.kept (row := none) ⟨hb.os, hb.tape, hb.output, hb.size, fun k hk _ => hb.block k hk⟩ (by cases h' : v.ownBlock <;> simp)
theorem ES.start (h : B3 w W O stop) : ES w ((W.alloc (.cells #[n0] 22)).alloc (.cells #[n0] 22)) O stop W.heap.size n0 n0 [] [] none [] := by
  have k := h.later (below2 W (.cells #[n0] 22) (.cells #[n0] 22))
  have e1 := heap_alloc_new W (.cells #[n0] 22)
  have e2 := heap_alloc_new (W.alloc (.cells #[n0] 22)) (.cells #[n0] 22)
  rw [World.size_alloc] at e2
  have hs := (Array.getElem?_eq_some_iff.1 h.r).1
  exact ⟨k.below, k.c, k.s, k.r, by omega, (Below.heap_alloc _ _ _ (by simp)).trans e1, e2, World.ownsRow_nil _ _ _ _, World.ownsRow_nil _ _ _ _, fun g e => by simp [Value.ownBlock] at e, fun hx => absurd rfl hx⟩
theorem ES.later (h : ES w W O stop fb vf vt lf lt la xs) (hb : Below W.heap.size W W') : ES w W' O stop fb vf vt lf lt la xs := by
  have o : ∀ {k : Nat} {x : Obj}, W.heap[k]? = some x → W'.heap[k]? = some x := fun hk => old_block hb (Array.getElem?_eq_some_iff.1 hk).1 hk
  refine ⟨after h.below hb h.below.size, o h.c, o h.s, o h.r, h.lo, o h.f, o h.t, rows_below h.rf hb, rows_below h.rt hb, h.ne, fun hx => ?_⟩
  obtain ⟨rb, e, h1, h2, h3, h4, h5⟩ := h.row hx
  exact ⟨rb, e, h1, Nat.lt_of_lt_of_le h2 hb.size, h3, h4, fun j x hj => (hb.cell (p := ⟨rb, j, none⟩) h2).trans (h5 j x hj)⟩
theorem ES.xs0 (h : ES w W O stop fb vf vt lf lt la xs) : ES w W O stop fb vf vt lf lt none [] := ⟨h.below, h.c, h.s, h.r, h.lo, h.f, h.t, h.rf, h.rt, h.ne, fun hx => absurd rfl hx⟩
theorem ES.size (h : ES w W O stop fb vf vt lf lt la xs) : fb + 2 ≤ W.heap.size := (Array.getElem?_eq_some_iff.1 h.t).1
theorem ES.setRow (h : ES w W O stop fb vf vt lf lt la xs) {la' : Option Addr} {ys : List Int} (hW : Below W.heap.size W W') (hr : ys ≠ [] → ∃ rb, la' = some ⟨rb, 0, none⟩ ∧ W.heap.size ≤ rb ∧ rb < W'.heap.size ∧ Row W' rb ys) : ES w W' O stop fb vf vt lf lt la' ys := by
  have k := h.later hW
  refine ⟨k.below, k.c, k.s, k.r, k.lo, k.f, k.t, k.rf, k.rt, k.ne, fun hx => ?_⟩
  obtain ⟨rb, e, h1, h2, h3⟩ := hr hx
  have hs := h.size
  exact ⟨rb, e, by omega, h2, fun q => by have := (h.rf.lt rb q).2; omega, fun q => by have := (h.rt.lt rb q).2; omega, h3⟩
theorem ES.pushF (h : ES w W O stop fb vf vt lf lt la xs) (x : Int) :
    ∀ w', w'.ownsRow (fb + 2) 3 1 v' (lf.length + 1) (vals lf ++ [.int .i64 x]) → W.grownBy w' vf.ownBlock → (v'.ownBlock = vf.ownBlock ∨ v'.ownBlock = some W.heap.size) →
      w'.heap[fb]? = some (.cells #[vf] 22 (0, 0)) ∧ ES w (w'.setCell ⟨fb, 0, none⟩ v') O stop fb v' vt (lf ++ [x]) lt la xs := by
  intro w' hw hg hv
  have hlo := h.lo
  have hsz := h.size
  have g1 : ∀ k, vf.ownBlock = some k → fb + 2 ≤ k := fun k e => (h.rf.lt k e).1
  have keep : ∀ {k : Nat} {o : Obj}, k < fb + 2 → W.heap[k]? = some o → w'.heap[k]? = some o := fun {k o} hk ho => (hg.block k (Array.getElem?_eq_some_iff.1 ho).1 (fun e => by have := g1 k e.symm; omega)).trans ho
  have hf := keep (by omega) h.f
  have oth : ∀ {k : Nat} {o : Obj}, k ≠ fb → w'.heap[k]? = some o → (w'.setCell ⟨fb, 0, none⟩ v').heap[k]? = some o := fun {k o} hk ho => (Below.heap_setCell _ _ _ _ hk).trans ho
  have hg2 := grownBy_setCell' w' fb v'
  have hv2 : ∀ k, v'.ownBlock = some k → fb + 2 ≤ k := fun k e => (hw.lt k e).1
  have hbel : Below w.heap.size w w' := h.below.grown hg h.below.size (fun k e => by have := g1 k e; omega)
  refine ⟨hf, ⟨hbel.setCell (by show w.heap.size ≤ fb; omega) _, oth (by omega) (keep (by omega) h.c), oth (by omega) (keep (by omega) h.s), oth (by omega) (keep (by omega) h.r), hlo, ?_, oth (by omega) (keep (by omega) h.t), ?_, ?_, ?_, fun hx => ?_⟩⟩
  · simp [World.setCell, Array.getElem?_modify, hf]
  · have e : vals (lf ++ [x]) = vals lf ++ [.int .i64 x] := by simp
    rw [e, List.length_append]
    exact hw.kept hg2 (.inr fun e => by have := hv2 fb e; omega)
  · refine (h.rt.kept hg ?_).kept hg2 (.inr fun e => by have := (h.rt.lt fb e).1; omega)
    cases q : vt.ownBlock with
    | none => exact .inl rfl
    | some g => exact .inr fun e => h.ne g e.symm q
  · intro g e q
    rcases hv with e1 | e1
    · exact h.ne g (e1 ▸ e) q
    · have := (h.rt.lt g q).2
      rw [e] at e1
      injection e1 with e1
      omega
  · obtain ⟨rb, e, h1, h2, h3, h4, h5⟩ := h.row hx
    have hb : (w'.setCell ⟨fb, 0, none⟩ v').heap[rb]? = W.heap[rb]? := (Below.heap_setCell _ _ _ _ (by show rb ≠ fb; omega)).trans (hg.block rb h2 (fun q => h3 q.symm))
    refine ⟨rb, e, h1, by have := hg.size; simp [World.setCell]; omega, fun q => ?_, h4, fun j x hj => (World.cell?_of_block (a := ⟨rb, j, none⟩) hb).trans (h5 j x hj)⟩
    rcases hv with e1 | e1
    · exact h3 (e1 ▸ q)
    · rw [q] at e1; injection e1 with e1; omega
theorem ES.pushT (h : ES w W O stop fb vf vt lf lt la xs) (x : Int) :
    ∀ w', w'.ownsRow (fb + 2) 3 1 v' (lt.length + 1) (vals lt ++ [.int .i64 x]) → W.grownBy w' vt.ownBlock → (v'.ownBlock = vt.ownBlock ∨ v'.ownBlock = some W.heap.size) →
      w'.heap[fb + 1]? = some (.cells #[vt] 22 (0, 0)) ∧ ES w (w'.setCell ⟨fb + 1, 0, none⟩ v') O stop fb vf v' lf (lt ++ [x]) la xs := by
  intro w' hw hg hv
  have hlo := h.lo
  have hsz := h.size
  have g1 : ∀ k, vt.ownBlock = some k → fb + 2 ≤ k := fun k e => (h.rt.lt k e).1
  have keep : ∀ {k : Nat} {o : Obj}, k < fb + 2 → W.heap[k]? = some o → w'.heap[k]? = some o := fun {k o} hk ho => (hg.block k (Array.getElem?_eq_some_iff.1 ho).1 (fun e => by have := g1 k e.symm; omega)).trans ho
  have ht := keep (by omega) h.t
  have oth : ∀ {k : Nat} {o : Obj}, k ≠ fb + 1 → w'.heap[k]? = some o → (w'.setCell ⟨fb + 1, 0, none⟩ v').heap[k]? = some o := fun {k o} hk ho => (Below.heap_setCell _ _ _ _ hk).trans ho
  have hg2 := grownBy_setCell' w' (fb + 1) v'
  have hv2 : ∀ k, v'.ownBlock = some k → fb + 2 ≤ k := fun k e => (hw.lt k e).1
  have hbel : Below w.heap.size w w' := h.below.grown hg h.below.size (fun k e => by have := g1 k e; omega)
  refine ⟨ht, ⟨hbel.setCell (by show w.heap.size ≤ fb + 1; omega) _, oth (by omega) (keep (by omega) h.c), oth (by omega) (keep (by omega) h.s), oth (by omega) (keep (by omega) h.r), hlo, oth (by omega) (keep (by omega) h.f), ?_, ?_, ?_, ?_, fun hx => ?_⟩⟩
  · simp [World.setCell, Array.getElem?_modify, ht]
  · refine (h.rf.kept hg ?_).kept hg2 (.inr fun e => by have := (h.rf.lt _ e).1; omega)
    cases q : vf.ownBlock with
    | none => exact .inl rfl
    | some g => exact .inr fun e => h.ne g q e.symm
  · have e : vals (lt ++ [x]) = vals lt ++ [.int .i64 x] := by simp
    rw [e, List.length_append]
    exact hw.kept hg2 (.inr fun e => by have := hv2 _ e; omega)
  · intro g q e
    rcases hv with e1 | e1
    · exact h.ne g q (e1 ▸ e)
    · have := (h.rf.lt g q).2
      rw [e] at e1
      injection e1 with e1
      omega
  · obtain ⟨rb, e, h1, h2, h3, h4, h5⟩ := h.row hx
    have hb : (w'.setCell ⟨fb + 1, 0, none⟩ v').heap[rb]? = W.heap[rb]? := (Below.heap_setCell _ _ _ _ (by show rb ≠ fb + 1; omega)).trans (hg.block rb h2 (fun q => h4 q.symm))
    refine ⟨rb, e, h1, by have := hg.size; simp [World.setCell]; omega, h3, fun q => ?_, fun j x hj => (World.cell?_of_block (a := ⟨rb, j, none⟩) hb).trans (h5 j x hj)⟩
    rcases hv with e1 | e1
    · exact h4 (e1 ▸ q)
    · rw [q] at e1; injection e1 with e1; omega
end
theorem rowE_len (i : Nat) (r : IR) : (rowE i r).length ≤ 2 := by
  rw [rowE, List.length_map]; exact nxt_two _ _ _ _
theorem eds_len (rs : List IR) : ∀ i, (eds rs i).length ≤ 2 * i := by
  intro i
  induction i with
  | zero => simp [eds]
  | succ i ih =>
    unfold eds
    rw [List.length_append]
    split
    · rename_i r _
      have := rowE_len i r
      omega
    · simp; omega
theorem part_len (rs : List IR) (k j : Nat) (r : IR) : (eds rs k ++ (rowE k r).take j).length ≤ 2 * k + 2 := by
  have h1 := eds_len rs k
  have h2 := rowE_len k r
  rw [List.length_append, List.length_take]
  omega
theorem edgesf_i (m : Array Value) (hm : m.size = 8) (w : World) : Calls Try.prog 16 #[.agg m] w fun e w' => e = .returned (.func (.func 23) #[] #[.pointer (some ⟨w.heap.size, 0, none⟩)]) ∧ w' = w.alloc (.cells m 42) := by
  go_enter Try.func16, Try.ntmps16
  go_wp2
  go_ret
  exact ⟨rfl, rfl⟩
theorem KE.refl (N Nb : Nat) (W : World) : KE N Nb W W := ⟨Nat.le_refl _, fun _ _ => rfl, fun _ _ _ _ _ h => h⟩
theorem KE.put {N Nb B : Nat} (hN : N ≤ B) (W : World) (l : Nat) (o o' : Obj) (hB : B ≤ l) (hl : W.heap[l]? = some o) (ho : o.isCells = false) (_ : o.isWalk = false) : KE N Nb W (W.putObj l o') :=
  ⟨by simp [World.putObj], fun i hi => World.putObj_heap_other (by omega), fun i vs t z _ hi => (World.putObj_heap_other (fun e => by subst e; rw [hl] at hi; cases hi; cases ho)).trans hi⟩
/-- A slice of numbers in a block below a bound. -/
def RowB (B : Nat) (W : World) (v : Value) (xs : List Int) : Prop := ∃ a cap, v = .slice a xs.length cap ∧ (xs ≠ [] → ∃ b, a = some ⟨b, 0, none⟩ ∧ b < B ∧ Row W b xs)
theorem rowB_of {W : World} {base n : Nat} {v : Value} {xs : List Int} (h : W.ownsRow base 3 1 v n (vals xs)) (hn : n = xs.length) : RowB W.heap.size W v xs := by
  subst hn
  obtain ⟨A, c, rfl⟩ := own_form' h
  refine ⟨A, c, rfl, fun hx => ?_⟩
  obtain ⟨g, cap, e, h1, -, h3⟩ := row_cell h (by cases xs <;> simp_all)
  cases e
  exact ⟨g, rfl, h1, fun j x hj => h3 j _ (by rw [List.getElem?_map, hj]; rfl)⟩
/-- What the law's blocks hold while the edges come one by one. -/
structure EP (w W : World) (stop : Int) (fb Nb : Nat) (vf vt : Value) (L : List (Int × Int)) (cnt : Nat) : Prop where
  below : Below w.heap.size w W
  s : W.heap[w.heap.size + 1]? = some (.cells #[.int .i64 stop] 3 (0, 0))
  r : W.heap[w.heap.size + 1 + 1]? = some (.cells #[.bool false] 4 (0, 0))
  lo : w.heap.size + 3 ≤ fb
  lo2 : fb + 2 ≤ Nb
  f : W.heap[fb]? = some (.cells #[vf] 22 (0, 0))
  t : W.heap[fb + 1]? = some (.cells #[vt] 22 (0, 0))
  nb : W.heap[Nb]? = some (.cells #[.int .i64 cnt] 3 (0, 0))
  rf : RowB Nb W vf (L.map Prod.fst)
  rt : RowB Nb W vt (L.map Prod.snd)
theorem cells_of {W : World} {b j : Nat} {v : Value} (h : W.cell? ⟨b, j, none⟩ = some v) : ∃ vs t z, W.heap[b]? = some (.cells vs t z) := by
  unfold World.cell? at h
  cases ho : W.heap[b]? with
  | none => simp [ho] at h
  | some o => cases o <;> simp_all
theorem RowB.keep {B : Nat} {W W' : World} {v : Value} {xs : List Int} (h : RowB B W v xs) (hk : ∀ (k : Nat) (vs : Array Value) (t : TypeId) (z : Nat × Nat), k < B → W.heap[k]? = some (.cells vs t z) → W'.heap[k]? = some (.cells vs t z)) : RowB B W' v xs := by
  obtain ⟨a, cap, e, h⟩ := h
  refine ⟨a, cap, e, fun hx => ?_⟩
  obtain ⟨b, e2, hb, hr⟩ := h hx
  refine ⟨b, e2, hb, fun j x hj => ?_⟩
  obtain ⟨vs, t, z, ho⟩ := cells_of (hr j x hj)
  exact (World.cell?_of_block (a := ⟨b, j, none⟩) ((hk b vs t z hb ho).trans ho.symm)).trans (hr j x hj)
theorem EP.keep {w W W' : World} {stop : Int} {fb Nb cnt cnt' : Nat} {vf vt : Value} {L : List (Int × Int)} (h : EP w W stop fb Nb vf vt L cnt) (hb : Below w.heap.size w W')
    (hk : ∀ (k : Nat) (vs : Array Value) (t : TypeId) (z : Nat × Nat), k < Nb → W.heap[k]? = some (.cells vs t z) → W'.heap[k]? = some (.cells vs t z)) (hn : W'.heap[Nb]? = some (.cells #[.int .i64 cnt'] 3 (0, 0))) : EP w W' stop fb Nb vf vt L cnt' := by
  have h1 := h.lo
  have h2 := h.lo2
  exact ⟨hb, hk _ _ _ _ (by omega) h.s, hk _ _ _ _ (by omega) h.r, h1, h2, hk _ _ _ _ (by omega) h.f, hk _ _ _ _ (by omega) h.t, hn, h.rf.keep hk, h.rt.keep hk⟩
theorem EP.own {w W W' : World} {stop : Int} {fb Nb cnt B : Nat} {vf vt : Value} {L : List (Int × Int)} {row : Option Nat} (h : EP w W stop fb Nb vf vt L cnt) (hB : w.heap.size ≤ B) (hg : W.grownBy W' row) (hr : ∀ r, row = some r → B ≤ r ∧ ∃ o : Obj, W.heap[r]? = some o ∧ o.isCells = false) : EP w W' stop fb Nb vf vt L cnt := by
  have hc : ∀ (k : Nat) (vs : Array Value) (t : TypeId) (z : Nat × Nat), W.heap[k]? = some (.cells vs t z) → W'.heap[k]? = some (.cells vs t z) := fun k vs t z hk =>
    (hg.block k (Array.getElem?_eq_some_iff.1 hk).1 (fun e => by obtain ⟨-, o, ho, hoc⟩ := hr k e.symm; rw [hk] at ho; cases ho; cases hoc)).trans hk
  exact h.keep (h.below.grown hg h.below.size (fun k e => Nat.le_trans hB (hr k e).1)) (fun k vs t z _ hk => hc k vs t z hk) (hc _ _ _ _ h.nb)
theorem EP.count {w W : World} {stop : Int} {fb Nb cnt : Nat} {vf vt : Value} {L : List (Int × Int)} (h : EP w W stop fb Nb vf vt L cnt) (x : Int) (hx : x = ((cnt + 1 : Nat) : Int)) : EP w (W.setCell ⟨Nb, 0, none⟩ (.int .i64 x)) stop fb Nb vf vt L (cnt + 1) := by
  have h1 := h.lo
  have h2 := h.lo2
  subst hx
  exact h.keep (h.below.setCell (by show w.heap.size ≤ Nb; omega) _) (fun k vs t z hk ho => (Below.heap_setCell _ _ _ _ (by show k ≠ Nb; omega)).trans ho) (by simp [World.setCell, Array.getElem?_modify, h.nb])
theorem EP.drew {w W : World} {stop : Int} {fb Nb cnt : Nat} {vf vt : Value} {L : List (Int × Int)} (h : EP w W stop fb Nb vf vt L cnt) : EP w W.drew stop fb Nb vf vt L cnt :=
  h.keep ⟨h.below.os, h.below.tape, h.below.output, h.below.size, h.below.block⟩ (fun _ _ _ _ _ h => h) h.nb
theorem EP.start {w W W' : World} {O : Array Value} {stop : Int} {fb : Nat} {vf vt : Value} {L : List (Int × Int)} {la : Option Addr} {xs : List Int} (h : ES w W O stop fb vf vt (L.map Prod.fst) (L.map Prod.snd) la xs)
    (hb : Below W.heap.size W W') (hn : W'.heap[W.heap.size]? = some (.cells #[.int .i64 0] 3 (0, 0))) : EP w W' stop fb W.heap.size vf vt L 0 := by
  have o : ∀ {k : Nat} {x : Obj}, W.heap[k]? = some x → W'.heap[k]? = some x := fun hk => old_block hb (Array.getElem?_eq_some_iff.1 hk).1 hk
  exact ⟨after h.below hb h.below.size, o h.s, o h.r, h.lo, h.size, o h.f, o h.t, hn, (rowB_of h.rf (by simp)).keep (fun _ _ _ _ _ hk => o hk), (rowB_of h.rt (by simp)).keep (fun _ _ _ _ _ hk => o hk)⟩
theorem RowB.get {B m c : Nat} {W : World} {a : Option Addr} {xs : List Int} (h : RowB B W (.slice a m c) xs) {j : Nat} {x : Int} (hj : xs[j]? = some x) : ∃ b, a = some ⟨b, 0, none⟩ ∧ W.cell? ⟨b, j, none⟩ = some (.int .i64 x) := by
  obtain ⟨a', c', e, h⟩ := h
  cases e
  obtain ⟨b, e2, -, hr⟩ := h (by rintro rfl; simp at hj)
  exact ⟨b, e2, hr j x hj⟩
theorem pre_snoc {α : Type} {pre l : List α} {x : α} (hp : pre <+: l) (hx : l[pre.length]? = some x) : pre ++ [x] <+: l := by
  obtain ⟨t, rfl⟩ := hp
  rw [List.getElem?_append_right (Nat.le_refl _), Nat.sub_self] at hx
  cases t with
  | nil => simp at hx
  | cons y t => simp at hx; subst hx; exact ⟨t, by simp⟩
theorem pre_at {α : Type} {pre l : List α} {x : α} (hp : pre ++ [x] <+: l) : l[pre.length]? = some x := by
  obtain ⟨t, rfl⟩ := hp
  simp
theorem KE.setNb {N Nb : Nat} (W : World) (v : Value) (h : N ≤ Nb) : KE N Nb W (W.setCell ⟨Nb, 0, none⟩ v) :=
  ⟨by simp [World.setCell], fun k hk => Below.heap_setCell _ _ _ _ (by show k ≠ Nb; omega), fun k vs t z hne hk => (Below.heap_setCell _ _ _ _ hne).trans hk⟩
end Go.Proofs.Ytplpjckkocccfaa
