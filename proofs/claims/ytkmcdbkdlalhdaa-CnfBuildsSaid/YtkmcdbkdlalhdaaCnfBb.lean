/- Formulas whose memory is known by its blocks; an append of slices. Conditions: at most 100000 clauses. -/
import Derived.Test.YtkmcdbkdlalhdaaCnfBa
import Derived.Test.YtkmcdbkdlalhdaaCnfEa
import Derived.Test.YtkmcdbkdlalhdaaCnfR
namespace Go.Proofs.Ytkmcdbkdlalhdaa
open Go.RowKit Go.Maps Go.Lib Go.Sort
set_option linter.unusedVariables false
set_option linter.unusedSimpArgs false
/-- The slice at A of n places holds the values xs, in one of the blocks P. -/
def ValsP (w : World) (P : Nat → Prop) (A : Option Addr) (n : Nat) (xs : List Value) : Prop :=
  xs.length = n ∧ (n = 0 ∨ ∃ b off, A = some ⟨b, off, none⟩ ∧ P b ∧ b < w.heap.size ∧ ∀ j u, xs[j]? = some u → w.cell? ⟨b, off + j, none⟩ = some u)
def IntsP (w : World) (P : Nat → Prop) (v : Value) (xs : List Int) : Prop := ∃ A c, v = .slice A xs.length c ∧ xs.length ≤ c ∧ c ≤ 9223372036854775807 ∧ ValsP w P A xs.length (xs.map (Value.int .i64))
def ListsP (w : World) (P : Nat → Prop) (A : Option Addr) (n : Nat) (ls : List (List Int)) : Prop :=
  ∃ vs : List Value, ValsP w P A n vs ∧ vs.length = ls.length ∧ (∀ u ∈ vs, u.oneCell' = true) ∧ ∀ (i : Nat) (xs : List Int), ls[i]? = some xs → ∃ v, vs[i]? = some v ∧ IntsP w P v xs
section
variable {w w' : World} {P P' : Nat → Prop} {n : Nat} {A : Option Addr}
theorem ValsP.vals {xs : List Value} (h : ValsP w P A n xs) : Vals w w.heap.size A n xs :=
  ⟨h.1, h.2.imp id fun ⟨b, off, e, _, hb, hc⟩ => ⟨b, off, e, hb, hc⟩⟩
theorem ValsP.keep {xs : List Value} (h : ValsP w P A n xs) (hs : w.heap.size ≤ w'.heap.size) (hk : ∀ b, P b → b < w.heap.size → w'.heap[b]? = w.heap[b]?) : ValsP w' P A n xs :=
  ⟨h.1, h.2.imp id fun ⟨b, off, e, hp, hb, hc⟩ => ⟨b, off, e, hp, Nat.lt_of_lt_of_le hb hs, fun j u hu => (World.cell?_of_block (hk b hp hb)).trans (hc j u hu)⟩⟩
theorem ValsP.imp {xs : List Value} (h : ValsP w P A n xs) (hp : ∀ b, b < w.heap.size → P b → P' b) : ValsP w P' A n xs :=
  ⟨h.1, h.2.imp id fun ⟨b, off, e, q, hb, hc⟩ => ⟨b, off, e, hp b hb q, hb, hc⟩⟩
theorem IntsP.keep {v : Value} {xs : List Int} (h : IntsP w P v xs) (hs : w.heap.size ≤ w'.heap.size) (hk : ∀ b, P b → b < w.heap.size → w'.heap[b]? = w.heap[b]?) : IntsP w' P v xs := by
  obtain ⟨A, c, e, h1, h2, h3⟩ := h
  exact ⟨A, c, e, h1, h2, h3.keep hs hk⟩
theorem IntsP.imp {v : Value} {xs : List Int} (h : IntsP w P v xs) (hp : ∀ b, b < w.heap.size → P b → P' b) : IntsP w P' v xs := by
  obtain ⟨A, c, e, h1, h2, h3⟩ := h
  exact ⟨A, c, e, h1, h2, h3.imp hp⟩
theorem IntsP.isInts {v : Value} {xs : List Int} (h : IntsP w P v xs) : IsInts w w.heap.size v xs := by
  obtain ⟨A, c, e, h1, h2, h3⟩ := h
  exact ⟨A, c, e, h1, h2, h3.vals⟩
theorem ListsP.lists {ls : List (List Int)} (h : ListsP w P A n ls) : Lists w w.heap.size A n ls := by
  obtain ⟨vs, h1, h2, h4, h3⟩ := h
  exact ⟨vs, h1.vals, h2, fun i xs hx => let ⟨v, hv, hi⟩ := h3 i xs hx; ⟨v, hv, hi.isInts⟩⟩
theorem ListsP.keep {ls : List (List Int)} (h : ListsP w P A n ls) (hs : w.heap.size ≤ w'.heap.size) (hk : ∀ b, P b → b < w.heap.size → w'.heap[b]? = w.heap[b]?) : ListsP w' P A n ls := by
  obtain ⟨vs, h1, h2, h4, h3⟩ := h
  exact ⟨vs, h1.keep hs hk, h2, h4, fun i xs hx => let ⟨v, hv, hi⟩ := h3 i xs hx; ⟨v, hv, hi.keep hs hk⟩⟩
theorem ListsP.imp {ls : List (List Int)} (h : ListsP w P A n ls) (hp : ∀ b, b < w.heap.size → P b → P' b) : ListsP w P' A n ls := by
  obtain ⟨vs, h1, h2, h4, h3⟩ := h
  exact ⟨vs, h1.imp hp, h2, h4, fun i xs hx => let ⟨v, hv, hi⟩ := h3 i xs hx; ⟨v, hv, hi.imp hp⟩⟩
theorem ListsP.len {ls : List (List Int)} (h : ListsP w P A n ls) : ls.length = n := h.lists.len
theorem ListsP.nil (w : World) (P : Nat → Prop) : ListsP w P none 0 [] := ⟨[], ⟨rfl, .inl rfl⟩, rfl, fun u hu => by simp at hu, fun i xs hx => by simp at hx⟩
end
theorem run_append_vals (w : World) (base n m c2 B : Nat) (v : Value) (A2 : Option Addr) (xs news : List Value) (ty : TypeId) (h : w.ownsRow base 40 1 v n xs) (hy : Vals w B A2 m news) (h1 : ∀ u ∈ news, u.oneCell' = true) (hb : base ≤ w.heap.size) (hnm : n + m ≤ 400000) :
    ∃ v' w', (Builtin.append_ #[22, 22] ty #[v, .slice A2 m c2]).run Try.prog w = .ok v' w' ∧ w'.ownsRow base 40 1 v' (n + m) (xs ++ news) ∧ w.grownBy w' v.ownBlock ∧ (v'.ownBlock = v.ownBlock ∨ v'.ownBlock = some w.heap.size) := by
  obtain ⟨i0t, hti, hz0, hz1, hz2⟩ := info_parts info40
  cases A2 with
  | none =>
    have hm : m = 0 := by
      rcases hy.2 with h0 | ⟨b, off, e, -⟩
      · exact h0
      · cases e
    subst hm
    obtain rfl : news = [] := List.eq_nil_of_length_eq_zero hy.1
    refine ⟨v, w, ?_, by simpa using h, World.grownBy.refl w _, .inl rfl⟩
    rcases h.2 with ⟨rfl, rfl⟩ | ⟨g, cap, cur, rfl, _, _, hnc, _⟩
    · simp [Builtin.append_, run_underlying Try.underlying22, sizeOf, typeInfo, hti, Builtin.lenOf, Builtin.firstCells]
    · simp [Builtin.append_, run_underlying Try.underlying22, sizeOf, typeInfo, hti, Builtin.lenOf, Builtin.firstCells, hnc, storeCells]
  | some ad =>
    have hcell : ∀ j u, news[j]? = some u → w.cell? (ad.add j) = some u := by
      intro j u hu
      rcases hy.2 with h0 | ⟨b, off, e, -, hc⟩
      · subst h0
        obtain rfl : news = [] := List.eq_nil_of_length_eq_zero hy.1
        simp at hu
      · injection e with e
        subst e
        have := hc j u hu
        unfold Addr.add
        split
        · rename_i h0; subst h0; simpa using this
        · exact this
    obtain ⟨v', w', hrun, hown, hgrow, -, hblk⟩ := run_append_own_at (P := Try.prog) w base 22 ty 40 i0t (.slice none 0 0) 1 24 Try.underlying22 hti hz0 hz1 hz2 rfl (by decide) v n xs h ad m c2 news (by rw [hy.1, Nat.mul_one]) hcell h1 (by unfold maxLen; omega) (by omega) hb
    exact ⟨v', w', hrun, hown, hgrow, hblk⟩
theorem step_append_vals {ops : Array Oper} {o : Oper} {a : Act} {w : World} {K : Act → World → Prop} {Q : Exit → Act → World → Prop} {E : Prop} (hgd : o.guard = none) (s x : Operand)
    (ho : o.op = .call { callee := .builtin .append, args := #[s, x], argTypes := #[22, 22] })
    (base n m c2 B : Nat) (v : Value) (A2 : Option Addr) (xs news : List Value) (hs : a.eval s = v) (hx : a.eval x = .slice A2 m c2) (h : w.ownsRow base 40 1 v n xs) (hy : Vals w B A2 m news) (h1 : ∀ u ∈ news, u.oneCell' = true) (hb : base ≤ w.heap.size) (hnm : n + m ≤ 400000)
    (hK : ∀ v' w', w'.ownsRow base 40 1 v' (n + m) (xs ++ news) → w.grownBy w' v.ownBlock → (v'.ownBlock = v.ownBlock ∨ v'.ownBlock = some w.heap.size) → K (a.put o.dst v') w') :
    if Region.wanted o (yielded ops a.tmps) = true then Oper.wp Try.prog o a w K Q else E := by
  have hw : Region.wanted o (yielded ops a.tmps) = true := by simp [Region.wanted, hgd]
  rw [if_pos hw]
  obtain ⟨v', w', hr, h2, h3, h4⟩ := run_append_vals w base n m c2 B v A2 xs news o.type h hy h1 hb hnm
  unfold Oper.wp execOp
  simp only [ho, resolve, invoke, builtin, Sem.run_bind, Sem.run_pure, Result.andThen_ok, List.map_toArray, List.map_cons, List.map_nil, hs, hx, hr]
  exact hK v' w' h2 h3 h4
/-- What a call of the statement's put leaves. -/
def PutPost (w : World) (P : Nat → Prop) (N : Int) (ls : List (List Int)) (k : Nat) (e : Ending) (w' : World) : Prop :=
  ∃ A6 n6 c6, e = .returned (form N A6 n6 c6) ∧ n6 ≤ k + 1 ∧ Hid (ListsP w' (fun b => P b ∨ w.heap.size ≤ b) A6 n6 ls) ∧ Hid (Below w.heap.size w w')
theorem rightF_one {N : Int} {xs : List Int} (h : 0 ≤ N ∧ N ≤ 100000) : rightF N [xs] = xs.all (lit N) := by
  simp [rightF, h]
theorem putp_no (N : Int) (ls : List (List Int)) (xs : List Int) (P : Nat → Prop) (A A5 : Option Addr) (n c n5 c5 : Nat) (w : World) (hL : ListsP w P A n ls) (hI : IntsP w P (.slice A5 n5 c5) xs) (h0 : 0 ≤ N ∧ N ≤ 100000) (hn5 : n5 ≤ 200000) (hx : xs.all (lit N) = false) :
    Calls Try.prog 21 #[form N A n c, .slice A5 n5 c5] w (PutPost w P N ls n) := by
  have HB2 := hid (below2 w (formO N A n c 24) (.cells #[.int .i64 0, .slice none 0 0] 24))
  have HX0 : Hid (((w.alloc (formO N A n c 24)).alloc (.cells #[.int .i64 0, .slice none 0 0] 24)).heap[w.heap.size]? = some (formO N A n c 24)) := hid (old_block (below1 _ _) (by simp) (heap_alloc_new w _))
  have HY0 : Hid (((w.alloc (formO N A n c 24)).alloc (.cells #[.int .i64 0, .slice none 0 0] 24)).heap[w.heap.size + 1]? = some (.cells #[.int .i64 0, .slice none 0 0] 24 (0, 0))) := hid (by rw [← World.size_alloc w (formO N A n c 24)]; exact heap_alloc_new _ _)
  have HII := hid hI.isInts
  have hlen : xs.length = n5 := by obtain ⟨A', c', e, -⟩ := hI; injection e with _ e1; exact e1.symm
  have HR := hid (rright_i N [xs] (some ⟨w.heap.size + 1 + 1, 0, none⟩) 1 1 (((w.alloc (formO N A n c 24)).alloc (.cells #[.int .i64 0, .slice none 0 0] 24)).alloc (.cells #[.slice A5 n5 c5] 40)).heap.size (((w.alloc (formO N A n c 24)).alloc (.cells #[.int .i64 0, .slice none 0 0] 24)).alloc (.cells #[.slice A5 n5 c5] 40)) (Nat.le_refl _)
    (one_list (v := .slice A5 n5 c5) (by
      have := heap_alloc_new ((w.alloc (formO N A n c 24)).alloc (.cells #[.int .i64 0, .slice none 0 0] 24)) (.cells #[.slice A5 n5 c5] 40)
      simp only [World.size_alloc] at this
      exact this) ((HII.out.below ((below3 w _ _ _))).more (by simp <;> omega))) (by omega) (short1 (by omega)))
  rw [rightF_one h0, hx] at HR
  have HLL := hid hL
  obtain ⟨Q, HQ⟩ : ∃ Q : Ending → World → Prop, Hid (Q = PutPost w P N ls n) := ⟨_, hid rfl⟩
  rw [← HQ.out]
  clear hL hI hx
  go_enter Try.func21, Try.ntmps21
  go_wp2_with (first
    | (go_at_call 11; go_must (refine (HR.out).mono ?_); rintro e w1 ⟨rfl, HB3⟩
       have HX1 := hid (old_block HB3.out (by simp <;> omega) (old_block (below1 _ (.cells #[.slice A5 n5 c5] 40)) (by simp <;> omega) HX0.out))
       have HY1 := hid (old_block HB3.out (by simp <;> omega) (old_block (below1 _ (.cells #[.slice A5 n5 c5] 40)) (by simp <;> omega) HY0.out))
       have hx1 := cells_at HX1.out
       have hy1 := cells_at HY1.out
       have hf1 := frozen_no HY1.out))
  refine bodyPost_ret (v := form N A n c) (res24 Try.results21 rfl (put2_heap _ _ HY1.out)) rfl ?_
  rw [HQ.out]
  have HW := hid (put2_below (.int .i64 N) (.slice A n c) ((below3 w (formO N A n c 24) (.cells #[.int .i64 0, .slice none 0 0] 24) (.cells #[.slice A5 n5 c5] 40)).trans (HB3.out.mono (by simp <;> omega))) (Nat.le_succ w.heap.size))
  exact ⟨A, n, c, rfl, by omega, hid ((HLL.out.keep HW.out.size fun b _ hb => HW.out.block b hb).imp fun b _ hb => .inl hb), HW⟩
/-- What holds within the statement's put. -/
structure PutW (w W : World) (N : Int) (A : Option Addr) (n c : Nat) : Prop where
  below : Below w.heap.size w W
  box : W.heap[w.heap.size]? = some (formO N A n c 24)
theorem bal {w W : World} {o : Obj} (h : Below w.heap.size w W) : Below w.heap.size w (W.alloc o) := h.alloc h.size o
theorem own_zero {W : World} {b n : Nat} {v : Value} {vs : List Value} (h : W.ownsRow b 40 1 v (0 + n) ([] ++ vs)) : ∃ A3 c3, v = .slice A3 n c3 ∧ W.ownsRow b 40 1 (.slice A3 n c3) n vs := by
  rw [Nat.zero_add, List.nil_append] at h
  obtain ⟨A3, c3, rfl⟩ := own_form' h
  exact ⟨A3, c3, rfl, h⟩
theorem own_put2 {W : World} {b n k t : Nat} {v : Value} {vs : List Value} {cs : Array Value} (h : W.ownsRow b 40 1 v n vs) (hk : W.heap[k]? = some (.cells cs t (0, 0))) (ht : t ≠ 40) (u0 u1 : Value) : ((W.setCell ⟨k, 0, none⟩ u0).setCell ⟨k, 1, none⟩ u1).ownsRow b 40 1 v n vs := by
  refine ⟨h.1, h.2.imp id ?_⟩
  rintro ⟨g, cap, cur, e, h1, h2, h3⟩
  refine ⟨g, cap, cur, e, h1, put2_other u0 u1 ?_ h2, h3⟩
  rintro rfl
  rw [h2] at hk
  injection hk with hk
  injection hk with _ hk
  exact ht hk.symm
theorem vals_own {W : World} {b n c : Nat} {A : Option Addr} {vs : List Value} {P : Nat → Prop} (h : W.ownsRow b 40 1 (.slice A n c) n vs) (hp : ∀ j, b ≤ j → P j) : ValsP W P A n vs := by
  refine ⟨by have := h.1; omega, ?_⟩
  rcases h.2 with ⟨e, h0⟩ | ⟨g, cap, cur, e, h1, h2, h3, h4, h5, h6⟩
  · exact .inl h0
  · right
    injection e with e e1
    refine ⟨g, 0, e, hp g h1, (Array.getElem?_eq_some_iff.1 h2).1, fun j u hu => ?_⟩
    rw [cells_at h2, ← h6, List.getElem?_take] at *
    rw [Nat.zero_add]
    split at hu
    · simpa using hu
    · cases hu
theorem put_list {w W : World} {b n c : Nat} {A : Option Addr} {v : Value} {P : Nat → Prop} {ls : List (List Int)} {xs : List Int} {vs : List Value} (hvl : vs.length = ls.length) (h1 : ∀ u ∈ vs, u.oneCell' = true) (hvi : ∀ (i : Nat) (xs : List Int), ls[i]? = some xs → ∃ v, vs[i]? = some v ∧ IntsP w P v xs)
    (hI : IntsP w P v xs) (hv1 : v.oneCell' = true) (hb : Below w.heap.size w W) (ho : W.ownsRow b 40 1 (.slice A (n + 1) c) (n + 1) (vs ++ [v])) (hbs : w.heap.size ≤ b) : ListsP W (fun j => P j ∨ w.heap.size ≤ j) A (n + 1) (ls ++ [xs]) := by
  refine ⟨vs ++ [v], vals_own ho fun j hj => .inr (Nat.le_trans hbs hj), by simp [hvl], fun u hu => ?_, fun i ys hy => ?_⟩
  · rcases List.mem_append.1 hu with hu | hu
    · exact h1 u hu
    · simp at hu; rw [hu]; exact hv1
  · have kk : ∀ {v' : Value} {zs : List Int}, IntsP w P v' zs → IntsP W (fun j => P j ∨ w.heap.size ≤ j) v' zs := fun q => (q.keep hb.size fun j _ hj => hb.block j hj).imp fun j _ hj => .inl hj
    by_cases hi : i < ls.length
    · rw [List.getElem?_append_left hi] at hy
      obtain ⟨v', e, q⟩ := hvi i ys hy
      exact ⟨v', by rw [List.getElem?_append_left (by omega)]; exact e, kk q⟩
    · rw [List.getElem?_append_right (by omega)] at hy
      have hi2 : i - ls.length = 0 := by
        by_cases h0 : i - ls.length = 0
        · exact h0
        · rw [List.getElem?_eq_none (by simp; omega)] at hy; cases hy
      rw [hi2] at hy
      simp at hy
      subst hy
      refine ⟨v, ?_, kk hI⟩
      rw [List.getElem?_append_right (by omega), show i - vs.length = 0 by omega]
      rfl
theorem grown_below {w1 W w3 : World} {row : Option Nat} (h : Below w1.heap.size w1 W) (hg : W.grownBy w3 row) (hr : ∀ j, row = some j → w1.heap.size ≤ j) : Below w1.heap.size w1 w3 := h.grown hg h.size hr
theorem row_at {k : Nat} {n c : Nat} : ∀ j, Value.ownBlock (.slice (some ⟨k, 0, none⟩) n c) = some j → k ≤ j := by
  intro j hj
  simp [Value.ownBlock] at hj
  omega
theorem row_own {W : World} {b n : Nat} {v : Value} {vs : List Value} (h : W.ownsRow b 40 1 v n vs) : ∀ j, v.ownBlock = some j → b ≤ j := fun j hj => (h.lt j hj).1
theorem kept_at {W w3 : World} {row : Option Nat} {k : Nat} {o : Obj} (hg : W.grownBy w3 row) (hh : W.heap[k]? = some o) (hne : ∀ j, row = some j → k ≠ j) : w3.heap[k]? = some o :=
  (hg.block k (Array.getElem?_eq_some_iff.1 hh).1 fun q => hne k q.symm rfl).trans hh
/-- What a made row is, and what stays of it. -/
theorem two_first (W : World) (o p : Obj) : ((W.alloc o).alloc p).heap[W.heap.size]? = some o := old_block (below1 _ _) (by simp) (heap_alloc_new W o)
theorem two_second (W : World) (o p : Obj) : ((W.alloc o).alloc p).heap[W.heap.size + 1]? = some p := by rw [← World.size_alloc W o]; exact heap_alloc_new _ _
theorem own_none {W : World} {b k : Nat} (h : W.heap[k]? = some (.cells #[] 40 (0, 0))) (hb : b ≤ k) : W.ownsRow b 40 1 (.slice (some ⟨k, 0, none⟩) 0 0) 0 [] :=
  ⟨rfl, .inr ⟨k, 0, #[], rfl, hb, h, Nat.le_refl _, Nat.zero_le _, rfl, rfl⟩⟩
theorem one_at {W : World} {k : Nat} {x : Value} {t : TypeId} (h : W.heap[k]? = some (.cells #[x] t (0, 0))) : ∀ j u, [x][j]? = some u → W.cell? ((⟨k, 0, none⟩ : Addr).add j) = some u := by
  intro j u hu
  rcases j with _ | j
  · simp at hu
    subst hu
    have := cells_at h 0
    simpa [Addr.add] using this
  · simp at hu
theorem one_vals {W : World} {k : Nat} {x : Value} (h : W.heap[k]? = some (.cells #[x] 40 (0, 0))) : Vals W W.heap.size (some ⟨k, 0, none⟩) 1 [x] :=
  ⟨rfl, .inr ⟨k, 0, rfl, (Array.getElem?_eq_some_iff.1 h).1, fun j u hu => by
    have := one_at h j u hu
    rcases j with _ | j
    · simpa [Addr.add] using this
    · simp at hu⟩⟩
theorem putw_put2 {w W : World} {N : Int} {A : Option Addr} {n c : Nat} (h : PutW w W N A n c) (u0 u1 : Value) : PutW w ((W.setCell ⟨w.heap.size + 1, 0, none⟩ u0).setCell ⟨w.heap.size + 1, 1, none⟩ u1) N A n c :=
  ⟨put2_below _ _ h.below (Nat.le_succ _), put2_other _ _ (by omega) h.box⟩
theorem putp_yes (N : Int) (ls : List (List Int)) (xs : List Int) (P : Nat → Prop) (A A5 : Option Addr) (n c n5 c5 : Nat) (w : World) (hL : ListsP w P A n ls) (hI : IntsP w P (.slice A5 n5 c5) xs) (h0 : 0 ≤ N ∧ N ≤ 100000) (hn : n ≤ 100000) (hn5 : n5 ≤ 200000) (hx : xs.all (lit N) = true) :
    Calls Try.prog 21 #[form N A n c, .slice A5 n5 c5] w (PutPost w P N (ls ++ [xs]) n) := by
  have HB2 := hid (below2 w (formO N A n c 24) (.cells #[.int .i64 0, .slice none 0 0] 24))
  have HX0 : Hid (((w.alloc (formO N A n c 24)).alloc (.cells #[.int .i64 0, .slice none 0 0] 24)).heap[w.heap.size]? = some (formO N A n c 24)) := hid (old_block (below1 _ _) (by simp) (heap_alloc_new w _))
  have HY0 : Hid (((w.alloc (formO N A n c 24)).alloc (.cells #[.int .i64 0, .slice none 0 0] 24)).heap[w.heap.size + 1]? = some (.cells #[.int .i64 0, .slice none 0 0] 24 (0, 0))) := hid (by rw [← World.size_alloc w (formO N A n c 24)]; exact heap_alloc_new _ _)
  have HII := hid hI.isInts
  have HR := hid (rright_i N [xs] (some ⟨w.heap.size + 1 + 1, 0, none⟩) 1 1 (((w.alloc (formO N A n c 24)).alloc (.cells #[.int .i64 0, .slice none 0 0] 24)).alloc (.cells #[.slice A5 n5 c5] 40)).heap.size (((w.alloc (formO N A n c 24)).alloc (.cells #[.int .i64 0, .slice none 0 0] 24)).alloc (.cells #[.slice A5 n5 c5] 40)) (Nat.le_refl _)
    (one_list (v := .slice A5 n5 c5) (by
      have := heap_alloc_new ((w.alloc (formO N A n c 24)).alloc (.cells #[.int .i64 0, .slice none 0 0] 24)) (.cells #[.slice A5 n5 c5] 40)
      simp only [World.size_alloc] at this
      exact this) ((HII.out.below ((below3 w _ _ _))).more (by simp <;> omega))) (by omega) (short1 (by
        obtain ⟨A', c', e, -⟩ := HII.out; injection e with _ e1; omega)))
  rw [rightF_one h0, hx] at HR
  obtain ⟨vs, hv, hvl, hv1, hvi⟩ := hL
  have HIN := hid hI
  have HVV := hid hv
  have HVL := hid hvl
  have HV1 := hid hv1
  have HVI := hid hvi
  obtain ⟨Q, HQ⟩ : ∃ Q : Ending → World → Prop, Hid (Q = PutPost w P N (ls ++ [xs]) n) := ⟨_, hid rfl⟩
  rw [← HQ.out]
  clear hI hx hv hvl hv1 hvi
  go_enter Try.func21, Try.ntmps21
  go_wp2_with (first
    | (go_at_call 11; go_must (refine (HR.out).mono ?_); rintro e w1 ⟨rfl, HB3⟩
       have HX1 := hid (old_block HB3.out (by simp <;> omega) (old_block (below1 _ (.cells #[.slice A5 n5 c5] 40)) (by simp <;> omega) HX0.out))
       have HY1 := hid (old_block HB3.out (by simp <;> omega) (old_block (below1 _ (.cells #[.slice A5 n5 c5] 40)) (by simp <;> omega) HY0.out))
       have hx1 := cells_at HX1.out
       have hy1 := cells_at HY1.out))
  have HW1 : Hid (Below w.heap.size w w1) := hid ((below3 w (formO N A n c 24) (.cells #[.int .i64 0, .slice none 0 0] 24) (.cells #[.slice A5 n5 c5] 40)).trans (HB3.out.mono (by simp <;> omega)))
  have hk : w.heap.size + 1 < w1.heap.size := (Array.getElem?_eq_some_iff.1 HY1.out).1
  have HR0 : Hid (Below w1.heap.size w1 w1.drew) := hid (below_drew1 w1)
  have HPW : Hid (∀ W, Below w1.heap.size w1 W → PutW w W N A n c) := hid fun W h => ⟨after HW1.out h HW1.out.size, old_block h (by omega) HX1.out⟩
  have HPR : Hid (∀ W, Below w1.heap.size w1 W → W.heap[w.heap.size + 1]? = some (.cells #[.int .i64 0, .slice none 0 0] 24 (0, 0))) := hid fun W h => old_block h hk HY1.out
  have HVW : Hid (∀ W, Below w1.heap.size w1 W → Vals W w1.heap.size A n vs) := hid fun W h => ((HVV.out.vals.below HW1.out).more HW1.out.size).below h
  have T1 : True := trivial
  have T2 : True := trivial
  clear HX0 HY0 HX1 HY1 hx1 hy1 HB2 HB3 HR HII
  go_region_held3 (fun W => Hid (PutW w W N A n c) ∧ ∀ i, W.cell? ⟨w.heap.size, i, none⟩ = (#[.int .i64 N, .slice A n c] : Array Value)[i]?)
    (first | exact ⟨HST, cells_at HST.out.box⟩ | exact ⟨hid (HPW.out _ HR2.out), cells_at (HPW.out _ HR2.out).box⟩ | exact ⟨hid (HPW.out _ HR1.out), cells_at (HPW.out _ HR1.out).box⟩ | exact ⟨hid (HPW.out _ (bal HR1.out)), cells_at (HPW.out _ (bal HR1.out)).box⟩ | exact ⟨hid (HPW.out _ HR0.out), cells_at (HPW.out _ HR0.out).box⟩ | exact ⟨hid (HPW.out _ (bal HR0.out)), cells_at (HPW.out _ (bal HR0.out)).box⟩ | exact ⟨hid (HPW.out _ (bal (bal HR0.out))), cells_at (HPW.out _ (bal (bal HR0.out))).box⟩)
    (first
      | (refine step_append_vals rfl (.tmp 15) (.tmp 17) rfl w1.heap.size 0 n c w1.heap.size (.slice (some ⟨w1.heap.size, 0, none⟩) 0 0) A [] vs rfl rfl (own_none (heap_alloc_new w1 _) (Nat.le_refl _)) (HVW.out _ (bal HR0.out)) HV1.out (bal HR0.out).size (by omega) ?_
         intro v' w3 hown hgrow hblk
         have HR1 := hid (grown_below (bal HR0.out) hgrow row_at)
         obtain ⟨A3, c3, rfl, hown3⟩ := own_zero hown
         have HO3 := hid hown3
         have tokA := T1
         clear hown hown3 hgrow hblk HR0 T1)
      | (refine step_append_vals rfl (.tmp 15) (.tmp 17) rfl w1.heap.size 0 n c w1.heap.size (.slice (some ⟨w1.heap.size, 0, none⟩) 0 0) A [] vs rfl rfl (own_none (two_first w1 _ (.cells #[.slice A5 n5 c5] 40)) (Nat.le_refl _)) (HVW.out _ (bal (bal HR0.out))) HV1.out (bal (bal HR0.out)).size (by omega) ?_
         intro v' w3 hown hgrow hblk
         have HC := hid (kept_at hgrow (two_second w1 _ _) (fun j hj e => by simp [Value.ownBlock] at hj; omega))
         have HR1 := hid (grown_below (bal (bal HR0.out)) hgrow row_at)
         obtain ⟨A3, c3, rfl, hown3⟩ := own_zero hown
         have HO3 := hid hown3
         have tokB := T1
         clear hown hown3 hgrow hblk HR0 T1)
      | (refine step_append_vals rfl (.tmp 15) (.tmp 17) rfl w1.heap.size 0 n c w1.heap.size (.slice (some ⟨w1.heap.size + 1, 0, none⟩) 0 0) A [] vs rfl rfl (own_none (two_second w1 (.cells #[.slice A5 n5 c5] 40) _) (Nat.le_succ _)) (HVW.out _ (bal (bal HR0.out))) HV1.out (bal (bal HR0.out)).size (by omega) ?_
         intro v' w3 hown hgrow hblk
         have HC := hid (kept_at hgrow (two_first w1 _ _) (fun j hj e => by simp [Value.ownBlock] at hj; omega))
         have HR1 := hid (grown_below (bal (bal HR0.out)) hgrow (fun j hj => Nat.le_trans (Nat.le_succ _) (row_at j hj)))
         obtain ⟨A3, c3, rfl, hown3⟩ := own_zero hown
         have HO3 := hid hown3
         have tokC := T1
         clear hown hown3 hgrow hblk HR0 T1)
      | (refine step_append_vals rfl (.tmp 18) (.tmp 20) rfl w1.heap.size n 1 1 _ (.slice A3 n c3) (some ⟨w3.heap.size, 0, none⟩) vs [.slice A5 n5 c5] rfl rfl (owns_below HO3.out (below1 w3 (.cells #[.slice A5 n5 c5] 40))) (one_vals (heap_alloc_new w3 (.cells #[.slice A5 n5 c5] 40))) (one_slice _ _ _) (bal HR1.out).size (by omega) ?_
         have hh := tokA
         intro v' w4 hown hgrow hblk
         obtain ⟨A6, c6, rfl⟩ := own_form' hown
         have HR2 := hid (grown_below (bal HR1.out) hgrow (row_own HO3.out))
         have HO4 := hid hown
         have HY4 := hid (HPR.out _ HR2.out)
         have hy4 := cells_at HY4.out
         have hf4 := frozen_no HY4.out
         have HST := hid (putw_put2 (HPW.out _ HR2.out) (.int .i64 N) (.slice A6 (n + 1) c6))
         have tokD := T2
         clear hown hgrow hblk HR1 T2)
      | (refine step_append_vals rfl (.tmp 18) (.tmp 20) rfl w1.heap.size n 1 1 _ (.slice A3 n c3) (some ⟨w1.heap.size + 1, 0, none⟩) vs [.slice A5 n5 c5] rfl rfl HO3.out (one_vals HC.out) (one_slice _ _ _) HR1.out.size (by omega) ?_
         have hh := tokB
         intro v' w4 hown hgrow hblk
         obtain ⟨A6, c6, rfl⟩ := own_form' hown
         have HR2 := hid (grown_below HR1.out hgrow (row_own HO3.out))
         have HO4 := hid hown
         have HY4 := hid (HPR.out _ HR2.out)
         have hy4 := cells_at HY4.out
         have hf4 := frozen_no HY4.out
         have HST := hid (putw_put2 (HPW.out _ HR2.out) (.int .i64 N) (.slice A6 (n + 1) c6))
         have tokD := T2
         clear hown hgrow hblk HR1 T2)
      | (refine step_append_vals rfl (.tmp 18) (.tmp 20) rfl w1.heap.size n 1 1 _ (.slice A3 n c3) (some ⟨w1.heap.size, 0, none⟩) vs [.slice A5 n5 c5] rfl rfl HO3.out (one_vals HC.out) (one_slice _ _ _) HR1.out.size (by omega) ?_
         have hh := tokC
         intro v' w4 hown hgrow hblk
         obtain ⟨A6, c6, rfl⟩ := own_form' hown
         have HR2 := hid (grown_below HR1.out hgrow (row_own HO3.out))
         have HO4 := hid hown
         have HY4 := hid (HPR.out _ HR2.out)
         have hy4 := cells_at HY4.out
         have hf4 := frozen_no HY4.out
         have HST := hid (putw_put2 (HPW.out _ HR2.out) (.int .i64 N) (.slice A6 (n + 1) c6))
         have tokD := T2
         clear hown hgrow hblk HR1 T2))
  all_goals
    go_wp2
    refine bodyPost_ret (v := form N A6 (n + 1) c6) (res24 Try.results21 rfl (put2_heap _ _ HY4.out)) rfl ?_
    rw [HQ.out]
    refine ⟨A6, n + 1, c6, rfl, Nat.le_refl _, hid ?_, hid HST.out.below⟩
    exact put_list HVL.out HV1.out HVI.out HIN.out rfl HST.out.below (own_put2 HO4.out HY4.out (by decide) _ _) HW1.out.size
/-- The statement's put. -/
theorem putp_i (N : Int) (ls : List (List Int)) (xs : List Int) (P : Nat → Prop) (A A5 : Option Addr) (n c n5 c5 : Nat) (w : World) (hL : ListsP w P A n ls) (hI : IntsP w P (.slice A5 n5 c5) xs) (h0 : 0 ≤ N ∧ N ≤ 100000) (hn : n ≤ 100000) (hn5 : n5 ≤ 200000) :
    Calls Try.prog 21 #[form N A n c, .slice A5 n5 c5] w (PutPost w P N (putF N ls xs) n) := by
  unfold putF
  cases hx : xs.all (lit N)
  · exact putp_no N ls xs P A A5 n c n5 c5 w hL hI h0 hn5 hx
  · exact putp_yes N ls xs P A A5 n c n5 c5 w hL hI h0 hn hn5 hx
end Go.Proofs.Ytkmcdbkdlalhdaa
