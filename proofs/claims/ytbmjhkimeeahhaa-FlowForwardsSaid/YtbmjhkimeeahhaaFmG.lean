/- What FlowForwards asks of an order, its loops and its stretches. Plain. No conditions. -/
import Derived.Test.YtbmjhkimeeahhaaFmB
import Derived.Test.YtbmjhkimeeahhaaFlZ
namespace Go.Proofs.Ytbmjhkimeeahhaa
open Go.RowKit Go.Maps
set_option linter.unusedVariables false
set_option linter.unusedSimpArgs false
/-- What is in an order is what is reached. -/
theorem OrderIs.ways {x : CoD} {O : List Nat} (h : OrderIs x O) (hn : 0 < x.ins.length) (k : Nat) : k ∈ O ↔ Way (nxE x) 0 k := by
  rcases h with ⟨h0, -⟩ | ⟨h0, l, s, ⟨m, hK⟩, rfl⟩
  · omega
  · rw [List.mem_reverse, hK.perm k]
    exact walk_ways hK k
theorem OrderIs.closed {x : CoD} {O : List Nat} (h : OrderIs x O) {k y : Nat} (hk : k ∈ O) (hy : y ∈ nxE x k) : y ∈ O := by
  have hn : 0 < x.ins.length := by have := h.facts.2.1 k hk; omega
  rw [h.ways hn] at hk ⊢
  exact hk.trans (.step hy (.here y))
/-- Where each stands, one more than its place; 0 if nowhere. -/
def plF (O : List Nat) : Nat → Nat → Nat
  | 0 => fun _ => 0
  | i + 1 => fun k => if O[i]? = some k then i + 1 else plF O i k
theorem plF_none {O : List Nat} {k : Nat} : ∀ {i : Nat}, (∀ j, j < i → O[j]? ≠ some k) → plF O i k = 0
  | 0, _ => rfl
  | i + 1, h => by
    unfold plF
    rw [if_neg (h i (by omega))]
    exact plF_none (fun j hj => h j (by omega))
theorem plF_some {O : List Nat} (hd : O.Nodup) {k j : Nat} (hk : O[j]? = some k) : ∀ {i : Nat}, j < i → plF O i k = j + 1
  | 0, h => absurd h (by omega)
  | i + 1, h => by
    unfold plF
    by_cases e : j = i
    · subst e
      rw [if_pos hk]
    · rw [if_neg (fun q => ?_)]
      · exact plF_some hd hk (by omega)
      · obtain ⟨h1, h2⟩ := List.getElem?_eq_some_iff.1 hk
        obtain ⟨h3, h4⟩ := List.getElem?_eq_some_iff.1 q
        exact (List.pairwise_iff_getElem.1 hd j i h1 h3 (by omega)) (h2.trans h4.symm)
theorem nodup_at {O : List Nat} (hd : O.Nodup) {i j k : Nat} (hi : O[i]? = some k) (hj : O[j]? = some k) : i = j := by
  obtain ⟨h1, h2⟩ := List.getElem?_eq_some_iff.1 hi
  obtain ⟨h3, h4⟩ := List.getElem?_eq_some_iff.1 hj
  rcases Nat.lt_trichotomy i j with h | h | h
  · exact absurd (h2.trans h4.symm) (List.pairwise_iff_getElem.1 hd i j h1 h3 h)
  · exact h
  · exact absurd (h4.trans h2.symm) (List.pairwise_iff_getElem.1 hd j i h3 h1 h)
/-- An edge backwards leads to a loop. -/
theorem loops_mem {x : CoD} {O : List Nat} (h : OrderIs x O) {i j k y : Nat} (hi : O[i]? = some k) (hj : O[j]? = some y) (hy : y ∈ nxE x k) (hle : j ≤ i) : y ∈ loopsL x O := by
  have hd := h.facts.1
  have hyn := h.facts.2.1 y (List.mem_of_getElem? hj)
  have hkn := h.facts.2.1 k (List.mem_of_getElem? hi)
  obtain ⟨r, hr⟩ := get_some (l := x.ins) (i := k) rfl hkn
  unfold loopsL
  rw [List.mem_filter]
  refine ⟨List.mem_range.2 hyn, ?_⟩
  unfold headM
  rw [List.any_eq_true]
  have hmem : ((k : Int), (y : Int)) ∈ eds x.ins x.ins.length := by
    obtain ⟨v, hv, e⟩ := List.mem_map.1 hy
    unfold edgesL at hv
    rw [hr] at hv
    obtain ⟨h1, h2⟩ := List.mem_filter.1 hv
    have : v = (y : Int) := by simp [inN] at h2; omega
    subst this
    exact eds_mem hkn hr h1
  refine ⟨_, hmem, ?_⟩
  have e1 : O.any (fun q => decide ((q : Int) = (k : Int))) = true := by
    rw [List.any_eq_true]
    exact ⟨k, List.mem_of_getElem? hi, by simp⟩
  have e2 : inN x.ins.length (y : Int) = true := inN_t (by omega) (by omega)
  simp only [hitO, e1, e2, plO_at hd hi, plO_at hd hj, Bool.true_and, Bool.and_eq_true, decide_eq_true_eq]
  exact ⟨by omega, trivial⟩
/-- One that is reached, and begins no stretch, stands behind one that is reached. -/
theorem beg_mono (x : CoD) (R : Met) (k : Nat) : ∀ {i j : Nat}, i ≤ j → begK x R i k = true → begK x R j k = true
  | i, 0, h, hb => by obtain rfl : i = 0 := by omega
                      exact hb
  | i, j + 1, h, hb => by
    by_cases e : i = j + 1
    · exact e ▸ hb
    · simp [begK, beg_mono x R k (show i ≤ j by omega) hb]
theorem way_last {nx : Nat → List Nat} {a k : Nat} (h : Way nx a k) : k = a ∨ ∃ y, Way nx a y ∧ k ∈ nx y := by
  induction h with
  | here a => exact .inl rfl
  | @step a b c hb hw ih =>
    rcases ih with rfl | ⟨y, hy, hc⟩
    · exact .inr ⟨a, .here a, hb⟩
    · exact .inr ⟨y, .step hb hy, hc⟩
theorem beg_none {x : CoD} {m : Met} (hm : ∀ k, k < x.ins.length → (m k = true ↔ Way (nxE x) 0 k)) {i : Nat} (hi : i < x.ins.length) (h1 : m i = true) (h2 : begK x m x.ins.length i = false) : 0 < i ∧ m (i - 1) = true := by
  have h0 : i ≠ 0 := fun e => by
    subst e
    rw [beg_first x m _ (by omega)] at h2
    cases h2
  rcases way_last ((hm i hi).1 h1) with e | ⟨y, hy, hk⟩
  · exact absurd e h0
  · have hyn : y < x.ins.length := by
      by_cases q : y < x.ins.length
      · exact q
      · have : x.ins[y]? = none := List.getElem?_eq_none (by omega)
        simp [nxE, edgesL, this] at hk
    obtain ⟨r, hr⟩ := get_some (l := x.ins) (i := y) rfl hyn
    have hmy := (hm y hyn).2 hy
    rw [← nxE_of hr] at hk
    cases hj : isJ r
    case true =>
      have hb : begK x m (y + 1) i = true := by
        simp [begK, hr, begR, hj, hmy, hk]
      rw [beg_mono x m i (show y + 1 ≤ x.ins.length by omega) hb] at h2
      cases h2
    case false =>
      have hn : nextL r (y : Int) = [(y : Int) + 1] := by
        obtain ⟨op, d, a, b, tt, el, f, n, l, c, sg, xs, ms⟩ := r
        simp [isJ] at hj
        exact nextL_else hj.1.1 hj.1.2 hj.2
      rw [hn] at hk
      have : i = y + 1 := by
        unfold toN at hk
        obtain ⟨v, hv, e⟩ := List.mem_map.1 hk
        obtain ⟨h3, h4⟩ := List.mem_filter.1 hv
        rw [List.mem_singleton] at h3
        omega
      subst this
      exact ⟨by omega, hmy⟩
/-- How many of the first i are reached. -/
def cntM (m : Met) (i : Nat) : Nat := ((List.range i).filter m).length
theorem cnt_succ (m : Met) (i : Nat) : cntM m (i + 1) = cntM m i + (if m i then 1 else 0) := by
  unfold cntM
  rw [List.range_succ, List.filter_append, List.length_append]
  cases h : m i <;> simp [h]
def sumP : List (Nat × Nat) → Nat
  | [] => 0
  | p :: l => (p.2 - p.1 + 1) + sumP l
theorem sumP_app (l k : List (Nat × Nat)) : sumP (l ++ k) = sumP l + sumP k := by
  induction l with
  | nil => simp [sumP]
  | cons p l ih => simp [sumP, ih]; omega
/-- What stretches are: in order, apart, and as many as are reached. -/
structure BInv (m : Met) (i : Nat) (l : List (Nat × Nat)) : Prop where
  up : ∀ p ∈ l, p.1 ≤ p.2 ∧ p.2 < i
  apart : ∀ j p q, l[j]? = some p → l[j + 1]? = some q → p.2 < q.1
  sum : sumP l = cntM m i
  last : 0 < i → m (i - 1) = true → ∃ l' a, l = l' ++ [(a, i - 1)]
theorem blk_inv {x : CoD} {m : Met} (hm : ∀ k, k < x.ins.length → (m k = true ↔ Way (nxE x) 0 k)) : ∀ i, i ≤ x.ins.length → BInv m i (blkL m (begK x m x.ins.length) i)
  | 0, _ => ⟨fun p hp => (by cases hp), fun j p q h => (by simp [blkL] at h), rfl, fun h => absurd h (by omega)⟩
  | i + 1, hi => by
    have ih := blk_inv hm i (by omega)
    obtain ⟨l, hl⟩ : ∃ l, blkL m (begK x m x.ins.length) i = l := ⟨_, rfl⟩
    unfold blkL
    rw [hl] at ih ⊢
    cases h1 : m i
    case false =>
      simp only [Bool.false_eq_true, if_false]
      refine ⟨fun p hp => ?_, ih.apart, by rw [cnt_succ, h1]; exact ih.sum, fun _ h => ?_⟩
      · have := ih.up p hp; omega
      · rw [Nat.add_sub_cancel, h1] at h; cases h
    case true =>
      simp only [if_true]
      cases h2 : begK x m x.ins.length i
      case true =>
        simp only [if_true]
        refine ⟨fun p hp => ?_, fun j p q hp hq => ?_, ?_, fun _ _ => ⟨l, i, by simp⟩⟩
        · rcases List.mem_append.1 hp with hp | hp
          · have := ih.up p hp; omega
          · rw [List.mem_singleton] at hp
            subst hp
            exact ⟨Nat.le_refl _, by show i < i + 1; omega⟩
        · by_cases hj : j + 1 < l.length
          · rw [List.getElem?_append_left (by omega)] at hp
            rw [List.getElem?_append_left hj] at hq
            exact ih.apart j p q hp hq
          · have hl1 : j + 1 = l.length := by
              have := (List.getElem?_eq_some_iff.1 hq).1
              simp at this
              omega
            rw [List.getElem?_append_left (by omega)] at hp
            rw [List.getElem?_append_right (by omega), hl1, Nat.sub_self] at hq
            simp at hq
            subst hq
            exact (ih.up p (List.mem_of_getElem? hp)).2
        · rw [sumP_app, ih.sum, cnt_succ, h1]; simp [sumP]
      case false =>
        simp only [Bool.false_eq_true, if_false]
        obtain ⟨h3, h4⟩ := beg_none hm (by omega) h1 h2
        obtain ⟨l', a, rfl⟩ := ih.last h3 h4
        rw [setLast_app]
        have hal := (ih.up (a, i - 1) (by simp)).1
        refine ⟨fun p hp => ?_, fun j p q hp hq => ?_, ?_, fun _ _ => ⟨l', a, by simp⟩⟩
        · rcases List.mem_append.1 hp with hp | hp
          · have := ih.up p (List.mem_append_left _ hp); omega
          · rw [List.mem_singleton] at hp
            subst hp
            show a ≤ i ∧ i < i + 1
            simp only at hal
            omega
        · by_cases hj : j + 1 < l'.length
          · rw [List.getElem?_append_left (by omega)] at hp
            rw [List.getElem?_append_left hj] at hq
            exact ih.apart j p q (by rw [List.getElem?_append_left (by omega)]; exact hp) (by rw [List.getElem?_append_left hj]; exact hq)
          · have hl1 : j + 1 = l'.length := by
              have := (List.getElem?_eq_some_iff.1 hq).1
              simp at this
              omega
            have hp' := hp
            rw [List.getElem?_append_left (by omega)] at hp
            rw [List.getElem?_append_right (by omega), hl1, Nat.sub_self] at hq
            simp at hq
            subst hq
            exact ih.apart j p (a, i - 1) (by rw [List.getElem?_append_left (by omega)]; exact hp) (by rw [List.getElem?_append_right (by omega), hl1, Nat.sub_self]; rfl)
        · have hs := ih.sum
          rw [sumP_app] at hs ⊢
          rw [cnt_succ, h1]
          simp only [sumP] at hs ⊢
          simp only [if_true]
          simp only at hal
          omega
/-- As many as are reached stand in the order. -/
theorem cnt_order {x : CoD} {m : Met} {O : List Nat} (h : OrderIs x O) (hm : ∀ k, k < x.ins.length → (m k = true ↔ Way (nxE x) 0 k)) : cntM m x.ins.length = O.length := by
  by_cases hn : 0 < x.ins.length
  · unfold cntM
    refine List.Perm.length_eq ?_
    refine (List.perm_ext_iff_of_nodup (List.nodup_range.filter _) h.facts.1).2 fun k => ?_
    rw [List.mem_filter, List.mem_range]
    constructor
    · rintro ⟨h1, h2⟩
      exact (h.ways hn k).2 ((hm k h1).1 h2)
    · intro hk
      have h1 := h.facts.2.1 k hk
      exact ⟨h1, (hm k h1).2 ((h.ways hn k).1 hk)⟩
  · have h0 : x.ins.length = 0 := by omega
    rcases h with ⟨-, rfl⟩ | ⟨h1, -⟩
    · rw [h0]; rfl
    · omega
end Go.Proofs.Ytbmjhkimeeahhaa
