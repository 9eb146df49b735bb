/- What two clauses resolve to is true where they are; what is left of a formula is true where it is. No conditions. -/
import Derived.Test.YtkmcdbkdlalhdaaCnfX
import Derived.Test.YtkmcdbkdlalhdaaCnfR
namespace Go.Proofs.Ytkmcdbkdlalhdaa
open Go.RowKit Go.Maps Go.Lib Go.Sort
set_option linter.unusedVariables false
set_option linter.unusedSimpArgs false
theorem tr_neg {m : List Bool} {v : Int} (h : v ≠ 0) : tr m (-v) = !tr m v := by
  unfold tr
  by_cases h0 : 0 < v
  · rw [if_neg (by omega), if_pos h0, Int.neg_neg]
  · rw [if_pos (by omega), if_neg h0]; simp
theorem mem_wo {xs : List Int} {v x : Int} : x ∈ wo xs v ↔ x ∈ xs ∧ x ≠ v := by
  unfold wo; rw [List.mem_filter]; simp
theorem eval_two {N : Int} {xs ys : List Int} {m : List Bool} (h : evalF N [xs, ys] m = true) : (0 ≤ N ∧ N ≤ 100000) ∧ (m.length : Int) = N ∧ (∀ x ∈ xs, lit N x = true) ∧ (∀ x ∈ ys, lit N x = true) ∧ xs.any (tr m) = true ∧ ys.any (tr m) = true := by
  simp only [evalF, rightF, Bool.and_eq_true, decide_eq_true_eq, List.all_cons, List.all_nil, List.all_eq_true, Bool.and_true] at h
  obtain ⟨⟨h1, h2, h3⟩, h4, h5, h6⟩ := h
  exact ⟨h1, h4, h2, h3, h5, h6⟩
theorem eval_one {N : Int} {zs : List Int} {m : List Bool} (h0 : 0 ≤ N ∧ N ≤ 100000) (h1 : (m.length : Int) = N) (h2 : ∀ x ∈ zs, lit N x = true) (h3 : zs.any (tr m) = true) : evalF N [zs] m = true := by
  have : zs.all (lit N) = true := List.all_eq_true.2 h2
  simp [evalF, rightF, h0, h1, h3, this]
theorem res_sound {N v : Int} {xs ys : List Int} {m : List Bool} (hv : 1 ≤ v) (h : evalF N [xs, ys] m = true) : evalF N [nrm (wo xs v ++ wo ys (-v))] m = true := by
  obtain ⟨h0, h1, h2, h3, h4, h5⟩ := eval_two h
  refine eval_one h0 h1 (fun x hx => ?_) ?_
  · rw [mem_nrm, List.mem_append, mem_wo, mem_wo] at hx
    rcases hx with hx | hx
    · exact h2 x hx.1
    · exact h3 x hx.1
  · rw [any_congr (mem_nrm _)]
    rw [List.any_eq_true] at h4 h5 ⊢
    obtain ⟨a, ha, ta⟩ := h4
    obtain ⟨b, hb, tb⟩ := h5
    by_cases e : a = v
    · subst e
      have hne : b ≠ -a := by
        rintro rfl
        rw [tr_neg (by omega), ta] at tb
        cases tb
      exact ⟨b, by rw [List.mem_append, mem_wo, mem_wo]; exact .inr ⟨hb, hne⟩, tb⟩
    · exact ⟨a, by rw [List.mem_append, mem_wo]; exact .inl ⟨ha, e⟩, ta⟩
theorem giv_right {N x : Int} {ls : List (List Int)} (h : rightF N ls = true) : rightF N (givL x ls) = true := by
  simp only [rightF, Bool.and_eq_true, decide_eq_true_eq, List.all_eq_true] at h ⊢
  refine ⟨h.1, fun c hc y hy => ?_⟩
  unfold givL at hc
  obtain ⟨d, hd, rfl⟩ := List.mem_map.1 hc
  exact h.2 d (List.mem_filter.1 hd).1 y (mem_wo.1 hy).1
theorem giv_sound {N x : Int} {ls : List (List Int)} {m : List Bool} (h : rightF N ls = true) (hx : x ≠ 0) (ht : tr m x = true) : evalF N (givL x ls) m = evalF N ls m := by
  unfold evalF
  rw [h, giv_right h]
  congr 2
  rw [Bool.eq_iff_iff, List.all_eq_true, List.all_eq_true]
  constructor
  · intro q c hc
    by_cases hcx : c.contains x = true
    · rw [List.any_eq_true]; exact ⟨x, by simpa using hcx, ht⟩
    · have := q (wo c (-x)) (List.mem_map.2 ⟨c, List.mem_filter.2 ⟨hc, by simpa using hcx⟩, rfl⟩)
      rw [List.any_eq_true] at this ⊢
      obtain ⟨y, hy, ty⟩ := this
      exact ⟨y, (mem_wo.1 hy).1, ty⟩
  · intro q d hd
    unfold givL at hd
    obtain ⟨c, hc, rfl⟩ := List.mem_map.1 hd
    have := q c (List.mem_filter.1 hc).1
    rw [List.any_eq_true] at this ⊢
    obtain ⟨y, hy, ty⟩ := this
    refine ⟨y, mem_wo.2 ⟨hy, ?_⟩, ty⟩
    rintro rfl
    rw [tr_neg hx, ht] at ty
    cases ty
theorem given_i (N x : Int) (ls : List (List Int)) (A : Option Addr) (n cap B : Nat) (w : World) (hB : B ≤ w.heap.size) (h : Lists w B A n ls) (hl : n ≤ 100000) (hs : Short ls) :
    Calls Try.prog 15 #[form N A n cap, .int .i64 x] w (FormPost w N (givenF N ls x)) := by
  unfold givenF
  by_cases hc : rightF N ls = true ∧ lit N x = true
  · rw [if_pos hc]
    exact given_yes N x ls A n cap B w hB h hl hs hc.1 hc.2
  · rw [if_neg hc]
    refine given_no N x ls A n cap B w hB h hl hs ?_
    cases e1 : rightF N ls
    · exact .inl rfl
    · cases e2 : lit N x
      · exact .inr rfl
      · exact absurd ⟨e1, e2⟩ hc
theorem givL_short {x : Int} {ls : List (List Int)} (h : Short ls) : Short (givL x ls) := by
  intro k c hc
  have hm := List.mem_of_getElem? hc
  unfold givL at hm
  obtain ⟨d, hd, rfl⟩ := List.mem_map.1 hm
  obtain ⟨j, hj⟩ := List.getElem?_of_mem (List.mem_filter.1 hd).1
  exact Nat.le_trans (wo_len d (-x)) (h j d hj)
theorem light_short {ls : List (List Int)} (h : lightF ls = true) : Short ls ∧ ls.length ≤ 80 ∧ ∀ (k : Nat) (xs : List Int), ls[k]? = some xs → xs.length ≤ 60 :=
  ⟨fun k xs hx => by have := light_len ((lightF_get h).2 k xs hx); omega, (lightF_get h).1, fun k xs hx => light_len ((lightF_get h).2 k xs hx)⟩
end Go.Proofs.Ytkmcdbkdlalhdaa
