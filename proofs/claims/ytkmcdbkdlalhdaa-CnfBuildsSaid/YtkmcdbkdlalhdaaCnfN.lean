/- A clause in order, plain: its numbers sorted, each once. No conditions. -/
import Derived.Test.YtkmcdbkdlalhdaaCnfA
import Derived.Lib.SlicesCompact
import Derived.Lib.Small
import Derived.Shelf.SlSortCmp.Insertion
namespace Go.Proofs.Ytkmcdbkdlalhdaa
open Go.RowKit Go.Lib Go.Sort
set_option linter.unusedVariables false
set_option linter.unusedSimpArgs false
def sz (l : Int) : Int := if l < 0 then IntKind.u64.wrap (IntKind.u64.wrap (wrap64 (-wrap64 (l + 1))) + 1) else IntKind.u64.wrap l
def cfN (x y : Int) : Int := if compareInt (sz x) (sz y) = 0 then compareInt y x else compareInt (sz x) (sz y)
theorem ltN (x y : Int) : ltOf cfN x y = decide (sz x < sz y ∨ sz x = sz y ∧ y < x) := by
  unfold ltOf cfN compareInt
  by_cases h1 : sz x < sz y
  · simp [h1]
  · by_cases h2 : sz y < sz x
    · have h3 : ¬ sz x = sz y := by omega
      simp [h1, h2, h3]
    · have h3 : sz x = sz y := by omega
      by_cases h4 : y < x
      · simp [h3, h4]
      · by_cases h5 : x < y <;> simp [h3, h4, h5]
theorem swoN : SWO (ltOf cfN) where
  irrefl x := by rw [ltN]; simp
  trans x y z h1 h2 := by rw [ltN] at *; simp at *; omega
  ntrans x y z h1 h2 := by rw [ltN] at *; simp at *; omega
theorem totN (x y : Int) (h1 : ltOf cfN x y = false) (h2 : ltOf cfN y x = false) : x = y := by
  rw [ltN] at *
  simp at *
  have : sz x = sz y := by omega
  omega
def le (x y : Int) : Bool := !(ltOf cfN y x)
theorem le_iff (x y : Int) : le x y = true ↔ (sz x < sz y ∨ sz x = sz y ∧ y ≤ x) := by
  unfold le; rw [ltN]; simp; omega
def srt (c : List Int) : List Int := c.mergeSort (fun x y => !(ltOf cfN) y x)
theorem srt_eq (c : List Int) : srt c = c.mergeSort le := rfl
theorem srt_sorted (c : List Int) : List.Pairwise (fun a b => le a b = true) (srt c) :=
  List.pairwise_mergeSort (fun a b c h1 h2 => by rw [le_iff] at *; omega) (fun a b => by
    by_cases h : le a b = true
    · simp [h]
    · have : le b a = true := by rw [le_iff] at *; omega
      simp [this]) c
def nrm (c : List Int) : List Int := Lib.compact (srt c)
theorem mem_compactUpTo (zs : List Int) (m : Nat) (hm : m ≤ zs.length) (x : Int) : x ∈ compactUpTo zs.toArray m ↔ ∃ j, j < m ∧ zs.toArray[j]! = x := by
  unfold compactUpTo
  rw [List.mem_map]
  constructor
  · rintro ⟨j, hj, rfl⟩
    rw [List.mem_filter, List.mem_range] at hj
    exact ⟨j, hj.1, rfl⟩
  · rintro ⟨j, hj, rfl⟩
    induction j with
    | zero => exact ⟨0, by rw [List.mem_filter, List.mem_range]; exact ⟨hj, by simp [keeps]⟩, rfl⟩
    | succ j ih =>
      by_cases hk : keeps zs.toArray (j + 1) = true
      · exact ⟨j + 1, by rw [List.mem_filter, List.mem_range]; exact ⟨hj, hk⟩, rfl⟩
      · obtain ⟨i, hi, he⟩ := ih (by omega)
        refine ⟨i, hi, he.trans ?_⟩
        simp only [keeps, Nat.add_one_ne_zero, false_or, Nat.add_sub_cancel, decide_eq_true_eq, Decidable.not_not] at hk
        exact hk.symm
theorem mem_compact (zs : List Int) (x : Int) : x ∈ Lib.compact zs ↔ x ∈ zs := by
  unfold Lib.compact
  rw [mem_compactUpTo zs zs.length (Nat.le_refl _)]
  constructor
  · rintro ⟨j, hj, rfl⟩
    rw [getElem!_pos zs.toArray j (by simpa using hj)]
    simp
  · intro h
    obtain ⟨j, hj, rfl⟩ := List.getElem_of_mem h
    exact ⟨j, hj, by rw [getElem!_pos zs.toArray j (by simpa using hj)]; simp⟩
def strict (t : List Int) : Prop := List.Pairwise (fun a b => sz a < sz b ∨ sz a = sz b ∧ b < a) t
theorem at_le {zs : List Int} (h : List.Pairwise (fun a b => le a b = true) zs) {i j : Nat} (hij : i < j) (hj : j < zs.length) : le zs.toArray[i]! zs.toArray[j]! = true := by
  rw [getElem!_pos zs.toArray i (by simp; omega), getElem!_pos zs.toArray j (by simpa using hj)]
  exact List.pairwise_iff_getElem.1 h i j (by omega) hj hij
theorem compact_strict (zs : List Int) (h : List.Pairwise (fun a b => le a b = true) zs) : strict (Lib.compact zs) := by
  unfold strict Lib.compact compactUpTo
  rw [List.pairwise_map]
  have h0 : List.Pairwise (fun i j => i < j ∧ j < zs.length ∧ keeps zs.toArray j = true) ((List.range zs.length).filter (keeps zs.toArray)) := by
    have h1 : List.Pairwise (fun i j => i < j) ((List.range zs.length).filter (keeps zs.toArray)) := List.pairwise_lt_range.filter _
    refine List.Pairwise.imp_of_mem ?_ h1
    intro i j hi hj hij
    rw [List.mem_filter, List.mem_range] at hj
    exact ⟨hij, hj.1, hj.2⟩
  refine h0.imp ?_
  rintro i j ⟨hij, hjl, hk⟩
  have hk' : zs.toArray[j]! ≠ zs.toArray[j - 1]! := by
    simp only [keeps, decide_eq_true_eq] at hk
    exact hk.resolve_left (by omega)
  have a1 := (le_iff _ _).1 (at_le h hij hjl)
  have a2 := (le_iff _ _).1 (at_le h (show j - 1 < j by omega) hjl)
  have a3 : i = j - 1 ∨ le zs.toArray[i]! zs.toArray[j - 1]! = true := by
    by_cases e : i = j - 1
    · exact .inl e
    · exact .inr (at_le h (by omega) (by omega))
  rcases a3 with e | a3
  · subst e
    omega
  · have a3 := (le_iff _ _).1 a3
    omega
theorem srt_of_strict {t : List Int} (h : strict t) : srt t = t :=
  List.mergeSort_of_pairwise (h.imp fun {a b} hab => by have := (le_iff a b).2 (by omega); exact this)
theorem compact_of_strict {t : List Int} (h : strict t) : Lib.compact t = t := by
  refine Lib.compact_all t fun j hj => ?_
  by_cases h0 : j = 0
  · simp [keeps, h0]
  · refine keeps_pos ?_
    rw [getElem!_pos t.toArray j (by simpa using hj), getElem!_pos t.toArray (j - 1) (by simp; omega)]
    have := List.pairwise_iff_getElem.1 h (j - 1) j (by omega) hj (by omega)
    simp only [List.getElem_toArray]
    intro e
    rw [e] at this
    omega
theorem nrm_of_strict {t : List Int} (h : strict t) : nrm t = t := by
  unfold nrm; rw [srt_of_strict h, compact_of_strict h]
theorem nrm_strict (c : List Int) : strict (nrm c) := compact_strict _ (srt_sorted c)
theorem nrm_nrm (c : List Int) : nrm (nrm c) = nrm c := nrm_of_strict (nrm_strict c)
theorem mem_srt (c : List Int) (x : Int) : x ∈ srt c ↔ x ∈ c := by rw [srt_eq]; exact List.mem_mergeSort
theorem mem_nrm (c : List Int) (x : Int) : x ∈ nrm c ↔ x ∈ c := by unfold nrm; rw [mem_compact, mem_srt]
theorem srt_len (c : List Int) : (srt c).length = c.length := by rw [srt_eq]; exact List.length_mergeSort c
theorem compact_len (zs : List Int) : (Lib.compact zs).length ≤ zs.length := by
  unfold Lib.compact compactUpTo
  rw [List.length_map]
  exact Nat.le_trans (List.length_filter_le _ _) (by simp)
theorem nrm_len (c : List Int) : (nrm c).length ≤ c.length := by unfold nrm; rw [← srt_len c]; exact compact_len _
theorem all_congr {xs ys : List Int} (h : ∀ x, x ∈ xs ↔ x ∈ ys) (p : Int → Bool) : xs.all p = ys.all p := by
  rw [Bool.eq_iff_iff, List.all_eq_true, List.all_eq_true]
  exact ⟨fun a x hx => a x ((h x).2 hx), fun a x hx => a x ((h x).1 hx)⟩
theorem any_congr {xs ys : List Int} (h : ∀ x, x ∈ xs ↔ x ∈ ys) (p : Int → Bool) : xs.any p = ys.any p := by
  rw [Bool.eq_iff_iff, List.any_eq_true, List.any_eq_true]
  exact ⟨fun ⟨x, hx, hp⟩ => ⟨x, (h x).1 hx, hp⟩, fun ⟨x, hx, hp⟩ => ⟨x, (h x).2 hx, hp⟩⟩
/-- No two neighbours are of one variable. -/
noncomputable def okN (l : List Int) : Bool := @decide (∀ k, 0 < k → k < l.length → ∀ x y, l[k - 1]? = some x → l[k]? = some y → ¬ sz x = sz y) (Classical.propDecidable _)
theorem okN_yes {l : List Int} (h : ∀ k, 0 < k → k < l.length → ∀ x y, l[k - 1]? = some x → l[k]? = some y → ¬ sz x = sz y) : okN l = true := by
  unfold okN; exact @decide_eq_true _ (Classical.propDecidable _) h
theorem okN_no {l : List Int} {k : Nat} {x y : Int} (h0 : 0 < k) (hx : l[k - 1]? = some x) (hy : l[k]? = some y) (e : sz x = sz y) : okN l = false := by
  unfold okN
  refine @decide_eq_false _ (Classical.propDecidable _) fun h => h k h0 (List.getElem?_eq_some_iff.1 hy).1 x y hx hy e
end Go.Proofs.Ytkmcdbkdlalhdaa
