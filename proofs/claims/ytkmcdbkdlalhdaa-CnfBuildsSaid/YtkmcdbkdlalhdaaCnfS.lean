/- Slices that came in, opened. No conditions. -/
import Derived.Test.YtkmcdbkdlalhdaaCnfA
import Derived.Deep.Slices
import Derived.Deep.Grids
import Derived.ChangeSame
import Derived.ChangeSlices
namespace Go.Proofs.Ytkmcdbkdlalhdaa
open Go.RowKit Go.ChangeShapes Go.WideShapes Go.Deep
set_option linter.unusedVariables false
set_option linter.unusedSimpArgs false
section
variable {H : Type} {enc : TypeId × Value → H} {w : World} {base : Nat} {spare : Nat → Bool} {held : Bool}
theorem lt_of_cell {a : Addr} {v : Value} (h : w.cell? a = some v) : a.block < w.heap.size := by
  by_cases hg : a.block < w.heap.size
  · exact hg
  · unfold World.cell? at h
    have hno : w.heap[a.block]? = none := Array.getElem?_eq_none (by omega)
    simp [hno] at h
theorem spot_none {a : Addr} {v : Value} (h : w.cell? a = some v) : a.spot = none := by
  unfold World.cell? at h
  split at h
  · cases hsp : a.spot with
    | none => rfl
    | some q => rw [hsp] at h; simp at h
  · simp at h
theorem vals_mk {a : Addr} {n : Nat} {us : List Value} (hl : us.length = n) (h : ∀ i u, us[i]? = some u → w.cell? (a.add i) = some u) : Vals w w.heap.size (some a) n us := by
  refine ⟨hl, ?_⟩
  rcases Nat.eq_zero_or_pos n with h0 | h0
  · exact .inl h0
  · right
    have c0 := h 0 us[0] (List.getElem?_eq_getElem (by omega))
    have ha : a.add 0 = a := by unfold Addr.add; simp
    rw [ha] at c0
    have hsp := spot_none c0
    have hlt := lt_of_cell c0
    obtain ⟨b, off, sp⟩ := a
    simp only at hsp
    subst hsp
    refine ⟨b, off, rfl, hlt, fun j u hu => ?_⟩
    have := h j u hu
    unfold Addr.add at this
    split at this
    · rename_i hj; subst hj; simpa using this
    · simpa using this
theorem open_intsI {fuel : Nat} {v : Value} {x : DataW H × List MemPlace} (h : DataW.trod enc Try.prog w base spare held fuel 40 [v] = some x) :
    ∃ (xs : List Int) (A : Option Addr) (n cap : Nat), v = .slice A n cap ∧ Ints w w.heap.size A n xs ∧ n ≤ cap ∧ cap ≤ 9223372036854775807 ∧ ∀ y ∈ xs, (Lit.int .i64 y).wf = true := by
  rcases open_ints Try.underlying40 Try.underlying3 (by kernel_rfl) h with ⟨h0, -⟩ | ⟨a, len, cap, zs, hcs, hb, hl, hm, hzl, hx, hc, hw⟩
  · exact ⟨[], none, 0, 0, by simpa using h0, Ints.nil _ _ _, by omega, by omega, by simp⟩
  · have hle : len ≤ zs.length := by rw [hzl]; split <;> omega
    have hlt : (zs.take len).length = len := by simp; omega
    unfold maxLen at hm
    refine ⟨zs.take len, some a, len, cap, by simpa using hcs, vals_mk (by simp; omega) ?_, hl, by omega, fun y hy => hw y (List.mem_of_mem_take hy)⟩
    intro j u hu
    rw [List.getElem?_map] at hu
    cases hz : (zs.take len)[j]? with
    | none => rw [hz] at hu; cases hu
    | some y =>
      rw [hz] at hu
      cases hu
      have hjl : j < (zs.take len).length := (List.getElem?_eq_some_iff.1 hz).1
      rw [hlt] at hjl
      have h1 := hc j (by omega)
      rw [List.getElem?_take_of_lt hjl] at hz
      rw [h1, List.getD_eq_getElem?_getD, hz]
      rfl
theorem open_boolsI {fuel : Nat} {v : Value} {x : DataW H × List MemPlace} (h : DataW.trod enc Try.prog w base (fun _ => true) held fuel 25 [v] = some x) :
    ∃ (xs : List Bool) (A : Option Addr) (n cap : Nat), v = .slice A n cap ∧ Bools w w.heap.size A n xs := by
  rcases open_bools Try.underlying25 Try.underlying4 (by kernel_rfl) h with ⟨h0, -⟩ | ⟨a, len, cap, Bf, hcs, hb, hl, hm, hx, hc⟩
  · exact ⟨[], none, 0, 0, by simpa using h0, ⟨rfl, .inl rfl⟩⟩
  · refine ⟨(List.range len).map Bf, some a, len, cap, by simpa using hcs, vals_mk (by simp) ?_⟩
    intro j u hu
    rw [List.map_map, List.getElem?_map] at hu
    by_cases hj : j < len
    · rw [List.getElem?_range hj] at hu
      simp at hu
      subst hu
      exact hc j (by omega)
    · rw [List.getElem?_eq_none (by simp; omega)] at hu; cases hu
end
end Go.Proofs.Ytkmcdbkdlalhdaa
