/- has. No conditions. -/
import Derived.Test.YtbmjhkimeeahhaaFmL
namespace Go.Proofs.Ytbmjhkimeeahhaa
open Go.RowKit Go.Maps
set_option linter.unusedVariables false
set_option linter.unusedSimpArgs false
set_option maxRecDepth 100000 in
set_option maxHeartbeats 8000000 in
theorem has_i (xs : List Int) (A : Option Addr) (c : Nat) (k : Int) (w : World) (h : IntsM w A xs) :
    Calls Try.prog 23 #[.slice A xs.length c, .int .i64 k] w fun e w' => e = .returned (.bool (xs.any (fun y => decide (y = k)))) ∧ w' = w := by
  obtain ⟨n, hn⟩ : ∃ n : Nat, xs.length = n := ⟨_, rfl⟩
  have hl := h.1
  rw [hn] at hl ⊢
  have HN := hid hn
  have HI := hid h
  clear hn h
  go_enter Try.func23, Try.ntmps23
  go_wp2
  have h0 : ∀ j, j < 0 → ∀ y, xs[j]? = some y → y ≠ k := fun j hj => absurd hj (by omega)
  have H0 := hid h0
  clear h0
  go_loopg [5] n (fun gk p wr => ∃ i : Nat, i ≤ n ∧ gk = n - i ∧ p = .int .i64 i ∧ wr = w ∧ Hid (∀ j, j < i → ∀ y, xs[j]? = some y → y ≠ k))
  case atStart => exact ⟨0, by omega, by omega, rfl, rfl, H0⟩
  case round =>
    clear H0
    obtain ⟨i, hi, rfl, rfl, rfl, H⟩ := hrel
    by_cases hin : i < n
    · have hin' : (i : Int) < (n : Int) := by omega
      have i0 : (0 : Int) ≤ (i : Int) := by omega
      obtain ⟨y, hy⟩ := get_some HN.out hin
      obtain ⟨b, o, rfl, hb1, hc1⟩ := HI.out.2 i y hy
      simp only [IntAt, Nat.mul_one] at hc1
      have HY := hid hy
      clear hy hb1
      by_cases e : y = k
      · have e2 : (y == k) = true := by simp [e]
        go_wp2
        go_ret
        refine ⟨?_, rfl⟩
        rw [List.any_eq_true.2 ⟨y, List.mem_of_getElem? HY.out, by simp [e]⟩]
        rfl
      · have e2 : (y == k) = false := by simp [e]
        have E := hid e
        clear e
        go_wp2
        go_roundg (n - (i + 1))
        case measure => omega
        case rel =>
          refine ⟨i + 1, by omega, rfl, rfl, rfl, hid fun j hj z hz => ?_⟩
          by_cases hji : j = i
          · subst hji
            rw [HY.out] at hz
            cases hz
            exact E.out
          · exact H.out j (by omega) z hz
    · have hin' : ¬ (i : Int) < (n : Int) := by omega
      go_wp2
      go_ret
      refine ⟨?_, rfl⟩
      rw [show xs.any (fun y => decide (y = k)) = false from by
        rw [List.any_eq_false]
        intro y hy
        obtain ⟨j, hj, rfl⟩ := List.mem_iff_getElem.1 hy
        have := H.out j (by have := HN.out; omega) _ (List.getElem?_eq_getElem hj)
        simpa using this]
      rfl
end Go.Proofs.Ytbmjhkimeeahhaa
