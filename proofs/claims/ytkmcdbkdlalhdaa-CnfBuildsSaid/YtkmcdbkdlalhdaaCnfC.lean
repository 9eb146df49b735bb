/- How the program compares literals. No conditions. -/
import Derived.Test.YtkmcdbkdlalhdaaCnfN
import Derived.Test.YtkmcdbkdlalhdaaLib
import Derived.Shelf.SlSortCmp.Kit1
namespace Go.Proofs.Ytkmcdbkdlalhdaa
open Go.RowKit Go.Maps Go.Lib Go.Sort
set_option linter.unusedVariables false
set_option linter.unusedSimpArgs false
theorem sz_neg {l : Int} (h : l < 0) : sz l = IntKind.u64.wrap (IntKind.u64.wrap (wrap64 (-wrap64 (l + 1))) + 1) := by unfold sz; rw [if_pos h]
theorem sz_pos {l : Int} (h : ¬ l < 0) : sz l = IntKind.u64.wrap l := by unfold sz; rw [if_neg h]
theorem size_i (l : Int) (w : World) : Calls Try.prog 42 #[.int .i64 l] w fun e w' => e = .returned (.int .u64 (sz l)) ∧ w' = w := by
  by_cases h : l < 0
  · rw [sz_neg h]
    go_enter Try.func42, Try.ntmps42
    go_wp2
    go_ret
    exact ⟨rfl, rfl⟩
  · rw [sz_pos h]
    go_enter Try.func42, Try.ntmps42
    go_wp2
    go_ret
    exact ⟨rfl, rfl⟩
theorem nan64_i (x : Int) (w : World) : Calls Try.prog 52 #[.int .u64 x] w fun e w' => e = .returned (.bool false) ∧ w' = w := by
  go_enter Try.func52, Try.ntmps52
  go_wp2
  go_ret
  exact ⟨rfl, rfl⟩
theorem cmpI_lt {x y : Int} (h : x < y) : compareInt x y = -1 := by unfold compareInt; rw [if_pos h]
theorem cmpI_gt {x y : Int} (h : y < x) : compareInt x y = 1 := by unfold compareInt; rw [if_neg (by omega), if_pos h]
theorem cmpI_eq {x y : Int} (h : x = y) : compareInt x y = 0 := by unfold compareInt; rw [if_neg (by omega), if_neg (by omega)]
theorem cmp64_i (x y : Int) (w : World) : Calls Try.prog 41 #[.int .u64 x, .int .u64 y] w fun e w' => e = .returned (.int .i64 (compareInt x y)) ∧ w' = w := by
  by_cases h1 : x < y
  · rw [cmpI_lt h1]
    go_enter Try.func41, Try.ntmps41
    go_wp2_with (go_at_call 52; refine (nan64_i _ _).mono ?_; rintro e w' ⟨rfl, rfl⟩)
    go_ret
    exact ⟨rfl, rfl⟩
  · by_cases h2 : y < x
    · rw [cmpI_gt h2]
      go_enter Try.func41, Try.ntmps41
      go_wp2_with (go_at_call 52; refine (nan64_i _ _).mono ?_; rintro e w' ⟨rfl, rfl⟩)
      go_ret
      exact ⟨rfl, rfl⟩
    · rw [cmpI_eq (show x = y by omega)]
      go_enter Try.func41, Try.ntmps41
      go_wp2_with (go_at_call 52; refine (nan64_i _ _).mono ?_; rintro e w' ⟨rfl, rfl⟩)
      go_ret
      exact ⟨rfl, rfl⟩
/-- cmp.Or of two numbers. -/
def or2 (a b : Int) : Int := if a = 0 then b else a
theorem or_i (a b : Int) (g cap : Nat) (w : World) (h : ∀ i, w.cell? ⟨g, i, none⟩ = (#[Value.int .i64 a, Value.int .i64 b] : Array Value)[i]?) :
    Calls Try.prog 40 #[.slice (some ⟨g, 0, none⟩) 2 cap] w fun e w' => e = .returned (.int .i64 (or2 a b)) ∧ w' = w := by
  cases ea : (a == 0)
  case false =>
    have hf : or2 a b = a := by unfold or2; rw [if_neg (by simpa using ea)]
    rw [hf]
    clear hf
    have ea' : (a != 0) = true := by simp at ea; simp [ea]
    go_enter Try.func40, Try.ntmps40
    go_wp2
    refine wp_loop_rounds 1 ?_
    rw [rounds_succ]
    go_wp2
    go_ret
    exact ⟨rfl, rfl⟩
  case true =>
    have hf : or2 a b = b := by unfold or2; rw [if_pos (by simpa using ea)]
    rw [hf]
    clear hf
    have ea' : (a != 0) = false := by simp at ea; simp [ea]
    cases eb : (b == 0)
    case false =>
      have eb' : (b != 0) = true := by simp at eb; simp [eb]
      go_enter Try.func40, Try.ntmps40
      go_wp2
      refine wp_loop_rounds 2 ?_
      rw [rounds_succ]
      go_wp2
      rw [rounds_succ]
      go_wp2
      go_ret
      exact ⟨rfl, rfl⟩
    case true =>
      have eb' : (b != 0) = false := by simp at eb; simp [eb]
      obtain rfl : b = 0 := by simpa using eb
      go_enter Try.func40, Try.ntmps40
      go_wp2
      refine wp_loop_rounds 3 ?_
      rw [rounds_succ]
      go_wp2
      rw [rounds_succ]
      go_wp2
      rw [rounds_succ]
      go_wp2
      go_ret
      exact ⟨rfl, rfl⟩
end Go.Proofs.Ytkmcdbkdlalhdaa
