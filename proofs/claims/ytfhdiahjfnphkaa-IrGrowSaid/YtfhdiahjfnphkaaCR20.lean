/- Signs, by the program and by the reference. No conditions. -/
import Derived.Test.YtfhdiahjfnphkaaCR11
namespace Go.Proofs.Ytfhdiahjfnphkaa
open Go.RowKit Go.Maps
set_option linter.unusedVariables false
set_option linter.unusedSimpArgs false
def sgs : List (List UInt8) := [[43], [45], [42], [47], [37], [60], [60, 61], [62], [62, 61], [61, 61], [33, 61]]
def sgF (s : ByteArray) : Bool := sgs.any (fun t => s.toList == t)
set_option maxRecDepth 100000 in
theorem sign_i (s : ByteArray) (r : Bool) (w : World) (hr : sgF s = r) : Calls Try.prog 78 #[.string s] w fun e w' => e = .returned (.bool r) ∧ w' = w := by
  cases e0 : (s.toList == [43])
  case true =>
    have hf : r = true := by rw [← hr]; simp only [sgF, sgs, List.any_cons, e0, Bool.true_or, Bool.or_true]
    subst hf
    clear hr
    go_enter Try.func78, Try.ntmps78
    go_wp2
    go_ret
    exact ⟨rfl, rfl⟩
  cases e1 : (s.toList == [45])
  case true =>
    have hf : r = true := by rw [← hr]; simp only [sgF, sgs, List.any_cons, e1, Bool.true_or, Bool.or_true]
    subst hf
    clear hr
    go_enter Try.func78, Try.ntmps78
    go_wp2
    go_ret
    exact ⟨rfl, rfl⟩
  cases e2 : (s.toList == [42])
  case true =>
    have hf : r = true := by rw [← hr]; simp only [sgF, sgs, List.any_cons, e2, Bool.true_or, Bool.or_true]
    subst hf
    clear hr
    go_enter Try.func78, Try.ntmps78
    go_wp2
    go_ret
    exact ⟨rfl, rfl⟩
  cases e3 : (s.toList == [47])
  case true =>
    have hf : r = true := by rw [← hr]; simp only [sgF, sgs, List.any_cons, e3, Bool.true_or, Bool.or_true]
    subst hf
    clear hr
    go_enter Try.func78, Try.ntmps78
    go_wp2
    go_ret
    exact ⟨rfl, rfl⟩
  cases e4 : (s.toList == [37])
  case true =>
    have hf : r = true := by rw [← hr]; simp only [sgF, sgs, List.any_cons, e4, Bool.true_or, Bool.or_true]
    subst hf
    clear hr
    go_enter Try.func78, Try.ntmps78
    go_wp2
    go_ret
    exact ⟨rfl, rfl⟩
  cases e5 : (s.toList == [60])
  case true =>
    have hf : r = true := by rw [← hr]; simp only [sgF, sgs, List.any_cons, e5, Bool.true_or, Bool.or_true]
    subst hf
    clear hr
    go_enter Try.func78, Try.ntmps78
    go_wp2
    go_ret
    exact ⟨rfl, rfl⟩
  cases e6 : (s.toList == [60, 61])
  case true =>
    have hf : r = true := by rw [← hr]; simp only [sgF, sgs, List.any_cons, e6, Bool.true_or, Bool.or_true]
    subst hf
    clear hr
    go_enter Try.func78, Try.ntmps78
    go_wp2
    go_ret
    exact ⟨rfl, rfl⟩
  cases e7 : (s.toList == [62])
  case true =>
    have hf : r = true := by rw [← hr]; simp only [sgF, sgs, List.any_cons, e7, Bool.true_or, Bool.or_true]
    subst hf
    clear hr
    go_enter Try.func78, Try.ntmps78
    go_wp2
    go_ret
    exact ⟨rfl, rfl⟩
  cases e8 : (s.toList == [62, 61])
  case true =>
    have hf : r = true := by rw [← hr]; simp only [sgF, sgs, List.any_cons, e8, Bool.true_or, Bool.or_true]
    subst hf
    clear hr
    go_enter Try.func78, Try.ntmps78
    go_wp2
    go_ret
    exact ⟨rfl, rfl⟩
  have he : eqS s = r := by rw [← hr]; simp only [sgF, sgs, eqS, List.any_cons, List.any_nil, e0, e1, e2, e3, e4, e5, e6, e7, e8, Bool.false_or, Bool.or_false]
  clear hr
  go_enter Try.func78, Try.ntmps78
  go_wp2_with (go_at_call 81; refine (equals_i s r _ he).mono ?_; rintro e w' ⟨rfl, rfl⟩)
  go_ret
  exact ⟨rfl, rfl⟩
set_option maxRecDepth 100000 in
set_option maxHeartbeats 8000000 in
theorem rsign_i (s : ByteArray) (r : Bool) (w : World) (hr : sgF s = r) : Calls Try.prog 55 #[.string s] w fun e w' => e = .returned (.bool r) ∧ Hid (Below w.heap.size w w') := by
  have HR := hid hr
  have HB := hid (below1 w (.cells #[.string ⟨#[43]⟩, .string ⟨#[45]⟩, .string ⟨#[42]⟩, .string ⟨#[47]⟩, .string ⟨#[37]⟩, .string ⟨#[60]⟩, .string ⟨#[60, 61]⟩, .string ⟨#[62]⟩, .string ⟨#[62, 61]⟩, .string ⟨#[61, 61]⟩, .string ⟨#[33, 61]⟩] 9))
  have HX := hid (heap_alloc_new w (.cells #[.string ⟨#[43]⟩, .string ⟨#[45]⟩, .string ⟨#[42]⟩, .string ⟨#[47]⟩, .string ⟨#[37]⟩, .string ⟨#[60]⟩, .string ⟨#[60, 61]⟩, .string ⟨#[62]⟩, .string ⟨#[62, 61]⟩, .string ⟨#[61, 61]⟩, .string ⟨#[33, 61]⟩] 9))
  clear hr
  go_enter Try.func55, Try.ntmps55
  go_wp2
  obtain ⟨W1, hW1⟩ : ∃ W1, w.alloc (.cells #[.string ⟨#[43]⟩, .string ⟨#[45]⟩, .string ⟨#[42]⟩, .string ⟨#[47]⟩, .string ⟨#[37]⟩, .string ⟨#[60]⟩, .string ⟨#[60, 61]⟩, .string ⟨#[62]⟩, .string ⟨#[62, 61]⟩, .string ⟨#[61, 61]⟩, .string ⟨#[33, 61]⟩] 9) = W1 := ⟨_, rfl⟩
  rw [hW1] at HB HX ⊢
  clear hW1
  have hx := cells_at HX.out
  go_loopg [4] 11 (fun gk v4 wr => ∃ k : Nat, k ≤ 11 ∧ gk = 11 - k ∧ v4 = .int .i64 k ∧ wr = W1 ∧ Hid ((sgs.take k).any (fun t => s.toList == t) = false))
  case atStart => exact ⟨0, by omega, by omega, rfl, rfl, hid rfl⟩
  case round =>
    obtain ⟨k, hk, rfl, rfl, rfl, HA⟩ := hrel
    obtain rfl | rfl | rfl | rfl | rfl | rfl | rfl | rfl | rfl | rfl | rfl | rfl : k = 0 ∨ k = 1 ∨ k = 2 ∨ k = 3 ∨ k = 4 ∨ k = 5 ∨ k = 6 ∨ k = 7 ∨ k = 8 ∨ k = 9 ∨ k = 10 ∨ k = 11 := by omega
    · cases e : ([43] == s.toList)
      · have e2 : (s.toList == [43]) = false := by rw [← e]; exact BEq.comm
        go_wp2
        go_roundg (11 - (0 + 1))
        case measure => omega
        case rel => exact ⟨1, by omega, by omega, rfl, rfl, hid (by rw [show sgs.take 1 = sgs.take 0 ++ [[43]] from rfl, List.any_append, HA.out]; simp [e2])⟩
      · have e2 : (s.toList == [43]) = true := by rw [← e]; exact BEq.comm
        have hf : r = true := by rw [← HR.out]; simp only [sgF, sgs, List.any_cons, e2, Bool.true_or, Bool.or_true]
        subst hf
        go_wp2
        go_ret
        exact ⟨rfl, HB⟩
    · cases e : ([45] == s.toList)
      · have e2 : (s.toList == [45]) = false := by rw [← e]; exact BEq.comm
        go_wp2
        go_roundg (11 - (1 + 1))
        case measure => omega
        case rel => exact ⟨2, by omega, by omega, rfl, rfl, hid (by rw [show sgs.take 2 = sgs.take 1 ++ [[45]] from rfl, List.any_append, HA.out]; simp [e2])⟩
      · have e2 : (s.toList == [45]) = true := by rw [← e]; exact BEq.comm
        have hf : r = true := by rw [← HR.out]; simp only [sgF, sgs, List.any_cons, e2, Bool.true_or, Bool.or_true]
        subst hf
        go_wp2
        go_ret
        exact ⟨rfl, HB⟩
    · cases e : ([42] == s.toList)
      · have e2 : (s.toList == [42]) = false := by rw [← e]; exact BEq.comm
        go_wp2
        go_roundg (11 - (2 + 1))
        case measure => omega
        case rel => exact ⟨3, by omega, by omega, rfl, rfl, hid (by rw [show sgs.take 3 = sgs.take 2 ++ [[42]] from rfl, List.any_append, HA.out]; simp [e2])⟩
      · have e2 : (s.toList == [42]) = true := by rw [← e]; exact BEq.comm
        have hf : r = true := by rw [← HR.out]; simp only [sgF, sgs, List.any_cons, e2, Bool.true_or, Bool.or_true]
        subst hf
        go_wp2
        go_ret
        exact ⟨rfl, HB⟩
    · cases e : ([47] == s.toList)
      · have e2 : (s.toList == [47]) = false := by rw [← e]; exact BEq.comm
        go_wp2
        go_roundg (11 - (3 + 1))
        case measure => omega
        case rel => exact ⟨4, by omega, by omega, rfl, rfl, hid (by rw [show sgs.take 4 = sgs.take 3 ++ [[47]] from rfl, List.any_append, HA.out]; simp [e2])⟩
      · have e2 : (s.toList == [47]) = true := by rw [← e]; exact BEq.comm
        have hf : r = true := by rw [← HR.out]; simp only [sgF, sgs, List.any_cons, e2, Bool.true_or, Bool.or_true]
        subst hf
        go_wp2
        go_ret
        exact ⟨rfl, HB⟩
    · cases e : ([37] == s.toList)
      · have e2 : (s.toList == [37]) = false := by rw [← e]; exact BEq.comm
        go_wp2
        go_roundg (11 - (4 + 1))
        case measure => omega
        case rel => exact ⟨5, by omega, by omega, rfl, rfl, hid (by rw [show sgs.take 5 = sgs.take 4 ++ [[37]] from rfl, List.any_append, HA.out]; simp [e2])⟩
      · have e2 : (s.toList == [37]) = true := by rw [← e]; exact BEq.comm
        have hf : r = true := by rw [← HR.out]; simp only [sgF, sgs, List.any_cons, e2, Bool.true_or, Bool.or_true]
        subst hf
        go_wp2
        go_ret
        exact ⟨rfl, HB⟩
    · cases e : ([60] == s.toList)
      · have e2 : (s.toList == [60]) = false := by rw [← e]; exact BEq.comm
        go_wp2
        go_roundg (11 - (5 + 1))
        case measure => omega
        case rel => exact ⟨6, by omega, by omega, rfl, rfl, hid (by rw [show sgs.take 6 = sgs.take 5 ++ [[60]] from rfl, List.any_append, HA.out]; simp [e2])⟩
      · have e2 : (s.toList == [60]) = true := by rw [← e]; exact BEq.comm
        have hf : r = true := by rw [← HR.out]; simp only [sgF, sgs, List.any_cons, e2, Bool.true_or, Bool.or_true]
        subst hf
        go_wp2
        go_ret
        exact ⟨rfl, HB⟩
    · cases e : ([60, 61] == s.toList)
      · have e2 : (s.toList == [60, 61]) = false := by rw [← e]; exact BEq.comm
        go_wp2
        go_roundg (11 - (6 + 1))
        case measure => omega
        case rel => exact ⟨7, by omega, by omega, rfl, rfl, hid (by rw [show sgs.take 7 = sgs.take 6 ++ [[60, 61]] from rfl, List.any_append, HA.out]; simp [e2])⟩
      · have e2 : (s.toList == [60, 61]) = true := by rw [← e]; exact BEq.comm
        have hf : r = true := by rw [← HR.out]; simp only [sgF, sgs, List.any_cons, e2, Bool.true_or, Bool.or_true]
        subst hf
        go_wp2
        go_ret
        exact ⟨rfl, HB⟩
    · cases e : ([62] == s.toList)
      · have e2 : (s.toList == [62]) = false := by rw [← e]; exact BEq.comm
        go_wp2
        go_roundg (11 - (7 + 1))
        case measure => omega
        case rel => exact ⟨8, by omega, by omega, rfl, rfl, hid (by rw [show sgs.take 8 = sgs.take 7 ++ [[62]] from rfl, List.any_append, HA.out]; simp [e2])⟩
      · have e2 : (s.toList == [62]) = true := by rw [← e]; exact BEq.comm
        have hf : r = true := by rw [← HR.out]; simp only [sgF, sgs, List.any_cons, e2, Bool.true_or, Bool.or_true]
        subst hf
        go_wp2
        go_ret
        exact ⟨rfl, HB⟩
    · cases e : ([62, 61] == s.toList)
      · have e2 : (s.toList == [62, 61]) = false := by rw [← e]; exact BEq.comm
        go_wp2
        go_roundg (11 - (8 + 1))
        case measure => omega
        case rel => exact ⟨9, by omega, by omega, rfl, rfl, hid (by rw [show sgs.take 9 = sgs.take 8 ++ [[62, 61]] from rfl, List.any_append, HA.out]; simp [e2])⟩
      · have e2 : (s.toList == [62, 61]) = true := by rw [← e]; exact BEq.comm
        have hf : r = true := by rw [← HR.out]; simp only [sgF, sgs, List.any_cons, e2, Bool.true_or, Bool.or_true]
        subst hf
        go_wp2
        go_ret
        exact ⟨rfl, HB⟩
    · cases e : ([61, 61] == s.toList)
      · have e2 : (s.toList == [61, 61]) = false := by rw [← e]; exact BEq.comm
        go_wp2
        go_roundg (11 - (9 + 1))
        case measure => omega
        case rel => exact ⟨10, by omega, by omega, rfl, rfl, hid (by rw [show sgs.take 10 = sgs.take 9 ++ [[61, 61]] from rfl, List.any_append, HA.out]; simp [e2])⟩
      · have e2 : (s.toList == [61, 61]) = true := by rw [← e]; exact BEq.comm
        have hf : r = true := by rw [← HR.out]; simp only [sgF, sgs, List.any_cons, e2, Bool.true_or, Bool.or_true]
        subst hf
        go_wp2
        go_ret
        exact ⟨rfl, HB⟩
    · cases e : ([33, 61] == s.toList)
      · have e2 : (s.toList == [33, 61]) = false := by rw [← e]; exact BEq.comm
        go_wp2
        go_roundg (11 - (10 + 1))
        case measure => omega
        case rel => exact ⟨11, by omega, by omega, rfl, rfl, hid (by rw [show sgs.take 11 = sgs.take 10 ++ [[33, 61]] from rfl, List.any_append, HA.out]; simp [e2])⟩
      · have e2 : (s.toList == [33, 61]) = true := by rw [← e]; exact BEq.comm
        have hf : r = true := by rw [← HR.out]; simp only [sgF, sgs, List.any_cons, e2, Bool.true_or, Bool.or_true]
        subst hf
        go_wp2
        go_ret
        exact ⟨rfl, HB⟩
    · have hf : r = false := HR.out.symm.trans HA.out
      subst hf
      go_wp2
      go_ret
      exact ⟨rfl, HB⟩
end Go.Proofs.Ytfhdiahjfnphkaa
