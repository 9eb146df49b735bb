/- How many are asked at most; what must come at any rate: the chapter's example. No conditions. -/
import Derived.Test.YtlbcinanpnjjjaaDoorLvH
namespace Go.Proofs.YtlbcinanpnjjjaaDoor
open Go.RowKit Go.Maps
set_option linter.unusedVariables false
set_option linter.unusedSimpArgs false
theorem ones_0 (w : World) : Calls Tryd.prog 50 #[.int .u64 ((0 : Nat) : Int)] w fun e w' => e = .returned (.int .i64 ((0 : Nat) : Int)) ∧ w' = w := by
  go_enter Tryd.func50, Tryd.ntmps50
  go_wp2
  go_ret
  exact ⟨by kernel_rfl, rfl⟩
theorem ones_1 (w : World) : Calls Tryd.prog 50 #[.int .u64 ((1 : Nat) : Int)] w fun e w' => e = .returned (.int .i64 ((1 : Nat) : Int)) ∧ w' = w := by
  go_enter Tryd.func50, Tryd.ntmps50
  go_wp2
  go_ret
  exact ⟨by kernel_rfl, rfl⟩
theorem ones_3 (w : World) : Calls Tryd.prog 50 #[.int .u64 ((3 : Nat) : Int)] w fun e w' => e = .returned (.int .i64 ((2 : Nat) : Int)) ∧ w' = w := by
  go_enter Tryd.func50, Tryd.ntmps50
  go_wp2
  go_ret
  exact ⟨by kernel_rfl, rfl⟩
theorem ones_4 (w : World) : Calls Tryd.prog 50 #[.int .u64 ((4 : Nat) : Int)] w fun e w' => e = .returned (.int .i64 ((1 : Nat) : Int)) ∧ w' = w := by
  go_enter Tryd.func50, Tryd.ntmps50
  go_wp2

  go_ret
  exact ⟨by kernel_rfl, rfl⟩
theorem word_is {x X : Nat} (hx : x < 18446744073709551616) (hX : X < 18446744073709551616) (h : ∀ j, j < 64 → x.testBit j = X.testBit j) : x = X := by
  refine Nat.eq_of_testBit_eq fun j => ?_
  by_cases hj : j < 64
  · exact h j hj
  · have hp : (18446744073709551616 : Nat) ≤ 2 ^ j := by
      rw [show (18446744073709551616 : Nat) = 2 ^ 64 by decide]
      exact Nat.pow_le_pow_right (by decide) (by omega)
    rw [Nat.testBit_lt_two_pow (by omega), Nat.testBit_lt_two_pow (by omega)]
set_option maxRecDepth 100000 in
set_option maxHeartbeats 4000000 in
theorem count_f (g X c : Nat) (m : Nat → Bool) (w : World) (h : BitM w g 1 m) (hX : X < 18446744073709551616) (hm : ∀ v, v < 64 → m v = X.testBit v) (hc : c < 100) (h1 : ∀ W, Calls Tryd.prog 50 #[.int .u64 (X : Int)] W fun e w' => e = .returned (.int .i64 (c : Int)) ∧ w' = W) :
    Calls Tryd.prog 34 #[.slice (some ⟨g, 0, none⟩) 1 1] w fun e w' => e = .returned (.int .i64 (c : Int)) ∧ w' = w := by
  obtain ⟨x, hx0, hx, hb⟩ := h.word (i := 0) (by omega)
  obtain rfl : x = X := word_is hx hX (fun j hj => by rw [hb j hj, hm (64 * 0 + j) (by omega)]; simp)
  have H1 := hid h1
  have HX := hid hx0
  clear h1 hX hm h hb hx hx0
  go_enter Tryd.func34, Tryd.ntmps34
  go_wp2
  go_loopg [3, 8] 1 (fun gk v3 v8 wr => ∃ (i : Nat) (t : Nat), i ≤ 1 ∧ gk = 1 - i ∧ v3 = .int .i64 t ∧ v8 = .int .i64 i ∧ t = i * c ∧ wr = w)
  case atStart => exact ⟨0, 0, by omega, rfl, rfl, rfl, by omega, rfl⟩
  case round =>
    obtain ⟨i, t, hi, rfl, rfl, rfl, ht, rfl⟩ := hrel
    by_cases h0 : i = 0
    · subst h0
      obtain rfl : t = 0 := by omega
      have hx0 := HX.out
      clear ht
      go_wp2_with (go_at_call 50; refine (H1.out _).mono ?_; rintro e w' ⟨rfl, hw⟩; obtain rfl := hw.symm)
      go_roundg 0
      case measure => omega
      case rel => exact ⟨1, c, by omega, by omega, by simp, rfl, by omega, rfl⟩
    · obtain rfl : i = 1 := by omega
      obtain rfl : t = c := by omega
      clear ht
      go_wp2
      go_ret
      exact ⟨rfl, rfl⟩
/-- The greatest of the first n. -/
def maxN (f : Nat → Nat) : Nat → Nat
  | 0 => 0
  | n + 1 => max (maxN f n) (f n)
theorem maxN_le {f : Nat → Nat} {b : Nat} (h : ∀ i, f i ≤ b) : ∀ n, maxN f n ≤ b
  | 0 => Nat.zero_le _
  | n + 1 => by have := maxN_le h n; have := h n; unfold maxN; omega
set_option maxRecDepth 100000 in
set_option maxHeartbeats 4000000 in
theorem most_f {w W : World} {x : CoD} {va fa ia : Option Addr} {vc fc ic n nw P TA TB : Nat} {gA gB : Nat → Nat} {mA mB : Nat → Nat → Bool} (f : Nat → Nat) (h : LT w x va fa ia vc fc ic n nw P TA TB gA gB mA mB W) (hn : n < 1000000) (hb : ∀ i, f i ≤ 100)
    (h1 : ∀ i, i < n → Calls Tryd.prog 34 #[.slice (some ⟨gB i, 0, none⟩) nw nw] W fun e w' => e = .returned (.int .i64 (f i : Nat)) ∧ w' = W) :
    Calls Tryd.prog 14 #[.pointer (some ⟨P, 0, none⟩)] W fun e w' => e = .returned (.int .i64 (maxN f n : Nat)) ∧ w' = W := by
  have hc9 := cells_at h.box 9
  have HR := hid (fun i (hi : i < n) => h.rb.cell hi)
  have H1 := hid h1
  have HB := hid hb
  have HM := hid (maxN_le hb)
  clear h1 hb h
  go_enter Tryd.func14, Tryd.ntmps14
  go_wp2
  go_loopg [3, 13] n (fun gk v3 v13 wr => ∃ i : Nat, i ≤ n ∧ gk = n - i ∧ v3 = .int .i64 (maxN f i : Nat) ∧ v13 = .int .i64 i ∧ wr = W)
  case atStart => exact ⟨0, by omega, by omega, rfl, rfl, rfl⟩
  case round =>
    obtain ⟨i, hi, rfl, rfl, rfl, rfl⟩ := hrel
    by_cases hin : i < n
    · have hin' : (i : Int) < (n : Int) := by omega
      have i0 : (0 : Int) ≤ (i : Int) := by omega
      have hr := HR.out i hin
      have HI := hid hin
      obtain ⟨a, ha⟩ : ∃ a, maxN f i = a := ⟨_, rfl⟩
      obtain ⟨b, hb⟩ : ∃ b, f i = b := ⟨_, rfl⟩
      have HE : Hid (maxN f (i + 1) = max a b) := hid (by rw [← ha, ← hb]; rfl)
      have HC : Hid (Calls Tryd.prog 34 #[.slice (some ⟨gB i, 0, none⟩) nw nw] wr fun e w' => e = .returned (.int .i64 (b : Int)) ∧ w' = wr) := hid (by have := H1.out i hin; rwa [hb] at this)
      rw [ha]
      clear hb ha
      go_wp2_with (go_at_call 34; refine HC.out.mono ?_; rintro e w' ⟨rfl, hw⟩; obtain rfl := hw.symm)
      all_goals
        go_roundg (n - (i + 1))
        case measure => omega
        case rel => exact ⟨i + 1, by omega, rfl, by rw [HE.out]; congr 1; omega, rfl, rfl⟩
    · have hin' : ¬ (i : Int) < (n : Int) := by omega
      obtain rfl : i = n := by omega
      go_wp2
      go_ret
      exact ⟨rfl, rfl⟩
end Go.Proofs.YtlbcinanpnjjjaaDoor
