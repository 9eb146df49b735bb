/- Words of 64 bits: plain. No conditions. -/
import Derived.Laws.BitsAllLaws
namespace Go.Proofs.YtlbcinanpnjjjaaDoor
set_option linter.unusedVariables false
theorem shr_nat (x s : Nat) : ((x : Int) / 2 ^ s) = ((x / 2 ^ s : Nat) : Int) := by
  rw [Int.natCast_ediv]
  simp
theorem one_shl (s : Nat) (hs : s < 64) : IntKind.u64.wrap (1 * 2 ^ s) = ((2 ^ s : Nat) : Int) := by
  have h : 2 ^ s < 2 ^ 64 := Nat.pow_lt_pow_right (by decide) hs
  rw [IntKind.wrap_u64, Int.one_mul]
  have e : ((2 : Int) ^ s) = ((2 ^ s : Nat) : Int) := by simp
  rw [e]
  generalize 2 ^ s = b at h
  have := Int.emod_eq_of_lt (a := (b : Int)) (b := 18446744073709551616) (by omega) (by omega)
  exact this
theorem has_word (x s : Nat) (hx : x < 18446744073709551616) : (bits .and .u64 ((x : Int) / 2 ^ s) 1 == 1) = x.testBit s := by
  have h1 : x / 2 ^ s ≤ x := Nat.div_le_self _ _
  rw [shr_nat, show (1 : Int) = ((1 : Nat) : Int) from rfl, u64_and_nat _ _ (by omega) (by decide)]
  rw [Nat.testBit_eq_decide_div_mod_eq, Nat.and_one_is_mod]
  by_cases h : x / 2 ^ s % 2 = 1
  · rw [h]; rfl
  · have : x / 2 ^ s % 2 = 0 := by omega
    rw [this]; rfl
theorem put_word (x s : Nat) (hx : x < 18446744073709551616) (hs : s < 64) : bits .or .u64 (x : Int) (IntKind.u64.wrap (1 * 2 ^ s)) = ((x ||| 2 ^ s : Nat) : Int) := by
  have h : 2 ^ s < 2 ^ 64 := Nat.pow_lt_pow_right (by decide) hs
  rw [one_shl s hs, u64_or_nat _ _ hx (by omega)]
theorem put_lt (x s : Nat) (hx : x < 18446744073709551616) (hs : s < 64) : x ||| 2 ^ s < 18446744073709551616 := by
  have h : 2 ^ s < 2 ^ 64 := Nat.pow_lt_pow_right (by decide) hs
  exact Nat.or_lt_two_pow (n := 64) (by omega) (by omega)
theorem put_bit (x s j : Nat) : (x ||| 2 ^ s).testBit j = (x.testBit j || decide (s = j)) := by
  rw [Nat.testBit_or, Nat.testBit_two_pow]
theorem drop_word (x s : Nat) (hx : x < 18446744073709551616) (hs : s < 64) : bits .andNot .u64 (x : Int) (IntKind.u64.wrap (1 * 2 ^ s)) = ((x &&& (18446744073709551615 - 2 ^ s) : Nat) : Int) := by
  have h : 2 ^ s < 2 ^ 64 := Nat.pow_lt_pow_right (by decide) hs
  rw [one_shl s hs, u64_andNot_nat _ _ hx (by omega)]
theorem not_bit (y j : Nat) (hy : y < 18446744073709551616) : (18446744073709551615 - y).testBit j = (decide (j < 64) && !y.testBit j) := by
  have := Nat.testBit_two_pow_sub_succ (n := 64) (x := y) (by omega) j
  rw [← this]
  rw [show 18446744073709551615 - y = 2 ^ 64 - (y + 1) by omega]
theorem and_not_lt (x y : Nat) (hx : x < 18446744073709551616) : x &&& y < 18446744073709551616 := Nat.lt_of_le_of_lt Nat.and_le_left hx
theorem drop_bit (x s j : Nat) (hs : s < 64) (hj : j < 64) : (x &&& (18446744073709551615 - 2 ^ s)).testBit j = (x.testBit j && !decide (s = j)) := by
  have h : 2 ^ s < 2 ^ 64 := Nat.pow_lt_pow_right (by decide) hs
  rw [Nat.testBit_and, not_bit _ _ (by omega), Nat.testBit_two_pow]
  simp [hj]
theorem join_lt (x y : Nat) (hx : x < 18446744073709551616) (hy : y < 18446744073709551616) : x ||| y < 18446744073709551616 := Nat.or_lt_two_pow (n := 64) (by omega) (by omega)
/-- A word with something that another one has not. -/
theorem more_word (x y : Nat) (hx : x < 18446744073709551616) (hy : y < 18446744073709551616) : (bits .andNot .u64 (x : Int) (y : Int) != 0) = true ↔ ∃ j, j < 64 ∧ x.testBit j = true ∧ y.testBit j = false := by
  rw [u64_andNot_nat _ _ hx hy]
  have hz : x &&& (18446744073709551615 - y) < 18446744073709551616 := and_not_lt x _ hx
  have hb : ∀ j, (x &&& (18446744073709551615 - y)).testBit j = (x.testBit j && (decide (j < 64) && !y.testBit j)) := fun j => by rw [Nat.testBit_and, not_bit _ _ hy]
  constructor
  · intro h
    have hne : x &&& (18446744073709551615 - y) ≠ 0 := by
      intro e
      rw [e] at h
      exact absurd h (by decide)
    obtain ⟨j, hj⟩ := Nat.exists_testBit_of_ne_zero hne
    rw [hb] at hj
    simp only [Bool.and_eq_true, decide_eq_true_eq, Bool.not_eq_true'] at hj
    exact ⟨j, hj.2.1, hj.1, hj.2.2⟩
  · rintro ⟨j, h1, h2, h3⟩
    have : x &&& (18446744073709551615 - y) ≠ 0 := by
      intro e
      have := hb j
      rw [e, h2, h3] at this
      simp [h1] at this
    simp only [bne_iff_ne, ne_eq]
    omega
end Go.Proofs.YtlbcinanpnjjjaaDoor
