/- Lists of clauses that are the same; formulas that are. Conditions: at most 200000 clauses of at most 200000 numbers. -/
import Derived.Test.YtkmcdbkdlalhdaaCnfU
namespace Go.Proofs.Ytkmcdbkdlalhdaa
open Go.RowKit Go.Maps Go.Lib Go.Sort
set_option linter.unusedVariables false
set_option linter.unusedSimpArgs false
set_option maxHeartbeats 2000000 in
theorem lists_t (ls : List (List Int)) (A A2 : Option Addr) (n cap cap2 B : Nat) (w : World) (hB : B ≤ w.heap.size) (h1 : Lists w B A n ls) (h2 : Lists w B A2 n ls) (hl : n ≤ 200000) (hs : Short ls) :
    Calls Try.prog 31 #[.slice A n cap, .slice A2 n cap2] w fun e w' => e = .returned (.bool true) ∧ Hid (Below w.heap.size w w') := by
  have HN := hid h1.len
  have H1 := hid h1
  have H2 := hid h2
  have HS := hid hs
  have HB := hid hB
  clear h1 h2 hs hB
  go_enter Try.func31, Try.ntmps31
  go_wp2
  go_loopg [5] n (fun gk v5 wr => ∃ k : Nat, k ≤ n ∧ gk = n - k ∧ v5 = .int .i64 k ∧ Hid (Below w.heap.size w wr))
  case atStart => exact ⟨0, by omega, rfl, rfl, hid (Below.refl _ _)⟩
  case round =>
    obtain ⟨k, hk, rfl, rfl, HW⟩ := hrel
    by_cases hlt : k < n
    · have hlt' : (k : Int) < (n : Int) := by omega
      obtain ⟨b, off, xs, A', c', rfl, hb, hx, hc, -, -, hi⟩ := (H1.out.below (HW.out.mono HB.out)).at_ hlt
      obtain ⟨b2, off2, xs2, A2', c2', rfl, hb2, hx2, hc2, -, -, hi2⟩ := (H2.out.below (HW.out.mono HB.out)).at_ hlt
      have hxx : xs2 = xs := Option.some.inj (hx2.symm.trans hx)
      subst hxx
      have HI := hid hi
      have HI2 := hid hi2
      have HC := hid hc
      have HC2 := hid hc2
      have hb' : b < wr.heap.size := Nat.lt_of_lt_of_le hb (Nat.le_trans HB.out HW.out.size)
      have hb2' : b2 < wr.heap.size := Nat.lt_of_lt_of_le hb2 (Nat.le_trans HB.out HW.out.size)
      obtain ⟨l, HXL⟩ : ∃ l, Hid (xs2.length = l) := ⟨_, hid rfl⟩
      have hl3 : l ≤ 200000 := by have := HS.out k xs2 hx; have := HXL.out; omega
      rw [HXL.out] at hc hc2 HI HI2 HC HC2
      have HBW := hid (Nat.le_trans HB.out HW.out.size)
      clear hx hx2 hi hi2
      go_wp2
      go_quiet (fail)
      go_wp2
      clear hc hc2
      go_loopg [6] l (fun gk v5 wq => ∃ j : Nat, j ≤ l ∧ gk = l - j ∧ v5 = .int .i64 j ∧ Hid (Below wr.heap.size wr wq))
      case atStart => exact ⟨0, by omega, rfl, rfl, hid (below_drewN (Below.refl _ _) _)⟩
      case round =>
        obtain ⟨j, hj, rfl, rfl, HW2⟩ := hrel
        have hc := (HW2.out.cell (p := ⟨b, off + k, none⟩) hb').trans HC.out
        have hc2 := (HW2.out.cell (p := ⟨b2, off2 + k, none⟩) hb2').trans HC2.out
        by_cases hjl : j < l
        · have hjl' : (j : Int) < (l : Int) := by omega
          obtain ⟨b3, off3, x, rfl, hb3, hx, hc3⟩ := (HI.out.below (HW2.out.mono HBW.out)).at_ hjl
          obtain ⟨b4, off4, y, rfl, hb4, hy, hc4⟩ := (HI2.out.below (HW2.out.mono HBW.out)).at_ hjl
          have hxy : y = x := Option.some.inj (hy.symm.trans hx)
          subst hxy
          clear hx hy
          go_wp2
          go_quiet (fail)
          go_wp2
          go_roundg (l - (j + 1))
          case measure => omega
          case rel => exact ⟨j + 1, by omega, rfl, rfl, hid (below_drewN HW2.out _)⟩
        · have hjl' : ¬ (j : Int) < (l : Int) := by omega
          go_wp2
          go_roundg (n - (k + 1))
          case measure => omega
          case rel => exact ⟨k + 1, by omega, rfl, rfl, hid (after HW.out HW2.out HW.out.size)⟩
    · have hlt' : ¬ (k : Int) < (n : Int) := by omega
      go_wp2
      go_ret
      exact ⟨rfl, HW⟩
/-- Formulas that are the same. -/
theorem same_t (N : Int) (ls : List (List Int)) (A A2 : Option Addr) (n cap cap2 B : Nat) (w : World) (hB : B ≤ w.heap.size) (h1 : Lists w B A n ls) (h2 : Lists w B A2 n ls) (hl : n ≤ 200000) (hs : Short ls) :
    Calls Try.prog 14 #[form N A n cap, form N A2 n cap2] w fun e w' => e = .returned (.bool true) ∧ Hid (Below w.heap.size w w') := by
  have HB2 := hid (below2 w (formO N A n cap 29) (formO N A2 n cap2 24))
  have HL := hid (lists_t ls A A2 n cap cap2 B ((w.alloc (formO N A n cap 29)).alloc (formO N A2 n cap2 24)) (Nat.le_trans hB HB2.out.size) (h1.below (HB2.out.mono hB)) (h2.below (HB2.out.mono hB)) hl hs)
  have hn : (N == N) = true := by simp
  clear h1 h2
  go_enter Try.func14, Try.ntmps14
  go_wp2_with (go_at_call 31; go_must (refine HL.out.mono ?_); rintro e w1 ⟨rfl, HB3⟩)
  go_ret
  exact ⟨rfl, hid (after HB2.out HB3.out HB2.out.size)⟩
end Go.Proofs.Ytkmcdbkdlalhdaa
