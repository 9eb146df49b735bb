/- A clause in order; a clause without a literal; are all literals? Conditions: at most 200000 numbers. -/
import Derived.Test.YtkmcdbkdlalhdaaCnfB
import Derived.Test.YtkmcdbkdlalhdaaCnfD
namespace Go.Proofs.Ytkmcdbkdlalhdaa
open Go.RowKit Go.Maps Go.Lib Go.Sort
set_option linter.unusedVariables false
set_option linter.unusedSimpArgs false
set_option maxHeartbeats 1000000 in
theorem norm_i (xs : List Int) (A : Option Addr) (n cap B : Nat) (w : World) (h : Ints w B A n xs) (hl : n ≤ 200000) :
    Calls Try.prog 27 #[.slice A n cap] w fun e w' => ∃ A' c', e = .returned (.tuple #[.slice A' (nrm xs).length c', .bool (okN (nrm xs))]) ∧ Hid (Own w' w.heap.size A' (nrm xs).length c' (nrm xs)) ∧ Hid (Below w.heap.size w w') := by
  have hle : (nrm xs).length ≤ 200000 := by have := nrm_len xs; have := h.len; omega
  have hcom : ∀ A c w1, Own w1 w.heap.size A n c (srt xs) → Calls Try.prog 44 #[.slice A n c] w1 fun e w' => e = .returned (.slice A (nrm xs).length c) ∧ Hid (Own w' w.heap.size A (nrm xs).length c (nrm xs)) ∧ Hid (Below w.heap.size w1 w') :=
    fun A c w1 ho => compact_i (srt xs) A n c w.heap.size w1 ho hl
  have hsort : ∀ A c w1, Own w1 w.heap.size A n c xs → Calls Try.prog 38 #[.slice A n c, .func (.func 39) #[] #[]] w1 fun e w' => e = .returned (.tuple #[]) ∧ Hid (Own w' w.heap.size A n c (srt xs)) ∧ Hid (Below w.heap.size w1 w') :=
    fun A c w1 ho => sort_i xs A n c w.heap.size w1 ho hl
  obtain ⟨ys, HY⟩ : ∃ ys, Hid (nrm xs = ys) := ⟨_, hid rfl⟩
  rw [HY.out] at hle hcom ⊢
  obtain ⟨m, HM⟩ : ∃ m, Hid (ys.length = m) := ⟨_, hid rfl⟩
  rw [HM.out] at hle hcom ⊢
  obtain ⟨r, HR⟩ : ∃ r, Hid (okN ys = r) := ⟨_, hid rfl⟩
  rw [HR.out]
  have H1 := hid h
  have HC := hid hcom
  have HS := hid hsort
  clear h hcom hsort
  go_enter Try.func27, Try.ntmps27
  go_wp2_with (first
    | (go_at_call 37; go_must (refine (clone_i xs A n cap B _ H1.out hl).mono ?_); rintro e w1 ⟨A1, c1, rfl, HO1, HB1⟩)
    | (go_at_call 38; go_must (refine (HS.out _ _ _ HO1.out).mono ?_); rintro e w2 ⟨rfl, HO2, HB2⟩)
    | (go_at_call 44; go_must (refine (HC.out _ _ _ HO2.out).mono ?_); rintro e w3 ⟨rfl, HO3, HB3⟩))
  have HI := hid HO3.out.ints
  have HBB := hid ((HB1.out.trans HB2.out).trans HB3.out)
  have HL3 := hid HBB.out.size
  clear HB1 HB2 HB3 HO1 HO2
  go_loopg [5] m (fun gk v5 wr => ∃ k : Nat, 1 ≤ k ∧ gk = m + 1 - k ∧ v5 = .int .i64 k ∧ Hid (Below w3.heap.size w3 wr) ∧ Hid (∀ j, 0 < j → j < k → ∀ x y, ys[j - 1]? = some x → ys[j]? = some y → ¬ sz x = sz y))
  case atStart => exact ⟨1, by omega, by omega, rfl, hid (Below.refl _ _), hid (fun j h1 h2 => by omega)⟩
  case round =>
    obtain ⟨k, hk, rfl, rfl, HW, HA⟩ := hrel
    have HI := hid (HI.out.below HW.out)
    by_cases hlt : k < m
    · have hlt' : (k : Int) < (m : Int) := by omega
      obtain ⟨p, hp⟩ : ∃ p, k = p + 1 := ⟨k - 1, by omega⟩
      obtain ⟨b, off, y, rfl, hb, hy, hc⟩ := HI.out.at_ hlt
      obtain ⟨b', off', x, e2, hb', hx, hc'⟩ := HI.out.at_ (show p < m by omega)
      injection e2 with e2
      injection e2 with e3 e4
      subst e3 e4
      have HX := hid hx
      have HYY := hid hy
      have HP := hid hp
      have hw : IntKind.i64.wrap ((k : Int) - 1) = p := by rw [IntKind.wrap_i64]; omega
      have hp0 : (p : Int) < (m : Int) := by omega
      clear hx hy hp
      cases e1 : (sz x == sz y)
      case true =>
        have hf : r = false := HR.out.symm.trans (okN_no (by omega) (by have := HP.out; subst this; exact HX.out) HYY.out (by simpa using e1))
        subst hf
        go_wp2
        go_quiet ((go_at_call 42; exact Calls.quiet_of_same (size_i _ _)))
        go_wp2
        go_ret2
        exact ⟨_, _, rfl, hid (HO3.out.below (below_drewN HW.out _)), hid (below_drewN (after HBB.out HW.out HL3.out) _)⟩
      case false =>
        go_wp2
        go_quiet ((go_at_call 42; exact Calls.quiet_of_same (size_i _ _)))
        go_wp2
        go_roundg (m + 1 - (k + 1))
        case measure => omega
        case rel => exact ⟨k + 1, by omega, rfl, rfl, hid (below_drewN HW.out _), hid (fun j h1 h2 u v hu hv => by
          by_cases hjk : j < k
          · exact HA.out j h1 hjk u v hu hv
          · obtain rfl : j = k := by omega
            rw [HYY.out] at hv; cases hv
            rw [show j - 1 = p by have := HP.out; omega, HX.out] at hu; cases hu
            simpa using e1)⟩
    · have hlt' : ¬ (k : Int) < (m : Int) := by omega
      have hf : r = true := HR.out.symm.trans (okN_yes (fun j h1 h2 => HA.out j h1 (by have := HM.out; omega)))
      subst hf
      go_wp2
      go_ret2
      exact ⟨_, _, rfl, hid (HO3.out.below HW.out), hid (after HBB.out HW.out HL3.out)⟩
end Go.Proofs.Ytkmcdbkdlalhdaa
