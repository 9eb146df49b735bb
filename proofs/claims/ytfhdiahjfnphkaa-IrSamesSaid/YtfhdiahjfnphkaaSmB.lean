/- When two slices of numbers, of variables, are alike. No conditions. -/
import Derived.Test.YtfhdiahjfnphkaaSmA
namespace Go.Proofs.Ytfhdiahjfnphkaa
open Go.RowKit Go.Maps
set_option linter.unusedVariables false
set_option linter.unusedSimpArgs false
/-- Numbers of the reference. -/
theorem numbers_i (xs ys : List Int) (A A2 : Option Addr) (c c2 : Nat) (r : Bool) (w : World) (h1 : IntsM w A xs) (h2 : IntsM w A2 ys) (hr : eqL (· == ·) xs ys = r) :
    Calls Try.prog 25 #[.slice A xs.length c, .slice A2 ys.length c2] w fun e w' => e = .returned (.bool r) ∧ Hid (Below w.heap.size w w') := by
  have hl := h1.1
  obtain ⟨n, hn⟩ : ∃ n : Nat, xs.length = n := ⟨_, rfl⟩
  obtain ⟨m, hm⟩ : ∃ m : Nat, ys.length = m := ⟨_, rfl⟩
  rw [hn, hm]
  rw [hn] at hl
  have H1 := hid h1
  have H2 := hid h2
  have HN := hid hn
  have HM := hid hm
  have HR := hid hr
  clear h1 h2 hn hm hr
  by_cases hnm : n = m
  · subst hnm
    have e0 : ((n : Int) != (n : Int)) = false := by simp
    go_enter Try.func25, Try.ntmps25
    go_wp2
    go_loopg [5] n (fun gk v5 wr => ∃ k : Nat, k ≤ n ∧ gk = n - k ∧ v5 = .int .i64 k ∧ Hid (Below w.heap.size w wr) ∧ Hid (∀ i x y, i < k → xs[i]? = some x → ys[i]? = some y → (x == y) = true))
    case atStart => exact ⟨0, by omega, rfl, rfl, hid (Below.refl _ _), hid (fun i x y hi => absurd hi (by omega))⟩
    case round =>
      obtain ⟨k, hk, rfl, rfl, HB, HA⟩ := hrel
      by_cases hlt : k < n
      · have hlt' : (k : Int) < (n : Int) := by omega
        obtain ⟨x, hx⟩ := get_some HN.out hlt
        obtain ⟨y, hy⟩ := get_some HM.out hlt
        obtain ⟨b, o, rfl, hb1, hc1⟩ := (H1.out.later int_stays HB.out).2 k x hx
        obtain ⟨b2, o2, rfl, hb2, hc2⟩ := (H2.out.later int_stays HB.out).2 k y hy
        simp only [IntAt, Nat.mul_one] at hc1 hc2
        have HX := hid hx
        have HY := hid hy
        clear hx hy
        cases e : (x != y)
        case true =>
          have hf : r = false := HR.out.symm.trans (eqL_no HX.out HY.out (by simpa using e))
          subst hf
          have HBA := HB
          go_wp2
          go_quiet (fail)
          go_wp2
          go_ret
          exact ⟨rfl, hid (below_drewN HBA.out _)⟩
        case false =>
          have HBA := HB
          go_wp2
          go_quiet (fail)
          go_wp2
          go_roundg (n - (k + 1))
          case measure => omega
          case rel => exact ⟨k + 1, by omega, rfl, rfl, hid (below_drewN HBA.out _), hid (fun i x' y' hi h1 h2 => by
            by_cases hik : i < k
            · exact HA.out i x' y' hik h1 h2
            · obtain rfl : i = k := by omega
              rw [HX.out] at h1
              rw [HY.out] at h2
              cases h1
              cases h2
              simpa using e)⟩
      · have hlt' : ¬ (k : Int) < (n : Int) := by omega
        have hf : r = true := HR.out.symm.trans (eqL_yes (HN.out.trans HM.out.symm) (fun i x y hi h1 h2 => HA.out i x y (by have := HN.out; omega) h1 h2))
        subst hf
        go_wp2
        go_ret
        exact ⟨rfl, HB⟩
  · have e0 : ((n : Int) != (m : Int)) = true := by simp; omega
    have hf : r = false := HR.out.symm.trans (eqL_len (by rw [HN.out, HM.out]; exact hnm))
    subst hf
    go_enter Try.func25, Try.ntmps25
    go_wp2
    go_ret
    exact ⟨rfl, hid (Below.refl _ _)⟩
/-- slices.Equal of variables. -/
theorem eqVars_i (xs ys : List VaD) (A A2 : Option Addr) (c c2 : Nat) (r : Bool) (w : World) (h1 : RowM 3 VaAt w A xs) (h2 : RowM 3 VaAt w A2 ys) (hr : eqL vaEq xs ys = r) :
    Calls Try.prog 21 #[.slice A xs.length c, .slice A2 ys.length c2] w fun e w' => e = .returned (.bool r) ∧ Hid (Below w.heap.size w w') := by
  have hl := h1.1
  obtain ⟨n, hn⟩ : ∃ n : Nat, xs.length = n := ⟨_, rfl⟩
  obtain ⟨m, hm⟩ : ∃ m : Nat, ys.length = m := ⟨_, rfl⟩
  rw [hn, hm]
  rw [hn] at hl
  have H1 := hid h1
  have H2 := hid h2
  have HN := hid hn
  have HM := hid hm
  have HR := hid hr
  clear h1 h2 hn hm hr
  by_cases hnm : n = m
  · subst hnm
    have e0 : ((n : Int) != (n : Int)) = false := by simp
    go_enter Try.func21, Try.ntmps21
    go_wp2
    go_loopg [13] n (fun gk v13 wr => ∃ k : Nat, k ≤ n ∧ gk = n - k ∧ v13 = .int .i64 k ∧ Hid (Below w.heap.size w wr) ∧ Hid (∀ i x y, i < k → xs[i]? = some x → ys[i]? = some y → vaEq x y = true))
    case atStart => exact ⟨0, by omega, rfl, rfl, hid (Below.refl _ _), hid (fun i x y hi => absurd hi (by omega))⟩
    case round =>
      obtain ⟨k, hk, rfl, rfl, HB, HA⟩ := hrel
      by_cases hlt : k < n
      · have hlt' : (k : Int) < (n : Int) := by omega
        obtain ⟨x, hx⟩ := get_some HN.out hlt
        obtain ⟨y, hy⟩ := get_some HM.out hlt
        obtain ⟨b, o, rfl, hb1, hc1⟩ := (H1.out.later va_stays HB.out).2 k x hx
        obtain ⟨b2, o2, rfl, hb2, hc2⟩ := (H2.out.later va_stays HB.out).2 k y hy
        have d0 := hc1 0 _ rfl
        have d1 := hc1 1 _ rfl
        have d2 := hc1 2 _ rfl
        have f0 := hc2 0 _ rfl
        have f1 := hc2 1 _ rfl
        have f2 := hc2 2 _ rfl
        simp only [Nat.add_zero] at d0 f0
        have HX := hid hx
        have HY := hid hy
        clear hx hy hc1 hc2
        obtain ⟨⟨p, nm⟩, cl⟩ := x
        obtain ⟨⟨p2, nm2⟩, cl2⟩ := y
        have HBA := HB
        cases e1 : (p == p2)
        case false =>
          have hf : r = false := HR.out.symm.trans (eqL_no HX.out HY.out (by simp [vaEq, tyEq, e1]))
          subst hf
          go_wp2
          go_quiet (fail)
          go_wp2
          go_ret
          exact ⟨rfl, hid (below_drewN HBA.out _)⟩
        case true =>
          cases e2 : (nm.toList == nm2.toList)
          case false =>
            have hf : r = false := HR.out.symm.trans (eqL_no HX.out HY.out (by simp [vaEq, tyEq, sEq, e1, e2]))
            subst hf
            go_wp2
            go_quiet (fail)
            go_wp2
            go_ret
            exact ⟨rfl, hid (below_drewN HBA.out _)⟩
          case true =>
            cases e3 : (cl == cl2)
            case false =>
              have hf : r = false := HR.out.symm.trans (eqL_no HX.out HY.out (by simp [vaEq, tyEq, sEq, e1, e2, e3]))
              subst hf
              go_wp2
              go_quiet (fail)
              go_wp2
              go_ret
              exact ⟨rfl, hid (below_drewN HBA.out _)⟩
            case true =>
              go_wp2
              go_quiet (fail)
              go_wp2
              go_roundg (n - (k + 1))
              case measure => omega
              case rel => exact ⟨k + 1, by omega, rfl, rfl, hid (below_drewN HBA.out _), hid (fun i x' y' hi h1 h2 => by
                by_cases hik : i < k
                · exact HA.out i x' y' hik h1 h2
                · obtain rfl : i = k := by omega
                  rw [HX.out] at h1
                  rw [HY.out] at h2
                  cases h1
                  cases h2
                  simp [vaEq, tyEq, sEq, e1, e2, e3])⟩
      · have hlt' : ¬ (k : Int) < (n : Int) := by omega
        have hf : r = true := HR.out.symm.trans (eqL_yes (HN.out.trans HM.out.symm) (fun i x y hi h1 h2 => HA.out i x y (by have := HN.out; omega) h1 h2))
        subst hf
        go_wp2
        go_ret
        exact ⟨rfl, HB⟩
  · have e0 : ((n : Int) != (m : Int)) = true := by simp; omega
    have hf : r = false := HR.out.symm.trans (eqL_len (by rw [HN.out, HM.out]; exact hnm))
    subst hf
    go_enter Try.func21, Try.ntmps21
    go_wp2
    go_ret
    exact ⟨rfl, hid (Below.refl _ _)⟩
end Go.Proofs.Ytfhdiahjfnphkaa
