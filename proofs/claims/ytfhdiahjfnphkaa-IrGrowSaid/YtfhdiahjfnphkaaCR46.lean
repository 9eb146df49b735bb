/- When two fields, and two structs, are alike. No conditions. -/
import Derived.Test.YtfhdiahjfnphkaaCR04
namespace Go.Proofs.Ytfhdiahjfnphkaa
open Go.RowKit Go.Maps
set_option linter.unusedVariables false
set_option linter.unusedSimpArgs false
theorem fd_i (x y : FdD) (r : Bool) (w : World) (hr : fdEq x y = r) : Calls Try.prog 42 #[.agg (FdV x), .agg (FdV y)] w fun e w' => e = .returned (.bool r) ∧ Hid (Below w.heap.size w w') := by
  obtain ⟨nm, ⟨p, t⟩, l, c⟩ := x
  obtain ⟨nm2, ⟨p2, t2⟩, l2, c2⟩ := y
  cases e1 : (nm.toList == nm2.toList)
  case false =>
    have hf : r = false := hr.symm.trans (by simp [fdEq, tyEq, sEq, e1])
    subst hf
    clear hr
    go_enter Try.func42, Try.ntmps42
    go_wp2
    go_ret
    exact ⟨rfl, hid (below2 _ _ _)⟩
  case true =>
    cases e2 : (p == p2)
    case false =>
      have hf : r = false := hr.symm.trans (by simp [fdEq, tyEq, sEq, e1, e2])
      subst hf
      clear hr
      go_enter Try.func42, Try.ntmps42
      go_wp2
      go_ret
      exact ⟨rfl, hid (below2 _ _ _)⟩
    case true =>
      cases e3 : (t.toList == t2.toList)
      case false =>
        have hf : r = false := hr.symm.trans (by simp [fdEq, tyEq, sEq, e1, e2, e3])
        subst hf
        clear hr
        go_enter Try.func42, Try.ntmps42
        go_wp2
        go_ret
        exact ⟨rfl, hid (below2 _ _ _)⟩
      case true =>
        have hf : r = true := hr.symm.trans (by simp [fdEq, tyEq, sEq, e1, e2, e3])
        subst hf
        clear hr
        go_enter Try.func42, Try.ntmps42
        go_wp2
        go_ret
        exact ⟨rfl, hid (below2 _ _ _)⟩
/-- slices.EqualFunc of FdAt. -/
theorem fds_i (xs ys : List FdD) (A A2 : Option Addr) (c c2 : Nat) (r : Bool) (w : World) (h1 : RowM 5 FdAt w A xs) (h2 : RowM 5 FdAt w A2 ys) (hr : eqL fdEq xs ys = r) :
    Calls Try.prog 41 #[.slice A xs.length c, .slice A2 ys.length c2, .func (.func 42) #[] #[]] w fun e w' => e = .returned (.bool r) ∧ Hid (Below w.heap.size w w') := by
  have hl := h1.1
  obtain ⟨n, hn⟩ : ∃ n : Nat, xs.length = n := ⟨_, rfl⟩
  obtain ⟨m, hm⟩ : ∃ m : Nat, ys.length = m := ⟨_, rfl⟩
  rw [hn, hm]
  rw [hn] at hl
  have H1 := hid h1
  have H2 := hid h2
  have HN := hid hn
  have HM := hid hm
  have HR := hid hr
  clear h1 h2 hn hm hr
  by_cases hnm : n = m
  · subst hnm
    have e0 : ((n : Int) != (n : Int)) = false := by simp
    go_enter Try.func41, Try.ntmps41
    go_wp2
    go_loopg [17] n (fun gk v17 wr => ∃ k : Nat, k ≤ n ∧ gk = n - k ∧ v17 = .int .i64 k ∧ Hid (Below w.heap.size w wr) ∧ Hid (∀ i x y, i < k → xs[i]? = some x → ys[i]? = some y → fdEq x y = true))
    case atStart => exact ⟨0, by omega, rfl, rfl, hid (Below.refl _ _), hid (fun i x y hi => absurd hi (by omega))⟩
    case round =>
      obtain ⟨k, hk, rfl, rfl, HB, HA⟩ := hrel
      by_cases hlt : k < n
      · have hlt' : (k : Int) < (n : Int) := by omega
        obtain ⟨x, hx⟩ := get_some HN.out hlt
        obtain ⟨y, hy⟩ := get_some HM.out hlt
        obtain ⟨b, o, rfl, hb1, hc1⟩ := (H1.out.later fd_stays HB.out).2 k x hx
        obtain ⟨b2, o2, rfl, hb2, hc2⟩ := (H2.out.later fd_stays HB.out).2 k y hy
        have d0 := hc1 0 _ rfl
        have d1 := hc1 1 _ rfl
        have d2 := hc1 2 _ rfl
        have d3 := hc1 3 _ rfl
        have d4 := hc1 4 _ rfl
        have f0 := fun o => cells_stay (below1 wr o) hb2 hc2 0 _ rfl
        have f1 := fun o => cells_stay (below1 wr o) hb2 hc2 1 _ rfl
        have f2 := fun o => cells_stay (below1 wr o) hb2 hc2 2 _ rfl
        have f3 := fun o => cells_stay (below1 wr o) hb2 hc2 3 _ rfl
        have f4 := fun o => cells_stay (below1 wr o) hb2 hc2 4 _ rfl
        simp only [Nat.add_zero] at d0 f0
        have HX := hid hx
        have HY := hid hy
        have HBA := HB
        have HW := hid (below2 wr)
        clear hx hy hc1 hc2
        cases e : fdEq x y
        case false =>
          have hf : r = false := HR.out.symm.trans (eqL_no HX.out HY.out e)
          subst hf
          have HE := hid e
          clear e
          go_wp2_with (go_at_call 42; go_must (refine (fd_i x y false _ HE.out).mono ?_); rintro e w3 ⟨rfl, hb3⟩)
          go_ret
          exact ⟨rfl, hid (after HBA.out (after (HW.out _ _) hb3.out (HW.out _ _).size) HBA.out.size)⟩
        case true =>
          have HE := hid e
          clear e
          go_wp2_with (go_at_call 42; go_must (refine (fd_i x y true _ HE.out).mono ?_); rintro e w3 ⟨rfl, hb3⟩)
          go_roundg (n - (k + 1))
          case measure => omega
          case rel => exact ⟨k + 1, by omega, rfl, rfl, hid (after HBA.out (after (HW.out _ _) hb3.out (HW.out _ _).size) HBA.out.size), hid (fun i x' y' hi h1 h2 => by
            by_cases hik : i < k
            · exact HA.out i x' y' hik h1 h2
            · obtain rfl : i = k := by omega
              rw [HX.out] at h1
              rw [HY.out] at h2
              cases h1
              cases h2
              exact HE.out)⟩
      · have hlt' : ¬ (k : Int) < (n : Int) := by omega
        have hf : r = true := HR.out.symm.trans (eqL_yes (HN.out.trans HM.out.symm) (fun i x y hi h1 h2 => HA.out i x y (by have := HN.out; omega) h1 h2))
        subst hf
        go_wp2
        go_ret
        exact ⟨rfl, HB⟩
  · have e0 : ((n : Int) != (m : Int)) = true := by simp; omega
    have hf : r = false := HR.out.symm.trans (eqL_len (by rw [HN.out, HM.out]; exact hnm))
    subst hf
    go_enter Try.func41, Try.ntmps41
    go_wp2
    go_ret
    exact ⟨rfl, hid (Below.refl _ _)⟩
end Go.Proofs.Ytfhdiahjfnphkaa
