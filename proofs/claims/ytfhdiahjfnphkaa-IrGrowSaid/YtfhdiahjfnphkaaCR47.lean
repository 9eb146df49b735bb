/- When two structs, and two lists of them, are alike. No conditions. -/
import Derived.Test.YtfhdiahjfnphkaaCR46
namespace Go.Proofs.Ytfhdiahjfnphkaa
open Go.RowKit Go.Maps
set_option linter.unusedVariables false
set_option linter.unusedSimpArgs false
theorem st_i (x y : StD) (fa fa2 : Option Addr) (fc fc2 : Nat) (r : Bool) (w : World) (h1 : FdsM w fa x.fs) (h2 : FdsM w fa2 y.fs) (hr : stEq x y = r) : Calls Try.prog 28 #[.agg (StV x fa fc), .agg (StV y fa2 fc2)] w fun e w' => e = .returned (.bool r) ∧ Hid (Below w.heap.size w w') := by
  obtain ⟨nm, fs, l, c⟩ := x
  obtain ⟨nm2, fs2, l2, c2⟩ := y
  have HB := hid (below2 w)
  have H1 := hid (fun o o2 => h1.later fd_stays (below2 w o o2))
  have H2 := hid (fun o o2 => h2.later fd_stays (below2 w o o2))
  clear h1 h2
  cases e1 : (nm.toList == nm2.toList)
  case false =>
    have hf : r = false := hr.symm.trans (by simp [stEq, sEq, e1])
    subst hf
    clear hr
    go_enter Try.func28, Try.ntmps28
    go_wp2
    go_ret
    exact ⟨rfl, hid (HB.out _ _)⟩
  case true =>
    have hf : eqL fdEq fs fs2 = r := by rw [← hr]; simp [stEq, sEq, e1]
    clear hr
    have HR := hid hf
    clear hf
    go_enter Try.func28, Try.ntmps28
    go_wp2_with (go_at_call 41; go_must (refine (fds_i fs fs2 fa fa2 fc fc2 r _ (H1.out _ _) (H2.out _ _) HR.out).mono ?_); rintro e w3 ⟨rfl, hb3⟩)
    all_goals go_ret
    all_goals exact ⟨by first | rfl | simp, hid (after (HB.out _ _) hb3.out (HB.out _ _).size)⟩
/-- slices.EqualFunc of StAt. -/
theorem sts_i (xs ys : List StD) (A A2 : Option Addr) (c c2 : Nat) (r : Bool) (w : World) (h1 : RowM 4 StAt w A xs) (h2 : RowM 4 StAt w A2 ys) (hr : eqL stEq xs ys = r) :
    Calls Try.prog 27 #[.slice A xs.length c, .slice A2 ys.length c2, .func (.func 28) #[] #[]] w fun e w' => e = .returned (.bool r) ∧ Hid (Below w.heap.size w w') := by
  have hl := h1.1
  obtain ⟨n, hn⟩ : ∃ n : Nat, xs.length = n := ⟨_, rfl⟩
  obtain ⟨m, hm⟩ : ∃ m : Nat, ys.length = m := ⟨_, rfl⟩
  rw [hn, hm]
  rw [hn] at hl
  have H1 := hid h1
  have H2 := hid h2
  have HN := hid hn
  have HM := hid hm
  have HR := hid hr
  clear h1 h2 hn hm hr
  by_cases hnm : n = m
  · subst hnm
    have e0 : ((n : Int) != (n : Int)) = false := by simp
    go_enter Try.func27, Try.ntmps27
    go_wp2
    go_loopg [17] n (fun gk v17 wr => ∃ k : Nat, k ≤ n ∧ gk = n - k ∧ v17 = .int .i64 k ∧ Hid (Below w.heap.size w wr) ∧ Hid (∀ i x y, i < k → xs[i]? = some x → ys[i]? = some y → stEq x y = true))
    case atStart => exact ⟨0, by omega, rfl, rfl, hid (Below.refl _ _), hid (fun i x y hi => absurd hi (by omega))⟩
    case round =>
      obtain ⟨k, hk, rfl, rfl, HB, HA⟩ := hrel
      by_cases hlt : k < n
      · have hlt' : (k : Int) < (n : Int) := by omega
        obtain ⟨x, hx⟩ := get_some HN.out hlt
        obtain ⟨y, hy⟩ := get_some HM.out hlt
        obtain ⟨b, o, rfl, hb1, fa, fc, hc1, hm1⟩ := (H1.out.later st_stays HB.out).2 k x hx
        obtain ⟨b2, o2, rfl, hb2, fa2, fc2, hc2, hm2⟩ := (H2.out.later st_stays HB.out).2 k y hy
        have d0 := hc1 0 _ rfl
        have d1 := hc1 1 _ rfl
        have d2 := hc1 2 _ rfl
        have d3 := hc1 3 _ rfl
        have f0 := fun o => cells_stay (below1 wr o) hb2 hc2 0 _ rfl
        have f1 := fun o => cells_stay (below1 wr o) hb2 hc2 1 _ rfl
        have f2 := fun o => cells_stay (below1 wr o) hb2 hc2 2 _ rfl
        have f3 := fun o => cells_stay (below1 wr o) hb2 hc2 3 _ rfl
        simp only [Nat.add_zero] at d0 f0
        have HX := hid hx
        have HY := hid hy
        have HBA := HB
        have HW := hid (below2 wr)
        have HM1 := hid hm1
        have HM2 := hid hm2
        clear hx hy hc1 hc2 hm1 hm2
        cases e : stEq x y
        case false =>
          have hf : r = false := HR.out.symm.trans (eqL_no HX.out HY.out e)
          subst hf
          have HE := hid e
          clear e
          go_wp2_with (go_at_call 28; go_must (refine (st_i x y fa fa2 fc fc2 false _ (HM1.out.later fd_stays (HW.out _ _)) (HM2.out.later fd_stays (HW.out _ _)) HE.out).mono ?_); rintro e w3 ⟨rfl, hb3⟩)
          go_ret
          exact ⟨rfl, hid (after HBA.out (after (HW.out _ _) hb3.out (HW.out _ _).size) HBA.out.size)⟩
        case true =>
          have HE := hid e
          clear e
          go_wp2_with (go_at_call 28; go_must (refine (st_i x y fa fa2 fc fc2 true _ (HM1.out.later fd_stays (HW.out _ _)) (HM2.out.later fd_stays (HW.out _ _)) HE.out).mono ?_); rintro e w3 ⟨rfl, hb3⟩)
          go_roundg (n - (k + 1))
          case measure => omega
          case rel => exact ⟨k + 1, by omega, rfl, rfl, hid (after HBA.out (after (HW.out _ _) hb3.out (HW.out _ _).size) HBA.out.size), hid (fun i x' y' hi h1 h2 => by
            by_cases hik : i < k
            · exact HA.out i x' y' hik h1 h2
            · obtain rfl : i = k := by omega
              rw [HX.out] at h1
              rw [HY.out] at h2
              cases h1
              cases h2
              exact HE.out)⟩
      · have hlt' : ¬ (k : Int) < (n : Int) := by omega
        have hf : r = true := HR.out.symm.trans (eqL_yes (HN.out.trans HM.out.symm) (fun i x y hi h1 h2 => HA.out i x y (by have := HN.out; omega) h1 h2))
        subst hf
        go_wp2
        go_ret
        exact ⟨rfl, HB⟩
  · have e0 : ((n : Int) != (m : Int)) = true := by simp; omega
    have hf : r = false := HR.out.symm.trans (eqL_len (by rw [HN.out, HM.out]; exact hnm))
    subst hf
    go_enter Try.func27, Try.ntmps27
    go_wp2
    go_ret
    exact ⟨rfl, hid (Below.refl _ _)⟩
end Go.Proofs.Ytfhdiahjfnphkaa
