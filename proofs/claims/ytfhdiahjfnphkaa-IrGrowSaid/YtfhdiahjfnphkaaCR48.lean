/- When two lists of instructions, and two functions, are alike. No conditions. -/
import Derived.Test.YtfhdiahjfnphkaaCR45
import Derived.Test.YtfhdiahjfnphkaaCR47
namespace Go.Proofs.Ytfhdiahjfnphkaa
open Go.RowKit Go.Maps
set_option linter.unusedVariables false
set_option linter.unusedSimpArgs false
/-- slices.EqualFunc of InAt. -/
theorem ins_i (xs ys : List InD) (A A2 : Option Addr) (c c2 : Nat) (r : Bool) (w : World) (h1 : RowM 13 InAt w A xs) (h2 : RowM 13 InAt w A2 ys) (hr : eqL inEq xs ys = r) :
    Calls Try.prog 23 #[.slice A xs.length c, .slice A2 ys.length c2, .func (.func 24) #[] #[]] w fun e w' => e = .returned (.bool r) ∧ Hid (Below w.heap.size w w') := by
  have hl := h1.1
  obtain ⟨n, hn⟩ : ∃ n : Nat, xs.length = n := ⟨_, rfl⟩
  obtain ⟨m, hm⟩ : ∃ m : Nat, ys.length = m := ⟨_, rfl⟩
  rw [hn, hm]
  rw [hn] at hl
  have H1 := hid h1
  have H2 := hid h2
  have HN := hid hn
  have HM := hid hm
  have HR := hid hr
  clear h1 h2 hn hm hr
  by_cases hnm : n = m
  · subst hnm
    have e0 : ((n : Int) != (n : Int)) = false := by simp
    go_enter Try.func23, Try.ntmps23
    go_wp2
    go_loopg [17] n (fun gk v17 wr => ∃ k : Nat, k ≤ n ∧ gk = n - k ∧ v17 = .int .i64 k ∧ Hid (Below w.heap.size w wr) ∧ Hid (∀ i x y, i < k → xs[i]? = some x → ys[i]? = some y → inEq x y = true))
    case atStart => exact ⟨0, by omega, rfl, rfl, hid (Below.refl _ _), hid (fun i x y hi => absurd hi (by omega))⟩
    case round =>
      obtain ⟨k, hk, rfl, rfl, HB, HA⟩ := hrel
      by_cases hlt : k < n
      · have hlt' : (k : Int) < (n : Int) := by omega
        obtain ⟨x, hx⟩ := get_some HN.out hlt
        obtain ⟨y, hy⟩ := get_some HM.out hlt
        obtain ⟨b, o, rfl, hb1, ao, ac, mo, mc, hc1, hm1⟩ := (H1.out.later in_stays HB.out).2 k x hx
        obtain ⟨b2, o2, rfl, hb2, ao2, ac2, mo2, mc2, hc2, hm2⟩ := (H2.out.later in_stays HB.out).2 k y hy
        have d0 := hc1 0 _ rfl
        have d1 := hc1 1 _ rfl
        have d2 := hc1 2 _ rfl
        have d3 := hc1 3 _ rfl
        have d4 := hc1 4 _ rfl
        have d5 := hc1 5 _ rfl
        have d6 := hc1 6 _ rfl
        have d7 := hc1 7 _ rfl
        have d8 := hc1 8 _ rfl
        have d9 := hc1 9 _ rfl
        have d10 := hc1 10 _ rfl
        have d11 := hc1 11 _ rfl
        have d12 := hc1 12 _ rfl
        have f0 := fun o => cells_stay (below1 wr o) hb2 hc2 0 _ rfl
        have f1 := fun o => cells_stay (below1 wr o) hb2 hc2 1 _ rfl
        have f2 := fun o => cells_stay (below1 wr o) hb2 hc2 2 _ rfl
        have f3 := fun o => cells_stay (below1 wr o) hb2 hc2 3 _ rfl
        have f4 := fun o => cells_stay (below1 wr o) hb2 hc2 4 _ rfl
        have f5 := fun o => cells_stay (below1 wr o) hb2 hc2 5 _ rfl
        have f6 := fun o => cells_stay (below1 wr o) hb2 hc2 6 _ rfl
        have f7 := fun o => cells_stay (below1 wr o) hb2 hc2 7 _ rfl
        have f8 := fun o => cells_stay (below1 wr o) hb2 hc2 8 _ rfl
        have f9 := fun o => cells_stay (below1 wr o) hb2 hc2 9 _ rfl
        have f10 := fun o => cells_stay (below1 wr o) hb2 hc2 10 _ rfl
        have f11 := fun o => cells_stay (below1 wr o) hb2 hc2 11 _ rfl
        have f12 := fun o => cells_stay (below1 wr o) hb2 hc2 12 _ rfl
        simp only [Nat.add_zero] at d0 f0
        have HX := hid hx
        have HY := hid hy
        have HBA := HB
        have HW := hid (below2 wr)
        have HM1 := hid hm1
        have HM2 := hid hm2
        clear hx hy hc1 hc2 hm1 hm2
        cases e : inEq x y
        case false =>
          have hf : r = false := HR.out.symm.trans (eqL_no HX.out HY.out e)
          subst hf
          have HE := hid e
          clear e
          go_wp2_with (go_at_call 24; go_must (refine (in_i x y ao ao2 mo mo2 ac ac2 mc mc2 false _ (HM1.out.later (HW.out _ _)) (HM2.out.later (HW.out _ _)) HE.out).mono ?_); rintro e w3 ⟨rfl, hb3⟩)
          go_ret
          exact ⟨rfl, hid (after HBA.out (after (HW.out _ _) hb3.out (HW.out _ _).size) HBA.out.size)⟩
        case true =>
          have HE := hid e
          clear e
          go_wp2_with (go_at_call 24; go_must (refine (in_i x y ao ao2 mo mo2 ac ac2 mc mc2 true _ (HM1.out.later (HW.out _ _)) (HM2.out.later (HW.out _ _)) HE.out).mono ?_); rintro e w3 ⟨rfl, hb3⟩)
          go_roundg (n - (k + 1))
          case measure => omega
          case rel => exact ⟨k + 1, by omega, rfl, rfl, hid (after HBA.out (after (HW.out _ _) hb3.out (HW.out _ _).size) HBA.out.size), hid (fun i x' y' hi h1 h2 => by
            by_cases hik : i < k
            · exact HA.out i x' y' hik h1 h2
            · obtain rfl : i = k := by omega
              rw [HX.out] at h1
              rw [HY.out] at h2
              cases h1
              cases h2
              exact HE.out)⟩
      · have hlt' : ¬ (k : Int) < (n : Int) := by omega
        have hf : r = true := HR.out.symm.trans (eqL_yes (HN.out.trans HM.out.symm) (fun i x y hi h1 h2 => HA.out i x y (by have := HN.out; omega) h1 h2))
        subst hf
        go_wp2
        go_ret
        exact ⟨rfl, HB⟩
  · have e0 : ((n : Int) != (m : Int)) = true := by simp; omega
    have hf : r = false := HR.out.symm.trans (eqL_len (by rw [HN.out, HM.out]; exact hnm))
    subst hf
    go_enter Try.func23, Try.ntmps23
    go_wp2
    go_ret
    exact ⟨rfl, hid (Below.refl _ _)⟩
set_option maxRecDepth 100000 in
set_option maxHeartbeats 8000000 in
theorem co_i (x y : CoD) (va va2 fa fa2 ia ia2 : Option Addr) (vc vc2 fc fc2 ic ic2 : Nat) (r : Bool) (w : World) (h1 : CoM w x va fa ia) (h2 : CoM w y va2 fa2 ia2) (hr : coEq x y = r) :
    Calls Try.prog 8 #[.agg (CoV x va vc fa fc ia ic), .agg (CoV y va2 vc2 fa2 fc2 ia2 ic2)] w fun e w' => e = .returned (.bool r) ∧ Hid (Below w.heap.size w w') := by
  have HX := hid (boxes' w (CoV x va vc fa fc ia ic) 37 (CoV y va2 vc2 fa2 fc2 ia2 ic2) 37)
  obtain ⟨nm, pr, vs, ⟨⟨p, tn⟩, cl⟩, fr, is⟩ := x
  obtain ⟨nm2, pr2, vs2, ⟨⟨p2, tn2⟩, cl2⟩, fr2, is2⟩ := y
  have HB := hid (below2 w)
  have H1 := hid (fun W (hb : Below w.heap.size w W) => h1.later hb)
  have H2 := hid (fun W (hb : Below w.heap.size w W) => h2.later hb)
  clear h1 h2
  cases e_nm : (nm.toList == nm2.toList)
  case false =>
    have hf : r = false := hr.symm.trans (by simp [coEq, vaEq, tyEq, sEq, e_nm])
    subst hf
    clear hr
    go_enter Try.func8, Try.ntmps8
    go_wp2
    go_ret
    exact ⟨rfl, hid (HB.out _ _)⟩
  case true =>
    cases e_pr : (pr == pr2)
    case false =>
      have hf : r = false := hr.symm.trans (by simp [coEq, vaEq, tyEq, sEq, e_nm, e_pr])
      subst hf
      clear hr
      go_enter Try.func8, Try.ntmps8
      go_wp2
      go_ret
      exact ⟨rfl, hid (HB.out _ _)⟩
    case true =>
      cases e_p : (p == p2)
      case false =>
        have hf : r = false := hr.symm.trans (by simp [coEq, vaEq, tyEq, sEq, e_nm, e_pr, e_p])
        subst hf
        clear hr
        go_enter Try.func8, Try.ntmps8
        go_wp2
        go_ret
        exact ⟨rfl, hid (HB.out _ _)⟩
      case true =>
        cases e_tn : (tn.toList == tn2.toList)
        case false =>
          have hf : r = false := hr.symm.trans (by simp [coEq, vaEq, tyEq, sEq, e_nm, e_pr, e_p, e_tn])
          subst hf
          clear hr
          go_enter Try.func8, Try.ntmps8
          go_wp2
          go_ret
          exact ⟨rfl, hid (HB.out _ _)⟩
        case true =>
          cases e_cl : (cl == cl2)
          case false =>
            have hf : r = false := hr.symm.trans (by simp [coEq, vaEq, tyEq, sEq, e_nm, e_pr, e_p, e_tn, e_cl])
            subst hf
            clear hr
            go_enter Try.func8, Try.ntmps8
            go_wp2
            go_ret
            exact ⟨rfl, hid (HB.out _ _)⟩
          case true =>
            cases e_vs : eqL vaEq vs vs2
            case false =>
              have hf : r = false := hr.symm.trans (by simp [coEq, vaEq, tyEq, sEq, e_nm, e_pr, e_p, e_tn, e_cl, e_vs])
              subst hf
              clear hr
              have Hvs := hid e_vs
              clear e_vs
              go_enter Try.func8, Try.ntmps8
              go_wp2_with (go_at_call 21; go_must (refine (eqVars_i vs vs2 va va2 vc vc2 false _ (H1.out _ (HB.out _ _)).vs (H2.out _ (HB.out _ _)).vs Hvs.out).mono ?_); rintro e v0 ⟨rfl, hb0⟩; have HXa0 := hid (old_block hb0.out (Array.getElem?_eq_some_iff.1 HX.out.1).1 HX.out.1); have HXb0 := hid (old_block hb0.out (Array.getElem?_eq_some_iff.1 HX.out.2).1 HX.out.2); have HW0 := hid (after (HB.out _ _) hb0.out (HB.out _ _).size); have ha0 := cells_at HXa0.out; have hz0 := cells_at HXb0.out)
              go_ret
              exact ⟨rfl, HW0⟩
            case true =>
              cases e_fr : eqL (· == ·) fr fr2
              case false =>
                have hf : r = false := hr.symm.trans (by simp [coEq, vaEq, tyEq, sEq, e_nm, e_pr, e_p, e_tn, e_cl, e_vs, e_fr])
                subst hf
                clear hr
                have Hvs := hid e_vs
                clear e_vs
                have Hfr := hid e_fr
                clear e_fr
                go_enter Try.func8, Try.ntmps8
                go_wp2_with (first
                  | (go_at_call 21; go_must (refine (eqVars_i vs vs2 va va2 vc vc2 true _ (H1.out _ (HB.out _ _)).vs (H2.out _ (HB.out _ _)).vs Hvs.out).mono ?_); rintro e v0 ⟨rfl, hb0⟩; have HXa0 := hid (old_block hb0.out (Array.getElem?_eq_some_iff.1 HX.out.1).1 HX.out.1); have HXb0 := hid (old_block hb0.out (Array.getElem?_eq_some_iff.1 HX.out.2).1 HX.out.2); have HW0 := hid (after (HB.out _ _) hb0.out (HB.out _ _).size); have ha0 := cells_at HXa0.out; have hz0 := cells_at HXb0.out)
                  | (go_at_call 22; go_must (refine (eqInts_i fr fr2 fa fa2 fc fc2 false _ (H1.out _ HW0.out).fr (H2.out _ HW0.out).fr Hfr.out).mono ?_); rintro e v1 ⟨rfl, hb1⟩; have HXa1 := hid (old_block hb1.out (Array.getElem?_eq_some_iff.1 HXa0.out).1 HXa0.out); have HXb1 := hid (old_block hb1.out (Array.getElem?_eq_some_iff.1 HXb0.out).1 HXb0.out); have HW1 := hid (after HW0.out hb1.out HW0.out.size); have ha1 := cells_at HXa1.out; have hz1 := cells_at HXb1.out))
                go_ret
                exact ⟨rfl, HW1⟩
              case true =>
                cases e_is : eqL inEq is is2
                case false =>
                  have hf : r = false := hr.symm.trans (by simp [coEq, vaEq, tyEq, sEq, e_nm, e_pr, e_p, e_tn, e_cl, e_vs, e_fr, e_is])
                  subst hf
                  clear hr
                  have Hvs := hid e_vs
                  clear e_vs
                  have Hfr := hid e_fr
                  clear e_fr
                  have His := hid e_is
                  clear e_is
                  go_enter Try.func8, Try.ntmps8
                  go_wp2_with (first
                    | (go_at_call 21; go_must (refine (eqVars_i vs vs2 va va2 vc vc2 true _ (H1.out _ (HB.out _ _)).vs (H2.out _ (HB.out _ _)).vs Hvs.out).mono ?_); rintro e v0 ⟨rfl, hb0⟩; have HXa0 := hid (old_block hb0.out (Array.getElem?_eq_some_iff.1 HX.out.1).1 HX.out.1); have HXb0 := hid (old_block hb0.out (Array.getElem?_eq_some_iff.1 HX.out.2).1 HX.out.2); have HW0 := hid (after (HB.out _ _) hb0.out (HB.out _ _).size); have ha0 := cells_at HXa0.out; have hz0 := cells_at HXb0.out)
                    | (go_at_call 22; go_must (refine (eqInts_i fr fr2 fa fa2 fc fc2 true _ (H1.out _ HW0.out).fr (H2.out _ HW0.out).fr Hfr.out).mono ?_); rintro e v1 ⟨rfl, hb1⟩; have HXa1 := hid (old_block hb1.out (Array.getElem?_eq_some_iff.1 HXa0.out).1 HXa0.out); have HXb1 := hid (old_block hb1.out (Array.getElem?_eq_some_iff.1 HXb0.out).1 HXb0.out); have HW1 := hid (after HW0.out hb1.out HW0.out.size); have ha1 := cells_at HXa1.out; have hz1 := cells_at HXb1.out)
                    | (go_at_call 23; go_must (refine (ins_i is is2 ia ia2 ic ic2 false _ (H1.out _ HW1.out).ins (H2.out _ HW1.out).ins His.out).mono ?_); rintro e v2 ⟨rfl, hb2⟩; have HXa2 := hid (old_block hb2.out (Array.getElem?_eq_some_iff.1 HXa1.out).1 HXa1.out); have HXb2 := hid (old_block hb2.out (Array.getElem?_eq_some_iff.1 HXb1.out).1 HXb1.out); have HW2 := hid (after HW1.out hb2.out HW1.out.size); have ha2 := cells_at HXa2.out; have hz2 := cells_at HXb2.out))
                  go_ret
                  exact ⟨rfl, HW2⟩
                case true =>
                  have hf : r = true := hr.symm.trans (by simp [coEq, vaEq, tyEq, sEq, e_nm, e_pr, e_p, e_tn, e_cl, e_vs, e_fr, e_is])
                  subst hf
                  clear hr
                  have Hvs := hid e_vs
                  clear e_vs
                  have Hfr := hid e_fr
                  clear e_fr
                  have His := hid e_is
                  clear e_is
                  go_enter Try.func8, Try.ntmps8
                  go_wp2_with (first
                    | (go_at_call 21; go_must (refine (eqVars_i vs vs2 va va2 vc vc2 true _ (H1.out _ (HB.out _ _)).vs (H2.out _ (HB.out _ _)).vs Hvs.out).mono ?_); rintro e v0 ⟨rfl, hb0⟩; have HXa0 := hid (old_block hb0.out (Array.getElem?_eq_some_iff.1 HX.out.1).1 HX.out.1); have HXb0 := hid (old_block hb0.out (Array.getElem?_eq_some_iff.1 HX.out.2).1 HX.out.2); have HW0 := hid (after (HB.out _ _) hb0.out (HB.out _ _).size); have ha0 := cells_at HXa0.out; have hz0 := cells_at HXb0.out)
                    | (go_at_call 22; go_must (refine (eqInts_i fr fr2 fa fa2 fc fc2 true _ (H1.out _ HW0.out).fr (H2.out _ HW0.out).fr Hfr.out).mono ?_); rintro e v1 ⟨rfl, hb1⟩; have HXa1 := hid (old_block hb1.out (Array.getElem?_eq_some_iff.1 HXa0.out).1 HXa0.out); have HXb1 := hid (old_block hb1.out (Array.getElem?_eq_some_iff.1 HXb0.out).1 HXb0.out); have HW1 := hid (after HW0.out hb1.out HW0.out.size); have ha1 := cells_at HXa1.out; have hz1 := cells_at HXb1.out)
                    | (go_at_call 23; go_must (refine (ins_i is is2 ia ia2 ic ic2 true _ (H1.out _ HW1.out).ins (H2.out _ HW1.out).ins His.out).mono ?_); rintro e v2 ⟨rfl, hb2⟩; have HXa2 := hid (old_block hb2.out (Array.getElem?_eq_some_iff.1 HXa1.out).1 HXa1.out); have HXb2 := hid (old_block hb2.out (Array.getElem?_eq_some_iff.1 HXb1.out).1 HXb1.out); have HW2 := hid (after HW1.out hb2.out HW1.out.size); have ha2 := cells_at HXa2.out; have hz2 := cells_at HXb2.out))
                  go_ret
                  exact ⟨rfl, HW2⟩
end Go.Proofs.Ytfhdiahjfnphkaa
