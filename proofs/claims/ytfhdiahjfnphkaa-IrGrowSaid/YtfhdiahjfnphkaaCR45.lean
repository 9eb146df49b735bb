/- When two instructions are alike. No conditions. -/
import Derived.Test.YtfhdiahjfnphkaaCR04
namespace Go.Proofs.Ytfhdiahjfnphkaa
open Go.RowKit Go.Maps
set_option linter.unusedVariables false
set_option linter.unusedSimpArgs false
set_option maxRecDepth 100000 in
set_option maxHeartbeats 8000000 in
theorem in_i (x y : InD) (ao ao2 mo mo2 : Option Addr) (ac ac2 mc mc2 : Nat) (r : Bool) (w : World) (h1 : InM w x ao mo) (h2 : InM w y ao2 mo2) (hr : inEq x y = r) :
    Calls Try.prog 24 #[.agg (InV x ao ac mo mc), .agg (InV y ao2 ac2 mo2 mc2)] w fun e w' => e = .returned (.bool r) ∧ Hid (Below w.heap.size w w') := by
  have HX := hid (boxes' w (InV x ao ac mo mc) 49 (InV y ao2 ac2 mo2 mc2) 49)
  obtain ⟨op, d, a, b, tt, el, f, n, l, c, sg, xs, ms⟩ := x
  obtain ⟨op2, d2, a2, b2, tt2, el2, f2, n2, l2, c2, sg2, xs2, ms2⟩ := y
  have HB := hid (below2 w)
  have H1 := hid (fun W (hb : Below w.heap.size w W) => h1.later hb)
  have H2 := hid (fun W (hb : Below w.heap.size w W) => h2.later hb)
  clear h1 h2
  cases e_op : (op == op2)
  case false =>
    have hf : r = false := hr.symm.trans (by simp [inEq, sEq, e_op])
    subst hf
    clear hr
    go_enter Try.func24, Try.ntmps24
    go_wp2
    go_ret
    exact ⟨rfl, hid (HB.out _ _)⟩
  case true =>
    cases e_d : (d == d2)
    case false =>
      have hf : r = false := hr.symm.trans (by simp [inEq, sEq, e_op, e_d])
      subst hf
      clear hr
      go_enter Try.func24, Try.ntmps24
      go_wp2
      go_ret
      exact ⟨rfl, hid (HB.out _ _)⟩
    case true =>
      cases e_a : (a == a2)
      case false =>
        have hf : r = false := hr.symm.trans (by simp [inEq, sEq, e_op, e_d, e_a])
        subst hf
        clear hr
        go_enter Try.func24, Try.ntmps24
        go_wp2
        go_ret
        exact ⟨rfl, hid (HB.out _ _)⟩
      case true =>
        cases e_b : (b == b2)
        case false =>
          have hf : r = false := hr.symm.trans (by simp [inEq, sEq, e_op, e_d, e_a, e_b])
          subst hf
          clear hr
          go_enter Try.func24, Try.ntmps24
          go_wp2
          go_ret
          exact ⟨rfl, hid (HB.out _ _)⟩
        case true =>
          cases e_f : (f == f2)
          case false =>
            have hf : r = false := hr.symm.trans (by simp [inEq, sEq, e_op, e_d, e_a, e_b, e_f])
            subst hf
            clear hr
            go_enter Try.func24, Try.ntmps24
            go_wp2
            go_ret
            exact ⟨rfl, hid (HB.out _ _)⟩
          case true =>
            cases e_n : (n == n2)
            case false =>
              have hf : r = false := hr.symm.trans (by simp [inEq, sEq, e_op, e_d, e_a, e_b, e_f, e_n])
              subst hf
              clear hr
              go_enter Try.func24, Try.ntmps24
              go_wp2
              go_ret
              exact ⟨rfl, hid (HB.out _ _)⟩
            case true =>
              cases e_sg : (sg.toList == sg2.toList)
              case false =>
                have hf : r = false := hr.symm.trans (by simp [inEq, sEq, e_op, e_d, e_a, e_b, e_f, e_n, e_sg])
                subst hf
                clear hr
                go_enter Try.func24, Try.ntmps24
                go_wp2
                go_ret
                exact ⟨rfl, hid (HB.out _ _)⟩
              case true =>
                cases e_xs : eqL (· == ·) xs xs2
                case false =>
                  have hf : r = false := hr.symm.trans (by simp [inEq, sEq, e_op, e_d, e_a, e_b, e_f, e_n, e_sg, e_xs])
                  subst hf
                  clear hr
                  have F1 : True := trivial
                  have Hxs := hid e_xs
                  clear e_xs
                  go_enter Try.func24, Try.ntmps24
                  go_wp2_with (go_at_call 22; have hh := F1; clear F1; go_must (refine (eqInts_i xs xs2 ao ao2 ac ac2 false _ (H1.out _ (HB.out _ _)).xs (H2.out _ (HB.out _ _)).xs Hxs.out).mono ?_); rintro e w3 ⟨rfl, hb3⟩; have HXA := hid (old_block hb3.out (Array.getElem?_eq_some_iff.1 HX.out.1).1 HX.out.1); have HXB := hid (old_block hb3.out (Array.getElem?_eq_some_iff.1 HX.out.2).1 HX.out.2); have HW3 := hid (after (HB.out _ _) hb3.out (HB.out _ _).size); have ha3 := cells_at HXA.out; have hb3c := cells_at HXB.out)
                  go_ret
                  exact ⟨rfl, HW3⟩
                case true =>
                  cases e_ms : eqL (· == ·) ms ms2
                  case false =>
                    have hf : r = false := hr.symm.trans (by simp [inEq, sEq, e_op, e_d, e_a, e_b, e_f, e_n, e_sg, e_xs, e_ms])
                    subst hf
                    clear hr
                    have F1 : True := trivial
                    have Hxs := hid e_xs
                    clear e_xs
                    have Hms := hid e_ms
                    clear e_ms
                    go_enter Try.func24, Try.ntmps24
                    go_wp2_with (first
                      | (go_at_call 22; have hh := F1; clear F1; go_must (refine (eqInts_i xs xs2 ao ao2 ac ac2 true _ (H1.out _ (HB.out _ _)).xs (H2.out _ (HB.out _ _)).xs Hxs.out).mono ?_); rintro e w3 ⟨rfl, hb3⟩; have HXA := hid (old_block hb3.out (Array.getElem?_eq_some_iff.1 HX.out.1).1 HX.out.1); have HXB := hid (old_block hb3.out (Array.getElem?_eq_some_iff.1 HX.out.2).1 HX.out.2); have HW3 := hid (after (HB.out _ _) hb3.out (HB.out _ _).size); have ha3 := cells_at HXA.out; have hb3c := cells_at HXB.out)
                      | (go_at_call 22; go_must (refine (eqInts_i ms ms2 mo mo2 mc mc2 false _ (H1.out _ HW3.out).ms (H2.out _ HW3.out).ms Hms.out).mono ?_); rintro e w4 ⟨rfl, hb4⟩; have HXC := hid (old_block hb4.out (Array.getElem?_eq_some_iff.1 HXA.out).1 HXA.out); have HXD := hid (old_block hb4.out (Array.getElem?_eq_some_iff.1 HXB.out).1 HXB.out); have HW4 := hid (after HW3.out hb4.out HW3.out.size); have ha4 := cells_at HXC.out; have hb4c := cells_at HXD.out))
                    go_ret
                    exact ⟨rfl, HW4⟩
                  case true =>
                    cases e_tt : (tt == tt2)
                    case false =>
                      have hf : r = false := hr.symm.trans (by simp [inEq, sEq, e_op, e_d, e_a, e_b, e_f, e_n, e_sg, e_xs, e_ms, e_tt])
                      subst hf
                      clear hr
                      have F1 : True := trivial
                      have Hxs := hid e_xs
                      clear e_xs
                      have Hms := hid e_ms
                      clear e_ms
                      go_enter Try.func24, Try.ntmps24
                      go_wp2_with (first
                        | (go_at_call 22; have hh := F1; clear F1; go_must (refine (eqInts_i xs xs2 ao ao2 ac ac2 true _ (H1.out _ (HB.out _ _)).xs (H2.out _ (HB.out _ _)).xs Hxs.out).mono ?_); rintro e w3 ⟨rfl, hb3⟩; have HXA := hid (old_block hb3.out (Array.getElem?_eq_some_iff.1 HX.out.1).1 HX.out.1); have HXB := hid (old_block hb3.out (Array.getElem?_eq_some_iff.1 HX.out.2).1 HX.out.2); have HW3 := hid (after (HB.out _ _) hb3.out (HB.out _ _).size); have ha3 := cells_at HXA.out; have hb3c := cells_at HXB.out)
                        | (go_at_call 22; go_must (refine (eqInts_i ms ms2 mo mo2 mc mc2 true _ (H1.out _ HW3.out).ms (H2.out _ HW3.out).ms Hms.out).mono ?_); rintro e w4 ⟨rfl, hb4⟩; have HXC := hid (old_block hb4.out (Array.getElem?_eq_some_iff.1 HXA.out).1 HXA.out); have HXD := hid (old_block hb4.out (Array.getElem?_eq_some_iff.1 HXB.out).1 HXB.out); have HW4 := hid (after HW3.out hb4.out HW3.out.size); have ha4 := cells_at HXC.out; have hb4c := cells_at HXD.out))
                      go_ret
                      exact ⟨rfl, HW4⟩
                    case true =>
                      cases e_el : (el == el2)
                      case false =>
                        have hf : r = false := hr.symm.trans (by simp [inEq, sEq, e_op, e_d, e_a, e_b, e_f, e_n, e_sg, e_xs, e_ms, e_tt, e_el])
                        subst hf
                        clear hr
                        have F1 : True := trivial
                        have Hxs := hid e_xs
                        clear e_xs
                        have Hms := hid e_ms
                        clear e_ms
                        go_enter Try.func24, Try.ntmps24
                        go_wp2_with (first
                          | (go_at_call 22; have hh := F1; clear F1; go_must (refine (eqInts_i xs xs2 ao ao2 ac ac2 true _ (H1.out _ (HB.out _ _)).xs (H2.out _ (HB.out _ _)).xs Hxs.out).mono ?_); rintro e w3 ⟨rfl, hb3⟩; have HXA := hid (old_block hb3.out (Array.getElem?_eq_some_iff.1 HX.out.1).1 HX.out.1); have HXB := hid (old_block hb3.out (Array.getElem?_eq_some_iff.1 HX.out.2).1 HX.out.2); have HW3 := hid (after (HB.out _ _) hb3.out (HB.out _ _).size); have ha3 := cells_at HXA.out; have hb3c := cells_at HXB.out)
                          | (go_at_call 22; go_must (refine (eqInts_i ms ms2 mo mo2 mc mc2 true _ (H1.out _ HW3.out).ms (H2.out _ HW3.out).ms Hms.out).mono ?_); rintro e w4 ⟨rfl, hb4⟩; have HXC := hid (old_block hb4.out (Array.getElem?_eq_some_iff.1 HXA.out).1 HXA.out); have HXD := hid (old_block hb4.out (Array.getElem?_eq_some_iff.1 HXB.out).1 HXB.out); have HW4 := hid (after HW3.out hb4.out HW3.out.size); have ha4 := cells_at HXC.out; have hb4c := cells_at HXD.out))
                        go_ret
                        exact ⟨rfl, HW4⟩
                      case true =>
                        have hf : r = true := hr.symm.trans (by simp [inEq, sEq, e_op, e_d, e_a, e_b, e_f, e_n, e_sg, e_xs, e_ms, e_tt, e_el])
                        subst hf
                        clear hr
                        have F1 : True := trivial
                        have Hxs := hid e_xs
                        clear e_xs
                        have Hms := hid e_ms
                        clear e_ms
                        go_enter Try.func24, Try.ntmps24
                        go_wp2_with (first
                          | (go_at_call 22; have hh := F1; clear F1; go_must (refine (eqInts_i xs xs2 ao ao2 ac ac2 true _ (H1.out _ (HB.out _ _)).xs (H2.out _ (HB.out _ _)).xs Hxs.out).mono ?_); rintro e w3 ⟨rfl, hb3⟩; have HXA := hid (old_block hb3.out (Array.getElem?_eq_some_iff.1 HX.out.1).1 HX.out.1); have HXB := hid (old_block hb3.out (Array.getElem?_eq_some_iff.1 HX.out.2).1 HX.out.2); have HW3 := hid (after (HB.out _ _) hb3.out (HB.out _ _).size); have ha3 := cells_at HXA.out; have hb3c := cells_at HXB.out)
                          | (go_at_call 22; go_must (refine (eqInts_i ms ms2 mo mo2 mc mc2 true _ (H1.out _ HW3.out).ms (H2.out _ HW3.out).ms Hms.out).mono ?_); rintro e w4 ⟨rfl, hb4⟩; have HXC := hid (old_block hb4.out (Array.getElem?_eq_some_iff.1 HXA.out).1 HXA.out); have HXD := hid (old_block hb4.out (Array.getElem?_eq_some_iff.1 HXB.out).1 HXB.out); have HW4 := hid (after HW3.out hb4.out HW3.out.size); have ha4 := cells_at HXC.out; have hb4c := cells_at HXD.out))
                        go_ret
                        exact ⟨rfl, HW4⟩
end Go.Proofs.Ytfhdiahjfnphkaa
