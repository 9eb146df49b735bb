/- When two modules are alike. No conditions. -/
import Derived.Test.YtfhdiahjfnphkaaCR48
namespace Go.Proofs.Ytfhdiahjfnphkaa
open Go.RowKit Go.Maps
set_option linter.unusedVariables false
set_option linter.unusedSimpArgs false
/-- slices.EqualFunc of CoAt. -/
theorem cos_i (xs ys : List CoD) (A A2 : Option Addr) (c c2 : Nat) (r : Bool) (w : World) (h1 : RowM 8 CoAt w A xs) (h2 : RowM 8 CoAt w A2 ys) (hr : eqL coEq xs ys = r) :
    Calls Try.prog 29 #[.slice A xs.length c, .slice A2 ys.length c2, .func (.func 8) #[] #[]] w fun e w' => e = .returned (.bool r) ∧ Hid (Below w.heap.size w w') := by
  have hl := h1.1
  obtain ⟨n, hn⟩ : ∃ n : Nat, xs.length = n := ⟨_, rfl⟩
  obtain ⟨m, hm⟩ : ∃ m : Nat, ys.length = m := ⟨_, rfl⟩
  rw [hn, hm]
  rw [hn] at hl
  have H1 := hid h1
  have H2 := hid h2
  have HN := hid hn
  have HM := hid hm
  have HR := hid hr
  clear h1 h2 hn hm hr
  by_cases hnm : n = m
  · subst hnm
    have e0 : ((n : Int) != (n : Int)) = false := by simp
    go_enter Try.func29, Try.ntmps29
    go_wp2
    go_loopg [17] n (fun gk v17 wr => ∃ k : Nat, k ≤ n ∧ gk = n - k ∧ v17 = .int .i64 k ∧ Hid (Below w.heap.size w wr) ∧ Hid (∀ i x y, i < k → xs[i]? = some x → ys[i]? = some y → coEq x y = true))
    case atStart => exact ⟨0, by omega, rfl, rfl, hid (Below.refl _ _), hid (fun i x y hi => absurd hi (by omega))⟩
    case round =>
      obtain ⟨k, hk, rfl, rfl, HB, HA⟩ := hrel
      by_cases hlt : k < n
      · have hlt' : (k : Int) < (n : Int) := by omega
        obtain ⟨x, hx⟩ := get_some HN.out hlt
        obtain ⟨y, hy⟩ := get_some HM.out hlt
        obtain ⟨b, o, rfl, hb1, va, vc, fa, fc, ia, ic, hc1, hm1⟩ := (H1.out.later co_stays HB.out).2 k x hx
        obtain ⟨b2, o2, rfl, hb2, va2, vc2, fa2, fc2, ia2, ic2, hc2, hm2⟩ := (H2.out.later co_stays HB.out).2 k y hy
        have d0 := hc1 0 _ rfl
        have d1 := hc1 1 _ rfl
        have d2 := hc1 2 _ rfl
        have d3 := hc1 3 _ rfl
        have d4 := hc1 4 _ rfl
        have d5 := hc1 5 _ rfl
        have d6 := hc1 6 _ rfl
        have d7 := hc1 7 _ rfl
        have f0 := fun o => cells_stay (below1 wr o) hb2 hc2 0 _ rfl
        have f1 := fun o => cells_stay (below1 wr o) hb2 hc2 1 _ rfl
        have f2 := fun o => cells_stay (below1 wr o) hb2 hc2 2 _ rfl
        have f3 := fun o => cells_stay (below1 wr o) hb2 hc2 3 _ rfl
        have f4 := fun o => cells_stay (below1 wr o) hb2 hc2 4 _ rfl
        have f5 := fun o => cells_stay (below1 wr o) hb2 hc2 5 _ rfl
        have f6 := fun o => cells_stay (below1 wr o) hb2 hc2 6 _ rfl
        have f7 := fun o => cells_stay (below1 wr o) hb2 hc2 7 _ rfl
        simp only [Nat.add_zero] at d0 f0
        have HX := hid hx
        have HY := hid hy
        have HBA := HB
        have HW := hid (below2 wr)
        have HM1 := hid hm1
        have HM2 := hid hm2
        clear hx hy hc1 hc2 hm1 hm2
        cases e : coEq x y
        case false =>
          have hf : r = false := HR.out.symm.trans (eqL_no HX.out HY.out e)
          subst hf
          have HE := hid e
          clear e
          go_wp2_with (go_at_call 8; go_must (refine (co_i x y va va2 fa fa2 ia ia2 vc vc2 fc fc2 ic ic2 false _ (HM1.out.later (HW.out _ _)) (HM2.out.later (HW.out _ _)) HE.out).mono ?_); rintro e w3 ⟨rfl, hb3⟩)
          go_ret
          exact ⟨rfl, hid (after HBA.out (after (HW.out _ _) hb3.out (HW.out _ _).size) HBA.out.size)⟩
        case true =>
          have HE := hid e
          clear e
          go_wp2_with (go_at_call 8; go_must (refine (co_i x y va va2 fa fa2 ia ia2 vc vc2 fc fc2 ic ic2 true _ (HM1.out.later (HW.out _ _)) (HM2.out.later (HW.out _ _)) HE.out).mono ?_); rintro e w3 ⟨rfl, hb3⟩)
          go_roundg (n - (k + 1))
          case measure => omega
          case rel => exact ⟨k + 1, by omega, rfl, rfl, hid (after HBA.out (after (HW.out _ _) hb3.out (HW.out _ _).size) HBA.out.size), hid (fun i x' y' hi h1 h2 => by
            by_cases hik : i < k
            · exact HA.out i x' y' hik h1 h2
            · obtain rfl : i = k := by omega
              rw [HX.out] at h1
              rw [HY.out] at h2
              cases h1
              cases h2
              exact HE.out)⟩
      · have hlt' : ¬ (k : Int) < (n : Int) := by omega
        have hf : r = true := HR.out.symm.trans (eqL_yes (HN.out.trans HM.out.symm) (fun i x y hi h1 h2 => HA.out i x y (by have := HN.out; omega) h1 h2))
        subst hf
        go_wp2
        go_ret
        exact ⟨rfl, HB⟩
  · have e0 : ((n : Int) != (m : Int)) = true := by simp; omega
    have hf : r = false := HR.out.symm.trans (eqL_len (by rw [HN.out, HM.out]; exact hnm))
    subst hf
    go_enter Try.func29, Try.ntmps29
    go_wp2
    go_ret
    exact ⟨rfl, hid (Below.refl _ _)⟩
theorem same_i (ss ss2 : List StD) (cs cs2 : List CoD) (sa sa2 ca ca2 : Option Addr) (sc sc2 cc cc2 : Nat) (r : Bool) (w : World) (h1 : RowM 4 StAt w sa ss) (h2 : RowM 4 StAt w sa2 ss2) (h3 : RowM 8 CoAt w ca cs) (h4 : RowM 8 CoAt w ca2 cs2)
    (hr : (eqL stEq ss ss2 && eqL coEq cs cs2) = r) :
    Calls Try.prog 10 #[.agg #[.slice sa ss.length sc, .slice ca cs.length cc], .agg #[.slice sa2 ss2.length sc2, .slice ca2 cs2.length cc2]] w fun e w' => e = .returned (.bool r) ∧ Hid (Below w.heap.size w w') := by
  have HX := hid (boxes' w #[.slice sa ss.length sc, .slice ca cs.length cc] 25 #[.slice sa2 ss2.length sc2, .slice ca2 cs2.length cc2] 25)
  have HB := hid (below2 w)
  have H1 := hid (fun W (hb : Below w.heap.size w W) => h1.later st_stays hb)
  have H2 := hid (fun W (hb : Below w.heap.size w W) => h2.later st_stays hb)
  have H3 := hid (fun W (hb : Below w.heap.size w W) => h3.later co_stays hb)
  have H4 := hid (fun W (hb : Below w.heap.size w W) => h4.later co_stays hb)
  clear h1 h2 h3 h4
  cases e1 : eqL stEq ss ss2
  case false =>
    have hf : r = false := hr.symm.trans (by simp [e1])
    subst hf
    have HE := hid e1
    clear hr e1
    go_enter Try.func10, Try.ntmps10
    go_wp2_with (go_at_call 27; go_must (refine (sts_i ss ss2 sa sa2 sc sc2 false _ (H1.out _ (HB.out _ _)) (H2.out _ (HB.out _ _)) HE.out).mono ?_); rintro e v0 ⟨rfl, hb0⟩; have HXa0 := hid (old_block hb0.out (Array.getElem?_eq_some_iff.1 HX.out.1).1 HX.out.1); have HXb0 := hid (old_block hb0.out (Array.getElem?_eq_some_iff.1 HX.out.2).1 HX.out.2); have HW0 := hid (after (HB.out _ _) hb0.out (HB.out _ _).size); have ha0 := cells_at HXa0.out; have hz0 := cells_at HXb0.out)
    go_ret
    exact ⟨rfl, HW0⟩
  case true =>
    have hf : eqL coEq cs cs2 = r := by rw [← hr, e1]; rfl
    have HE := hid e1
    have HR := hid hf
    clear hr e1 hf
    go_enter Try.func10, Try.ntmps10
    go_wp2_with (first
      | (go_at_call 27; go_must (refine (sts_i ss ss2 sa sa2 sc sc2 true _ (H1.out _ (HB.out _ _)) (H2.out _ (HB.out _ _)) HE.out).mono ?_); rintro e v0 ⟨rfl, hb0⟩; have HXa0 := hid (old_block hb0.out (Array.getElem?_eq_some_iff.1 HX.out.1).1 HX.out.1); have HXb0 := hid (old_block hb0.out (Array.getElem?_eq_some_iff.1 HX.out.2).1 HX.out.2); have HW0 := hid (after (HB.out _ _) hb0.out (HB.out _ _).size); have ha0 := cells_at HXa0.out; have hz0 := cells_at HXb0.out)
      | (go_at_call 29; go_must (refine (cos_i cs cs2 ca ca2 cc cc2 r _ (H3.out _ HW0.out) (H4.out _ HW0.out) HR.out).mono ?_); rintro e v1 ⟨rfl, hb1⟩; have HW1 := hid (after HW0.out hb1.out HW0.out.size)))
    all_goals go_ret
    all_goals exact ⟨by first | rfl | simp, HW1⟩
end Go.Proofs.Ytfhdiahjfnphkaa
