/- When two functions are alike by the reference. No conditions. -/
import Derived.Test.YtfhdiahjfnphkaaSmF
import Derived.Test.YtfhdiahjfnphkaaSmA
import Derived.Deep.RegionHeld3
namespace Go.Proofs.Ytfhdiahjfnphkaa
open Go.RowKit Go.Maps
set_option linter.unusedVariables false
set_option linter.unusedSimpArgs false
set_option maxRecDepth 100000 in
set_option maxHeartbeats 8000000 in
theorem rco_i (x y : CoD) (va va2 fa fa2 ia ia2 : Option Addr) (vc vc2 fc fc2 ic ic2 : Nat) (r : Bool) (w : World) (h1 : CoM w x va fa ia) (h2 : CoM w y va2 fa2 ia2) (hr : coEq x y = r) :
    Calls Try.prog 9 #[.agg (CoV x va vc fa fc ia ic), .agg (CoV y va2 vc2 fa2 fc2 ia2 ic2)] w fun e w' => e = .returned (.bool r) ∧ Hid (Below w.heap.size w w') := by
  have HX := hid (boxes' w (CoV x va vc fa fc ia ic) 37 (CoV y va2 vc2 fa2 fc2 ia2 ic2) 37)
  obtain ⟨nm, pr, vs, ⟨⟨p, tn⟩, cl⟩, fr, is⟩ := x
  obtain ⟨nm2, pr2, vs2, ⟨⟨p2, tn2⟩, cl2⟩, fr2, is2⟩ := y
  have HB := hid (below2 w)
  have H1 := hid (fun W (hb : Below w.heap.size w W) => h1.later hb)
  have H2 := hid (fun W (hb : Below w.heap.size w W) => h2.later hb)
  have hlv := h1.vs.1
  have hli := h1.ins.1
  simp only at hlv hli
  clear h1 h2
  cases e_nm : (nm.toList == nm2.toList)
  case false =>
    have hf : r = false := hr.symm.trans (by simp [coEq, vaEq, tyEq, sEq, e_nm])
    subst hf
    clear hr
    have n_nm : (nm.toList != nm2.toList) = true := by rw [bne, e_nm]; rfl
    go_enter Try.func9, Try.ntmps9
    go_wp2
    go_ret
    exact ⟨rfl, hid (HB.out _ _)⟩
  case true =>
    cases e_pr : (pr == pr2)
    case false =>
      have hf : r = false := hr.symm.trans (by simp [coEq, vaEq, tyEq, sEq, e_nm, e_pr])
      subst hf
      clear hr
      have n_nm : (nm.toList != nm2.toList) = false := by rw [bne, e_nm]; rfl
      have n_pr : (pr != pr2) = true := by rw [bne, e_pr]; rfl
      go_enter Try.func9, Try.ntmps9
      go_wp2
      go_ret
      exact ⟨rfl, hid (HB.out _ _)⟩
    case true =>
      cases e_p : (p == p2)
      case false =>
        have hf : r = false := hr.symm.trans (by simp [coEq, vaEq, tyEq, sEq, e_nm, e_pr, e_p])
        subst hf
        clear hr
        have n_nm : (nm.toList != nm2.toList) = false := by rw [bne, e_nm]; rfl
        have n_pr : (pr != pr2) = false := by rw [bne, e_pr]; rfl
        go_enter Try.func9, Try.ntmps9
        go_wp2
        go_ret
        exact ⟨rfl, hid (HB.out _ _)⟩
      case true =>
        cases e_tn : (tn.toList == tn2.toList)
        case false =>
          have hf : r = false := hr.symm.trans (by simp [coEq, vaEq, tyEq, sEq, e_nm, e_pr, e_p, e_tn])
          subst hf
          clear hr
          have n_nm : (nm.toList != nm2.toList) = false := by rw [bne, e_nm]; rfl
          have n_pr : (pr != pr2) = false := by rw [bne, e_pr]; rfl
          go_enter Try.func9, Try.ntmps9
          go_wp2
          go_ret
          exact ⟨rfl, hid (HB.out _ _)⟩
        case true =>
          cases e_cl : (cl == cl2)
          case false =>
            have hf : r = false := hr.symm.trans (by simp [coEq, vaEq, tyEq, sEq, e_nm, e_pr, e_p, e_tn, e_cl])
            subst hf
            clear hr
            have n_nm : (nm.toList != nm2.toList) = false := by rw [bne, e_nm]; rfl
            have n_pr : (pr != pr2) = false := by rw [bne, e_pr]; rfl
            go_enter Try.func9, Try.ntmps9
            go_wp2
            go_ret
            exact ⟨rfl, hid (HB.out _ _)⟩
          case true =>
            cases e_fr : eqL (· == ·) fr fr2
            case false =>
              have hf : r = false := hr.symm.trans (by simp [coEq, vaEq, tyEq, sEq, e_nm, e_pr, e_p, e_tn, e_cl, e_fr])
              subst hf
              clear hr
              have Hfr := hid e_fr
              clear e_fr
              have n_nm : (nm.toList != nm2.toList) = false := by rw [bne, e_nm]; rfl
              have n_pr : (pr != pr2) = false := by rw [bne, e_pr]; rfl
              go_enter Try.func9, Try.ntmps9
              go_wp2_with (go_at_call 25; go_must (refine (numbers_i fr fr2 fa fa2 fc fc2 false _ (H1.out _ (HB.out _ _)).fr (H2.out _ (HB.out _ _)).fr Hfr.out).mono ?_); rintro e v0 ⟨rfl, hb0⟩; have HXa0 := hid (old_block hb0.out (Array.getElem?_eq_some_iff.1 HX.out.1).1 HX.out.1); have HXb0 := hid (old_block hb0.out (Array.getElem?_eq_some_iff.1 HX.out.2).1 HX.out.2); have HW0 := hid (after (HB.out _ _) hb0.out (HB.out _ _).size); have ha0 := cells_at HXa0.out; have hz0 := cells_at HXb0.out)
              go_ret
              exact ⟨rfl, HW0⟩
            case true =>
              have n_nm : (nm.toList != nm2.toList) = false := by rw [bne, e_nm]; rfl
              have n_pr : (pr != pr2) = false := by rw [bne, e_pr]; rfl
              have HR : Hid ((eqL vaEq vs vs2 && eqL inEq is is2) = r) := hid (by rw [← hr]; simp [coEq, vaEq, tyEq, sEq, e_nm, e_pr, e_p, e_tn, e_cl, e_fr])
              clear hr
              have Hfr := hid e_fr
              clear e_fr
              obtain ⟨n, hn⟩ : ∃ n : Nat, vs.length = n := ⟨_, rfl⟩
              obtain ⟨n2, hn2⟩ : ∃ n : Nat, vs2.length = n := ⟨_, rfl⟩
              obtain ⟨m, hm⟩ : ∃ m : Nat, is.length = m := ⟨_, rfl⟩
              obtain ⟨m2, hm2⟩ : ∃ m : Nat, is2.length = m := ⟨_, rfl⟩
              simp only [CoV] at HX ⊢
              rw [hn, hn2, hm, hm2] at HX ⊢
              rw [hn] at hlv
              rw [hm] at hli
              have HN := hid hn
              have HN2 := hid hn2
              have HM := hid hm
              have HM2 := hid hm2
              clear hn hn2 hm hm2
              by_cases hnn : n = n2
              case neg =>
                have e0 : ((n : Int) != (n2 : Int)) = true := by simp; omega
                have hf : r = false := HR.out.symm.trans (by rw [eqL_len (by rw [HN.out, HN2.out]; exact hnn)]; rfl)
                subst hf
                go_enter Try.func9, Try.ntmps9
                go_wp2_with (go_at_call 25; go_must (refine (numbers_i fr fr2 fa fa2 fc fc2 true _ (H1.out _ (HB.out _ _)).fr (H2.out _ (HB.out _ _)).fr Hfr.out).mono ?_); rintro e v0 ⟨rfl, hb0⟩; have HXa0 := hid (old_block hb0.out (Array.getElem?_eq_some_iff.1 HX.out.1).1 HX.out.1); have HXb0 := hid (old_block hb0.out (Array.getElem?_eq_some_iff.1 HX.out.2).1 HX.out.2); have HW0 := hid (after (HB.out _ _) hb0.out (HB.out _ _).size); have ha0 := cells_at HXa0.out; have hz0 := cells_at HXb0.out)
                go_ret
                exact ⟨rfl, HW0⟩
              case pos =>
              subst hnn
              have e0 : ((n : Int) != (n : Int)) = false := by simp
              by_cases hmm : m = m2
              case neg =>
                have e1 : ((m : Int) != (m2 : Int)) = true := by simp; omega
                have hf : r = false := HR.out.symm.trans (by rw [eqL_len (l := is) (m := is2) (by rw [HM.out, HM2.out]; exact hmm), Bool.and_false])
                subst hf
                go_enter Try.func9, Try.ntmps9
                go_wp2_with (go_at_call 25; go_must (refine (numbers_i fr fr2 fa fa2 fc fc2 true _ (H1.out _ (HB.out _ _)).fr (H2.out _ (HB.out _ _)).fr Hfr.out).mono ?_); rintro e v0 ⟨rfl, hb0⟩; have HXa0 := hid (old_block hb0.out (Array.getElem?_eq_some_iff.1 HX.out.1).1 HX.out.1); have HXb0 := hid (old_block hb0.out (Array.getElem?_eq_some_iff.1 HX.out.2).1 HX.out.2); have HW0 := hid (after (HB.out _ _) hb0.out (HB.out _ _).size); have ha0 := cells_at HXa0.out; have hz0 := cells_at HXb0.out)
                go_ret
                exact ⟨rfl, HW0⟩
              case pos =>
              subst hmm
              have e1 : ((m : Int) != (m : Int)) = false := by simp
              go_enter Try.func9, Try.ntmps9
              go_wp2_with (go_at_call 25; go_must (refine (numbers_i fr fr2 fa fa2 fc fc2 true _ (H1.out _ (HB.out _ _)).fr (H2.out _ (HB.out _ _)).fr Hfr.out).mono ?_); rintro e v0 ⟨rfl, hb0⟩; have HXa0 := hid (old_block hb0.out (Array.getElem?_eq_some_iff.1 HX.out.1).1 HX.out.1); have HXb0 := hid (old_block hb0.out (Array.getElem?_eq_some_iff.1 HX.out.2).1 HX.out.2); have HW0 := hid (after (HB.out _ _) hb0.out (HB.out _ _).size); have ha0 := cells_at HXa0.out; have hz0 := cells_at HXb0.out)
              clear ha0 hz0 HX
              go_loopg [5] n (fun gk v5 wr => ∃ k : Nat, k ≤ n ∧ gk = n - k ∧ v5 = .int .i64 k ∧ Hid (Below w.heap.size w wr) ∧ Hid (wr.heap[w.heap.size]? = some (.cells #[.string nm, .int .i64 pr, .slice va n vc, .bool p, .string tn, .int .i64 cl, .slice fa fr.length fc, .slice ia m ic] 37 (0, 0))) ∧ Hid (wr.heap[w.heap.size + 1]? = some (.cells #[.string nm2, .int .i64 pr2, .slice va2 n vc2, .bool p2, .string tn2, .int .i64 cl2, .slice fa2 fr2.length fc2, .slice ia2 m ic2] 37 (0, 0))) ∧ Hid (∀ i x y, i < k → vs[i]? = some x → vs2[i]? = some y → vaEq x y = true))
              case atStart => exact ⟨0, by omega, rfl, rfl, HW0, HXa0, HXb0, hid (fun i x y hi => absurd hi (by omega))⟩
              case round =>
                obtain ⟨k, hk, rfl, rfl, HBA, HXa, HXb, HA⟩ := hrel
                clear HW0 HXa0 HXb0
                have ha := cells_at HXa.out
                have hz := cells_at HXb.out
                by_cases hlt : k < n
                · have hlt' : (k : Int) < (n : Int) := by omega
                  obtain ⟨x, hx⟩ := get_some HN.out hlt
                  obtain ⟨y, hy⟩ := get_some HN2.out hlt
                  obtain ⟨b, o, rfl, hb1, hc1⟩ := (H1.out _ HBA.out).vs.2 k x hx
                  obtain ⟨b2, o2, rfl, hb2, hc2⟩ := (H2.out _ HBA.out).vs.2 k y hy
                  have d0 := hc1 0 _ rfl
                  have d1 := hc1 1 _ rfl
                  have d2 := hc1 2 _ rfl
                  have f0 := hc2 0 _ rfl
                  have f1 := hc2 1 _ rfl
                  have f2 := hc2 2 _ rfl
                  simp only [Nat.add_zero] at d0 f0
                  have HXX := hid hx
                  have HYY := hid hy
                  clear hx hy hc1 hc2
                  obtain ⟨⟨pp, nmm⟩, cll⟩ := x
                  obtain ⟨⟨pp2, nmm2⟩, cll2⟩ := y
                  cases q1 : (pp == pp2)
                  case false =>
                    have hf : r = false := HR.out.symm.trans (by rw [eqL_no HXX.out HYY.out (by simp [vaEq, tyEq, sEq, q1])]; rfl)
                    subst hf
                    go_wp2
                    go_quiet (fail)
                    go_wp2
                    go_ret
                    exact ⟨rfl, hid (below_drewN HBA.out _)⟩
                  case true =>
                    cases q2 : (nmm.toList == nmm2.toList)
                    case false =>
                      have hf : r = false := HR.out.symm.trans (by rw [eqL_no HXX.out HYY.out (by simp [vaEq, tyEq, sEq, q1, q2])]; rfl)
                      subst hf
                      go_wp2
                      go_quiet (fail)
                      go_wp2
                      go_ret
                      exact ⟨rfl, hid (below_drewN HBA.out _)⟩
                    case true =>
                      cases q3 : (cll == cll2)
                      case false =>
                        have hf : r = false := HR.out.symm.trans (by rw [eqL_no HXX.out HYY.out (by simp [vaEq, tyEq, sEq, q1, q2, q3])]; rfl)
                        subst hf
                        go_wp2
                        go_quiet (fail)
                        go_wp2
                        go_ret
                        exact ⟨rfl, hid (below_drewN HBA.out _)⟩
                      case true =>
                        go_wp2
                        go_quiet (fail)
                        go_wp2
                        go_roundg (n - (k + 1))
                        case measure => omega
                        case rel => exact ⟨k + 1, by omega, rfl, rfl, hid (below_drewN HBA.out _), HXa, HXb, hid (fun i x' y' hi h1 h2 => by
                          by_cases hik : i < k
                          · exact HA.out i x' y' hik h1 h2
                          · obtain rfl : i = k := by omega
                            rw [HXX.out] at h1
                            rw [HYY.out] at h2
                            cases h1
                            cases h2
                            simp [vaEq, tyEq, sEq, q1, q2, q3])⟩
                · have hlt' : ¬ (k : Int) < (n : Int) := by omega
                  have HR2 : Hid (eqL inEq is is2 = r) := hid (by
                    rw [← HR.out, eqL_yes (HN.out.trans HN2.out.symm) (fun i x y hi h1 h2 => HA.out i x y (by have := HN.out; omega) h1 h2)]
                    rfl)
                  clear HR HA hlt'
                  go_wp2
                  go_loopg [6] m (fun gk v6 wr2 => ∃ k : Nat, k ≤ m ∧ gk = m - k ∧ v6 = .int .i64 k ∧ Hid (Below w.heap.size w wr2) ∧ Hid (wr2.heap[w.heap.size]? = some (.cells #[.string nm, .int .i64 pr, .slice va n vc, .bool p, .string tn, .int .i64 cl, .slice fa fr.length fc, .slice ia m ic] 37 (0, 0))) ∧ Hid (wr2.heap[w.heap.size + 1]? = some (.cells #[.string nm2, .int .i64 pr2, .slice va2 n vc2, .bool p2, .string tn2, .int .i64 cl2, .slice fa2 fr2.length fc2, .slice ia2 m ic2] 37 (0, 0))) ∧ Hid (∀ i x y, i < k → is[i]? = some x → is2[i]? = some y → inEq x y = true))
                  case atStart => exact ⟨0, by omega, rfl, rfl, HBA, HXa, HXb, hid (fun i x y hi => absurd hi (by omega))⟩
                  case round =>
                    clear ha hz HXa HXb HBA hlt
                    obtain ⟨k, hk, rfl, rfl, HBA, HXa, HXb, HA⟩ := hrel
                    have ha := cells_at HXa.out
                    have hz := cells_at HXb.out
                    by_cases hlt : k < m
                    · have hlt' : (k : Int) < (m : Int) := by omega
                      obtain ⟨x, hx⟩ := get_some HM.out hlt
                      obtain ⟨y, hy⟩ := get_some HM2.out hlt
                      have HBD := hid HBA.out.drew
                      obtain ⟨b, o, rfl, hb1, ao, ac, mo, mc, hc1, hm1⟩ := (H1.out _ HBD.out).ins.2 k x hx
                      obtain ⟨b2, o2, rfl, hb2, ao2, ac2, mo2, mc2, hc2, hm2⟩ := (H2.out _ HBD.out).ins.2 k y hy
                      have HD0 := HBD
                      have ha0 : ∀ i, wr.drew.cell? ⟨w.heap.size, i, none⟩ = (#[.string nm, .int .i64 pr, .slice va n vc, .bool p, .string tn, .int .i64 cl, .slice fa fr.length fc, .slice (some ⟨b, o, none⟩) m ic] : Array Value)[i]? := ha
                      have hz0 : ∀ i, wr.drew.cell? ⟨w.heap.size + 1, i, none⟩ = (#[.string nm2, .int .i64 pr2, .slice va2 n vc2, .bool p2, .string tn2, .int .i64 cl2, .slice fa2 fr2.length fc2, .slice (some ⟨b2, o2, none⟩) m ic2] : Array Value)[i]? := hz
                      have HXX := hid hx
                      have HYY := hid hy
                      have hk0 : (0 : Int) ≤ (k : Int) := by omega
                      have hk1 : (k : Int) ≤ (m : Int) := by omega
                      clear hx hy HBA HBD
                      cases e : inEq x y
                      case false =>
                        have HE := hid e
                        clear e
                        have hf : r = false := HR2.out.symm.trans (eqL_no HXX.out HYY.out HE.out)
                        subst hf
                        go_wp2
                        go_region_held3 (fun W => Hid (Below w.heap.size w W) ∧ (∀ i, W.cell? ⟨w.heap.size, i, none⟩ = (#[.string nm, .int .i64 pr, .slice va n vc, .bool p, .string tn, .int .i64 cl, .slice fa fr.length fc, .slice (some ⟨b, o, none⟩) m ic] : Array Value)[i]?) ∧ (∀ i, W.cell? ⟨w.heap.size + 1, i, none⟩ = (#[.string nm2, .int .i64 pr2, .slice va2 n vc2, .bool p2, .string tn2, .int .i64 cl2, .slice fa2 fr2.length fc2, .slice (some ⟨b2, o2, none⟩) m ic2] : Array Value)[i]?) ∧ W.cell? ⟨b, o + k * 13, none⟩ = some (.int .i64 x.op) ∧ W.cell? ⟨b, o + k * 13 + 1, none⟩ = some (.int .i64 x.d) ∧ W.cell? ⟨b, o + k * 13 + 2, none⟩ = some (.int .i64 x.a) ∧ W.cell? ⟨b, o + k * 13 + 3, none⟩ = some (.int .i64 x.b) ∧ W.cell? ⟨b, o + k * 13 + 4, none⟩ = some (.int .i64 x.f) ∧ W.cell? ⟨b, o + k * 13 + 5, none⟩ = some (.int .i64 x.n) ∧ W.cell? ⟨b, o + k * 13 + 6, none⟩ = some (.string x.sg) ∧ W.cell? ⟨b, o + k * 13 + 7, none⟩ = some (.slice ao x.xs.length ac) ∧ W.cell? ⟨b, o + k * 13 + 8, none⟩ = some (.slice mo x.ms.length mc) ∧ W.cell? ⟨b, o + k * 13 + 9, none⟩ = some (.int .i64 x.tt) ∧ W.cell? ⟨b, o + k * 13 + 10, none⟩ = some (.int .i64 x.el) ∧ W.cell? ⟨b, o + k * 13 + 11, none⟩ = some (.int .i64 x.l) ∧ W.cell? ⟨b, o + k * 13 + 12, none⟩ = some (.int .i64 x.c) ∧ W.cell? ⟨b2, o2 + k * 13, none⟩ = some (.int .i64 y.op) ∧ W.cell? ⟨b2, o2 + k * 13 + 1, none⟩ = some (.int .i64 y.d) ∧ W.cell? ⟨b2, o2 + k * 13 + 2, none⟩ = some (.int .i64 y.a) ∧ W.cell? ⟨b2, o2 + k * 13 + 3, none⟩ = some (.int .i64 y.b) ∧ W.cell? ⟨b2, o2 + k * 13 + 4, none⟩ = some (.int .i64 y.f) ∧ W.cell? ⟨b2, o2 + k * 13 + 5, none⟩ = some (.int .i64 y.n) ∧ W.cell? ⟨b2, o2 + k * 13 + 6, none⟩ = some (.string y.sg) ∧ W.cell? ⟨b2, o2 + k * 13 + 7, none⟩ = some (.slice ao2 y.xs.length ac2) ∧ W.cell? ⟨b2, o2 + k * 13 + 8, none⟩ = some (.slice mo2 y.ms.length mc2) ∧ W.cell? ⟨b2, o2 + k * 13 + 9, none⟩ = some (.int .i64 y.tt) ∧ W.cell? ⟨b2, o2 + k * 13 + 10, none⟩ = some (.int .i64 y.el) ∧ W.cell? ⟨b2, o2 + k * 13 + 11, none⟩ = some (.int .i64 y.l) ∧ W.cell? ⟨b2, o2 + k * 13 + 12, none⟩ = some (.int .i64 y.c))
                          (first | exact ⟨HD0, ha0, hz0, hc1 0 _ rfl, hc1 1 _ rfl, hc1 2 _ rfl, hc1 3 _ rfl, hc1 4 _ rfl, hc1 5 _ rfl, hc1 6 _ rfl, hc1 7 _ rfl, hc1 8 _ rfl, hc1 9 _ rfl, hc1 10 _ rfl, hc1 11 _ rfl, hc1 12 _ rfl, hc2 0 _ rfl, hc2 1 _ rfl, hc2 2 _ rfl, hc2 3 _ rfl, hc2 4 _ rfl, hc2 5 _ rfl, hc2 6 _ rfl, hc2 7 _ rfl, hc2 8 _ rfl, hc2 9 _ rfl, hc2 10 _ rfl, hc2 11 _ rfl, hc2 12 _ rfl⟩ | exact ⟨HD1, ha1, hz1, hd1 0 _ rfl, hd1 1 _ rfl, hd1 2 _ rfl, hd1 3 _ rfl, hd1 4 _ rfl, hd1 5 _ rfl, hd1 6 _ rfl, hd1 7 _ rfl, hd1 8 _ rfl, hd1 9 _ rfl, hd1 10 _ rfl, hd1 11 _ rfl, hd1 12 _ rfl, hd2 0 _ rfl, hd2 1 _ rfl, hd2 2 _ rfl, hd2 3 _ rfl, hd2 4 _ rfl, hd2 5 _ rfl, hd2 6 _ rfl, hd2 7 _ rfl, hd2 8 _ rfl, hd2 9 _ rfl, hd2 10 _ rfl, hd2 11 _ rfl, hd2 12 _ rfl⟩)
                          (first
                          | (go_at_call 26; go_must (refine (rin_i x y ao ao2 mo mo2 ac ac2 mc mc2 false _ hm1 hm2 HE.out).mono ?_); rintro e v1 ⟨rfl, hv1⟩; have HD1 := hid (after HD0.out hv1.out HD0.out.size); have ha1 := cells_at (old_block hv1.out (Array.getElem?_eq_some_iff.1 HXa.out).1 HXa.out); have hz1 := cells_at (old_block hv1.out (Array.getElem?_eq_some_iff.1 HXb.out).1 HXb.out); have hd1 := cells_stay hv1.out hb1 hc1; have hd2 := cells_stay hv1.out hb2 hc2; have HXa1 := hid (old_block hv1.out (Array.getElem?_eq_some_iff.1 HXa.out).1 HXa.out); have HXb1 := hid (old_block hv1.out (Array.getElem?_eq_some_iff.1 HXb.out).1 HXb.out)))
                        go_wp2
                        go_ret
                        exact ⟨rfl, HD1⟩
                      case true =>
                        have HE := hid e
                        clear e
                        go_wp2
                        go_region_held3 (fun W => Hid (Below w.heap.size w W) ∧ (∀ i, W.cell? ⟨w.heap.size, i, none⟩ = (#[.string nm, .int .i64 pr, .slice va n vc, .bool p, .string tn, .int .i64 cl, .slice fa fr.length fc, .slice (some ⟨b, o, none⟩) m ic] : Array Value)[i]?) ∧ (∀ i, W.cell? ⟨w.heap.size + 1, i, none⟩ = (#[.string nm2, .int .i64 pr2, .slice va2 n vc2, .bool p2, .string tn2, .int .i64 cl2, .slice fa2 fr2.length fc2, .slice (some ⟨b2, o2, none⟩) m ic2] : Array Value)[i]?) ∧ W.cell? ⟨b, o + k * 13, none⟩ = some (.int .i64 x.op) ∧ W.cell? ⟨b, o + k * 13 + 1, none⟩ = some (.int .i64 x.d) ∧ W.cell? ⟨b, o + k * 13 + 2, none⟩ = some (.int .i64 x.a) ∧ W.cell? ⟨b, o + k * 13 + 3, none⟩ = some (.int .i64 x.b) ∧ W.cell? ⟨b, o + k * 13 + 4, none⟩ = some (.int .i64 x.f) ∧ W.cell? ⟨b, o + k * 13 + 5, none⟩ = some (.int .i64 x.n) ∧ W.cell? ⟨b, o + k * 13 + 6, none⟩ = some (.string x.sg) ∧ W.cell? ⟨b, o + k * 13 + 7, none⟩ = some (.slice ao x.xs.length ac) ∧ W.cell? ⟨b, o + k * 13 + 8, none⟩ = some (.slice mo x.ms.length mc) ∧ W.cell? ⟨b, o + k * 13 + 9, none⟩ = some (.int .i64 x.tt) ∧ W.cell? ⟨b, o + k * 13 + 10, none⟩ = some (.int .i64 x.el) ∧ W.cell? ⟨b, o + k * 13 + 11, none⟩ = some (.int .i64 x.l) ∧ W.cell? ⟨b, o + k * 13 + 12, none⟩ = some (.int .i64 x.c) ∧ W.cell? ⟨b2, o2 + k * 13, none⟩ = some (.int .i64 y.op) ∧ W.cell? ⟨b2, o2 + k * 13 + 1, none⟩ = some (.int .i64 y.d) ∧ W.cell? ⟨b2, o2 + k * 13 + 2, none⟩ = some (.int .i64 y.a) ∧ W.cell? ⟨b2, o2 + k * 13 + 3, none⟩ = some (.int .i64 y.b) ∧ W.cell? ⟨b2, o2 + k * 13 + 4, none⟩ = some (.int .i64 y.f) ∧ W.cell? ⟨b2, o2 + k * 13 + 5, none⟩ = some (.int .i64 y.n) ∧ W.cell? ⟨b2, o2 + k * 13 + 6, none⟩ = some (.string y.sg) ∧ W.cell? ⟨b2, o2 + k * 13 + 7, none⟩ = some (.slice ao2 y.xs.length ac2) ∧ W.cell? ⟨b2, o2 + k * 13 + 8, none⟩ = some (.slice mo2 y.ms.length mc2) ∧ W.cell? ⟨b2, o2 + k * 13 + 9, none⟩ = some (.int .i64 y.tt) ∧ W.cell? ⟨b2, o2 + k * 13 + 10, none⟩ = some (.int .i64 y.el) ∧ W.cell? ⟨b2, o2 + k * 13 + 11, none⟩ = some (.int .i64 y.l) ∧ W.cell? ⟨b2, o2 + k * 13 + 12, none⟩ = some (.int .i64 y.c))
                          (first | exact ⟨HD0, ha0, hz0, hc1 0 _ rfl, hc1 1 _ rfl, hc1 2 _ rfl, hc1 3 _ rfl, hc1 4 _ rfl, hc1 5 _ rfl, hc1 6 _ rfl, hc1 7 _ rfl, hc1 8 _ rfl, hc1 9 _ rfl, hc1 10 _ rfl, hc1 11 _ rfl, hc1 12 _ rfl, hc2 0 _ rfl, hc2 1 _ rfl, hc2 2 _ rfl, hc2 3 _ rfl, hc2 4 _ rfl, hc2 5 _ rfl, hc2 6 _ rfl, hc2 7 _ rfl, hc2 8 _ rfl, hc2 9 _ rfl, hc2 10 _ rfl, hc2 11 _ rfl, hc2 12 _ rfl⟩ | exact ⟨HD1, ha1, hz1, hd1 0 _ rfl, hd1 1 _ rfl, hd1 2 _ rfl, hd1 3 _ rfl, hd1 4 _ rfl, hd1 5 _ rfl, hd1 6 _ rfl, hd1 7 _ rfl, hd1 8 _ rfl, hd1 9 _ rfl, hd1 10 _ rfl, hd1 11 _ rfl, hd1 12 _ rfl, hd2 0 _ rfl, hd2 1 _ rfl, hd2 2 _ rfl, hd2 3 _ rfl, hd2 4 _ rfl, hd2 5 _ rfl, hd2 6 _ rfl, hd2 7 _ rfl, hd2 8 _ rfl, hd2 9 _ rfl, hd2 10 _ rfl, hd2 11 _ rfl, hd2 12 _ rfl⟩)
                          (first
                          | (go_at_call 26; go_must (refine (rin_i x y ao ao2 mo mo2 ac ac2 mc mc2 true _ hm1 hm2 HE.out).mono ?_); rintro e v1 ⟨rfl, hv1⟩; have HD1 := hid (after HD0.out hv1.out HD0.out.size); have ha1 := cells_at (old_block hv1.out (Array.getElem?_eq_some_iff.1 HXa.out).1 HXa.out); have hz1 := cells_at (old_block hv1.out (Array.getElem?_eq_some_iff.1 HXb.out).1 HXb.out); have hd1 := cells_stay hv1.out hb1 hc1; have hd2 := cells_stay hv1.out hb2 hc2; have HXa1 := hid (old_block hv1.out (Array.getElem?_eq_some_iff.1 HXa.out).1 HXa.out); have HXb1 := hid (old_block hv1.out (Array.getElem?_eq_some_iff.1 HXb.out).1 HXb.out)))
                        go_wp2
                        go_roundg (m - (k + 1))
                        case measure => omega
                        case rel => exact ⟨k + 1, by omega, rfl, rfl, HD1, HXa1, HXb1, hid (fun i x' y' hi h1 h2 => by
                          by_cases hik : i < k
                          · exact HA.out i x' y' hik h1 h2
                          · obtain rfl : i = k := by omega
                            rw [HXX.out] at h1
                            rw [HYY.out] at h2
                            cases h1
                            cases h2
                            exact HE.out)⟩
                    · have hlt' : ¬ (k : Int) < (m : Int) := by omega
                      have hf : r = true := HR2.out.symm.trans (eqL_yes (HM.out.trans HM2.out.symm) (fun i x y hi h1 h2 => HA.out i x y (by have := HM.out; omega) h1 h2))
                      subst hf
                      go_wp2
                      go_ret
                      exact ⟨rfl, HBA⟩
end Go.Proofs.Ytfhdiahjfnphkaa
