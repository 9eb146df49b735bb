/- When two modules are alike by the reference. No conditions. -/
import Derived.Test.YtfhdiahjfnphkaaSmI
import Derived.Deep.RegionHeld3
namespace Go.Proofs.Ytfhdiahjfnphkaa
open Go.RowKit Go.Maps
set_option linter.unusedVariables false
set_option linter.unusedSimpArgs false
set_option maxRecDepth 100000 in
set_option maxHeartbeats 8000000 in
theorem rsame_i (ss ss2 : List StD) (cs cs2 : List CoD) (sa sa2 ca ca2 : Option Addr) (sc sc2 cc cc2 : Nat) (r : Bool) (w : World) (h1 : RowM 4 StAt w sa ss) (h2 : RowM 4 StAt w sa2 ss2) (h3 : RowM 8 CoAt w ca cs) (h4 : RowM 8 CoAt w ca2 cs2)
    (hr : (eqL stEq ss ss2 && eqL coEq cs cs2) = r) :
    Calls Try.prog 11 #[.agg #[.slice sa ss.length sc, .slice ca cs.length cc], .agg #[.slice sa2 ss2.length sc2, .slice ca2 cs2.length cc2]] w fun e w' => e = .returned (.bool r) ∧ Hid (Below w.heap.size w w') := by
  have hl1 := h1.1
  have hl3 := h3.1
  obtain ⟨n, hn⟩ : ∃ n : Nat, ss.length = n := ⟨_, rfl⟩
  obtain ⟨n2, hn2⟩ : ∃ n : Nat, ss2.length = n := ⟨_, rfl⟩
  obtain ⟨m, hm⟩ : ∃ n : Nat, cs.length = n := ⟨_, rfl⟩
  obtain ⟨m2, hm2⟩ : ∃ n : Nat, cs2.length = n := ⟨_, rfl⟩
  rw [hn, hn2, hm, hm2]
  rw [hn] at hl1
  rw [hm] at hl3
  have HX := hid (boxes' w #[.slice sa n sc, .slice ca m cc] 25 #[.slice sa2 n2 sc2, .slice ca2 m2 cc2] 25)
  have HB := hid (below2 w)
  have H1 := hid (fun W (hb : Below w.heap.size w W) => h1.later st_stays hb)
  have H2 := hid (fun W (hb : Below w.heap.size w W) => h2.later st_stays hb)
  have H3 := hid (fun W (hb : Below w.heap.size w W) => h3.later co_stays hb)
  have H4 := hid (fun W (hb : Below w.heap.size w W) => h4.later co_stays hb)
  have HN := hid hn
  have HN2 := hid hn2
  have HM := hid hm
  have HM2 := hid hm2
  have HR := hid hr
  clear h1 h2 h3 h4 hn hn2 hm hm2 hr
  by_cases hnn : n = n2
  case neg =>
    have e0 : ((n : Int) != (n2 : Int)) = true := by simp; omega
    have hf : r = false := HR.out.symm.trans (by rw [eqL_len (by rw [HN.out, HN2.out]; exact hnn)]; rfl)
    subst hf
    go_enter Try.func11, Try.ntmps11
    go_wp2
    go_ret
    exact ⟨rfl, hid (HB.out _ _)⟩
  case pos =>
  subst hnn
  have e0 : ((n : Int) != (n : Int)) = false := by simp
  by_cases hmm : m = m2
  case neg =>
    have e1 : ((m : Int) != (m2 : Int)) = true := by simp; omega
    have hf : r = false := HR.out.symm.trans (by rw [eqL_len (l := cs) (m := cs2) (by rw [HM.out, HM2.out]; exact hmm), Bool.and_false])
    subst hf
    go_enter Try.func11, Try.ntmps11
    go_wp2
    go_ret
    exact ⟨rfl, hid (HB.out _ _)⟩
  case pos =>
  subst hmm
  have e1 : ((m : Int) != (m : Int)) = false := by simp
  go_enter Try.func11, Try.ntmps11
  go_wp2
  obtain ⟨W1, hW1⟩ : ∃ W1, (w.alloc (.cells #[.slice sa n sc, .slice ca m cc] 25)).alloc (.cells #[.slice sa2 n sc2, .slice ca2 m cc2] 25) = W1 := ⟨_, rfl⟩
  have HBA := hid (HB.out (.cells #[.slice sa n sc, .slice ca m cc] 25) (.cells #[.slice sa2 n sc2, .slice ca2 m cc2] 25))
  rw [hW1] at HX HBA ⊢
  have HXa := hid HX.out.1
  have HXb := hid HX.out.2
  clear hW1 HX HB
  go_loopg [5] n (fun gk v5 wr => ∃ k : Nat, k ≤ n ∧ gk = n - k ∧ v5 = .int .i64 k ∧ Hid (Below w.heap.size w wr) ∧ Hid (wr.heap[w.heap.size]? = some (.cells #[.slice sa n sc, .slice ca m cc] 25 (0, 0))) ∧ Hid (wr.heap[w.heap.size + 1]? = some (.cells #[.slice sa2 n sc2, .slice ca2 m cc2] 25 (0, 0))) ∧ Hid (∀ i x y, i < k → ss[i]? = some x → ss2[i]? = some y → stEq x y = true))
  case atStart => exact ⟨0, by omega, by omega, rfl, HBA, HXa, HXb, hid (fun i x y hi => absurd hi (by omega))⟩
  case round =>
    clear HBA HXa HXb
    obtain ⟨k, hk, rfl, rfl, HBA, HXa, HXb, HA⟩ := hrel
    have ha := cells_at HXa.out
    have hz := cells_at HXb.out
    by_cases hlt : k < n
    · have hlt' : (k : Int) < (n : Int) := by omega
      obtain ⟨x, hx⟩ := get_some HN.out hlt
      obtain ⟨y, hy⟩ := get_some HN2.out hlt
      obtain ⟨b, o, rfl, hb1, fa, fc, hc1, hm1⟩ := (H1.out _ HBA.out).2 k x hx
      obtain ⟨b2, o2, rfl, hb2, fa2, fc2, hc2, hm2⟩ := (H2.out _ HBA.out).2 k y hy
      have d0 := hc1 0 _ rfl
      have d1 := hc1 1 _ rfl
      have d2 := hc1 2 _ rfl
      have d3 := hc1 3 _ rfl
      have f0 := hc2 0 _ rfl
      have f1 := hc2 1 _ rfl
      have f2 := hc2 2 _ rfl
      have f3 := hc2 3 _ rfl
      simp only [Nat.add_zero] at d0 f0
      have HXX := hid hx
      have HYY := hid hy
      have HM1 := hid hm1
      have HM2' := hid hm2
      have hk0 : (0 : Int) ≤ (k : Int) := by omega
      have hk1 : (k : Int) ≤ (n : Int) := by omega
      have g0 := ha 0
      have g1 := hz 0
      simp at g0 g1
      clear hx hy hm1 hm2 hc1 hc2
      go_wp2
      go_region_held3 (fun W => W.cell? ⟨w.heap.size, 0, none⟩ = some (.slice (some ⟨b, o, none⟩) n sc) ∧ W.cell? ⟨w.heap.size + 1, 0, none⟩ = some (.slice (some ⟨b2, o2, none⟩) n sc2) ∧
        W.cell? ⟨b, o + k * 4, none⟩ = some (.string x.nm) ∧ W.cell? ⟨b, o + k * 4 + 1, none⟩ = some (.slice fa x.fs.length fc) ∧ W.cell? ⟨b, o + k * 4 + 2, none⟩ = some (.int .i64 x.l) ∧ W.cell? ⟨b, o + k * 4 + 3, none⟩ = some (.int .i64 x.c) ∧
        W.cell? ⟨b2, o2 + k * 4, none⟩ = some (.string y.nm) ∧ W.cell? ⟨b2, o2 + k * 4 + 1, none⟩ = some (.slice fa2 y.fs.length fc2) ∧ W.cell? ⟨b2, o2 + k * 4 + 2, none⟩ = some (.int .i64 y.l) ∧ W.cell? ⟨b2, o2 + k * 4 + 3, none⟩ = some (.int .i64 y.c)) (go_keep) (fail)
      · have hbx := boxes' wr (StV x fa fc) 47 (StV y fa2 fc2) 47
        have hW : Below wr.heap.size wr (((wr.alloc (.cells (StV x fa fc) 47)).alloc (.cells (StV y fa2 fc2) 47)).drew) := (below2 wr (.cells (StV x fa fc) 47) (.cells (StV y fa2 fc2) 47)).drew
        have HP6 : Hid ((((wr.alloc (.cells (StV x fa fc) 47)).alloc (.cells (StV y fa2 fc2) 47)).drew).heap[wr.heap.size]? = some (.cells (StV x fa fc) 47 (0, 0))) := hid hbx.1
        have HP7 : Hid ((((wr.alloc (.cells (StV x fa fc) 47)).alloc (.cells (StV y fa2 fc2) 47)).drew).heap[wr.heap.size + 1]? = some (.cells (StV y fa2 fc2) 47 (0, 0))) := hid hbx.2
        have HBB := hid (after HBA.out hW HBA.out.size)
        have HXc := hid (old_block hW (Array.getElem?_eq_some_iff.1 HXa.out).1 HXa.out)
        have HXd := hid (old_block hW (Array.getElem?_eq_some_iff.1 HXb.out).1 HXb.out)
        have HF1 := hid (HM1.out.later fd_stays hW)
        have HF2 := hid (HM2'.out.later fd_stays hW)
        generalize hWn : ((wr.alloc (.cells (StV x fa fc) 47)).alloc (.cells (StV y fa2 fc2) 47)).drew = Wn at *
        generalize hB7 : wr.heap.size + 1 = B7 at *
        generalize hB6 : wr.heap.size = B6 at *
        clear hW hbx hWn hB6 hB7 HBA HXa HXb HM1 HM2' d0 d1 d2 d3 f0 f1 f2 f3 ha hz g0 g1
        have hp6 := cells_at HP6.out
        have hp7 := cells_at HP7.out
        cases e2 : (x.nm.toList == y.nm.toList)
        case false =>
          have n2 : (x.nm.toList != y.nm.toList) = true := by rw [bne, e2]; rfl
          have hf : r = false := HR.out.symm.trans (by rw [eqL_no HXX.out HYY.out (by simp [stEq, sEq, e2])]; rfl)
          subst hf
          go_wp2
          go_ret
          exact ⟨rfl, HBB⟩
        case true =>
        have n2 : (x.nm.toList != y.nm.toList) = false := by rw [bne, e2]; rfl
        by_cases hq : x.fs.length = y.fs.length
        case neg =>
          have e3 : ((x.fs.length : Int) != (y.fs.length : Int)) = true := by simp; omega
          have hf : r = false := HR.out.symm.trans (by rw [eqL_no HXX.out HYY.out (by simp [stEq, eqL_len hq])]; rfl)
          subst hf
          go_wp2
          go_ret
          exact ⟨rfl, HBB⟩
        case pos =>
        have e3 : ((x.fs.length : Int) != (y.fs.length : Int)) = false := by simp; omega
        obtain ⟨q, hq1⟩ : ∃ q, x.fs.length = q := ⟨_, rfl⟩
        have hq2 : y.fs.length = q := hq.symm.trans hq1
        have HQ1 := hid hq1
        have HQ2 := hid hq2
        have hq3 : q ≤ 9223372036854775807 := by rw [← hq1]; exact HF1.out.1
        simp only [StV, hq1, hq2] at HP6 HP7 hp6 hp7 e3
        clear hq hq1 hq2
        go_wp2
        go_loopg [8] q (fun gk v8 wr2 => ∃ j : Nat, j ≤ q ∧ gk = q - j ∧ v8 = .int .i64 j ∧ Hid (Below w.heap.size w wr2) ∧ Hid (wr2.heap[w.heap.size]? = some (.cells #[.slice (some ⟨b, o, none⟩) n sc, .slice ca m cc] 25 (0, 0))) ∧ Hid (wr2.heap[w.heap.size + 1]? = some (.cells #[.slice (some ⟨b2, o2, none⟩) n sc2, .slice ca2 m cc2] 25 (0, 0))) ∧
          Hid (wr2.heap[B6]? = some (.cells #[.string x.nm, .slice fa q fc, .int .i64 x.l, .int .i64 x.c] 47 (0, 0))) ∧ Hid (wr2.heap[B7]? = some (.cells #[.string y.nm, .slice fa2 q fc2, .int .i64 y.l, .int .i64 y.c] 47 (0, 0))) ∧ Hid (RowM 5 FdAt wr2 fa x.fs) ∧ Hid (RowM 5 FdAt wr2 fa2 y.fs) ∧ Hid (∀ i u v, i < j → x.fs[i]? = some u → y.fs[i]? = some v → fdEq u v = true))
        case atStart => exact ⟨0, by omega, by omega, rfl, HBB, HXc, HXd, HP6, HP7, HF1, HF2, hid (fun i x y hi => absurd hi (by omega))⟩
        case round =>
          clear HBB HXc HXd HP6 HP7 HF1 HF2 hp6 hp7 hb1 hb2
          obtain ⟨j, hj, rfl, rfl, HBB, HXc, HXd, HP6, HP7, HF1, HF2, HAA⟩ := hrel
          have ha := cells_at HXc.out
          have hz := cells_at HXd.out
          have hp6 := cells_at HP6.out
          have hp7 := cells_at HP7.out
          by_cases hlj : j < q
          · have hlj' : (j : Int) < (q : Int) := by omega
            obtain ⟨u, hu⟩ := get_some HQ1.out hlj
            obtain ⟨v, hv⟩ := get_some HQ2.out hlj
            obtain ⟨b3, o3, rfl, hb3, hc3⟩ := HF1.out.2 j u hu
            obtain ⟨b4, o4, rfl, hb4, hc4⟩ := HF2.out.2 j v hv
            have d0 := hc3 0 _ rfl
            have d1 := hc3 1 _ rfl
            have d2 := hc3 2 _ rfl
            have f0 := hc4 0 _ rfl
            have f1 := hc4 1 _ rfl
            have f2 := hc4 2 _ rfl
            simp only [Nat.add_zero] at d0 f0
            have HUU := hid hu
            have HVV := hid hv
            clear hu hv hc3 hc4
            cases q1 : (u.nm.toList == v.nm.toList)
            case false =>
              have n3 : (u.nm.toList != v.nm.toList) = true := by rw [bne, q1]; rfl
              have hf : r = false := HR.out.symm.trans (by rw [eqL_no HXX.out HYY.out (by simp [stEq, eqL_no HUU.out HVV.out (show fdEq u v = false by simp [fdEq, sEq, q1])])]; rfl)
              subst hf
              go_wp2
              go_quiet (fail)
              go_wp2
              go_ret
              exact ⟨rfl, hid (below_drewN HBB.out _)⟩
            case true =>
              have n3 : (u.nm.toList != v.nm.toList) = false := by rw [bne, q1]; rfl
              cases q2 : (u.t.p == v.t.p)
              case false =>
                have hf : r = false := HR.out.symm.trans (by rw [eqL_no HXX.out HYY.out (by simp [stEq, eqL_no HUU.out HVV.out (show fdEq u v = false by simp [fdEq, tyEq, q2])])]; rfl)
                subst hf
                go_wp2
                go_quiet (fail)
                go_wp2
                go_ret
                exact ⟨rfl, hid (below_drewN HBB.out _)⟩
              case true =>
                cases q3 : (u.t.name.toList == v.t.name.toList)
                case false =>
                  have hf : r = false := HR.out.symm.trans (by rw [eqL_no HXX.out HYY.out (by simp [stEq, eqL_no HUU.out HVV.out (show fdEq u v = false by simp [fdEq, tyEq, sEq, q3])])]; rfl)
                  subst hf
                  go_wp2
                  go_quiet (fail)
                  go_wp2
                  go_ret
                  exact ⟨rfl, hid (below_drewN HBB.out _)⟩
                case true =>
                  go_wp2
                  go_quiet (fail)
                  go_wp2
                  go_roundg (q - (j + 1))
                  case measure => omega
                  case rel => exact ⟨j + 1, by omega, rfl, rfl, hid (below_drewN HBB.out _), HXc, HXd, HP6, HP7, hid (HF1.out.later fd_stays (below_drewN (Below.refl _ _) _)), hid (HF2.out.later fd_stays (below_drewN (Below.refl _ _) _)), hid (fun i x' y' hi h1 h2 => by
                    by_cases hik : i < j
                    · exact HAA.out i x' y' hik h1 h2
                    · obtain rfl : i = j := by omega
                      rw [HUU.out] at h1
                      rw [HVV.out] at h2
                      cases h1
                      cases h2
                      simp [fdEq, tyEq, sEq, q1, q2, q3])⟩
          · have hlj' : ¬ (j : Int) < (q : Int) := by omega
            have HE : Hid (stEq x y = true) := hid (by simp [stEq, sEq, e2, eqL_yes (HQ1.out.trans HQ2.out.symm) (fun i x y hi h1 h2 => HAA.out i x y (by have := HQ1.out; omega) h1 h2)])
            go_wp2
            go_roundg (n - (k + 1))
            case measure => omega
            case rel => exact ⟨k + 1, by omega, rfl, rfl, HBB, HXc, HXd, hid (fun i x' y' hi h1 h2 => by
              by_cases hik : i < k
              · exact HA.out i x' y' hik h1 h2
              · obtain rfl : i = k := by omega
                rw [HXX.out] at h1
                rw [HYY.out] at h2
                cases h1
                cases h2
                exact HE.out)⟩
      · have hbx := boxes' wr (StV y fa2 fc2) 47 (StV x fa fc) 47
        have hW : Below wr.heap.size wr (((wr.alloc (.cells (StV y fa2 fc2) 47)).alloc (.cells (StV x fa fc) 47)).drew) := (below2 wr (.cells (StV y fa2 fc2) 47) (.cells (StV x fa fc) 47)).drew
        have HP6 : Hid ((((wr.alloc (.cells (StV y fa2 fc2) 47)).alloc (.cells (StV x fa fc) 47)).drew).heap[wr.heap.size + 1]? = some (.cells (StV x fa fc) 47 (0, 0))) := hid hbx.2
        have HP7 : Hid ((((wr.alloc (.cells (StV y fa2 fc2) 47)).alloc (.cells (StV x fa fc) 47)).drew).heap[wr.heap.size]? = some (.cells (StV y fa2 fc2) 47 (0, 0))) := hid hbx.1
        have HBB := hid (after HBA.out hW HBA.out.size)
        have HXc := hid (old_block hW (Array.getElem?_eq_some_iff.1 HXa.out).1 HXa.out)
        have HXd := hid (old_block hW (Array.getElem?_eq_some_iff.1 HXb.out).1 HXb.out)
        have HF1 := hid (HM1.out.later fd_stays hW)
        have HF2 := hid (HM2'.out.later fd_stays hW)
        generalize hWn : ((wr.alloc (.cells (StV y fa2 fc2) 47)).alloc (.cells (StV x fa fc) 47)).drew = Wn at *
        generalize hB6 : wr.heap.size + 1 = B6 at *
        generalize hB7 : wr.heap.size = B7 at *
        clear hW hbx hWn hB6 hB7 HBA HXa HXb HM1 HM2' d0 d1 d2 d3 f0 f1 f2 f3 ha hz g0 g1
        have hp6 := cells_at HP6.out
        have hp7 := cells_at HP7.out
        cases e2 : (x.nm.toList == y.nm.toList)
        case false =>
          have n2 : (x.nm.toList != y.nm.toList) = true := by rw [bne, e2]; rfl
          have hf : r = false := HR.out.symm.trans (by rw [eqL_no HXX.out HYY.out (by simp [stEq, sEq, e2])]; rfl)
          subst hf
          go_wp2
          go_ret
          exact ⟨rfl, HBB⟩
        case true =>
        have n2 : (x.nm.toList != y.nm.toList) = false := by rw [bne, e2]; rfl
        by_cases hq : x.fs.length = y.fs.length
        case neg =>
          have e3 : ((x.fs.length : Int) != (y.fs.length : Int)) = true := by simp; omega
          have hf : r = false := HR.out.symm.trans (by rw [eqL_no HXX.out HYY.out (by simp [stEq, eqL_len hq])]; rfl)
          subst hf
          go_wp2
          go_ret
          exact ⟨rfl, HBB⟩
        case pos =>
        have e3 : ((x.fs.length : Int) != (y.fs.length : Int)) = false := by simp; omega
        obtain ⟨q, hq1⟩ : ∃ q, x.fs.length = q := ⟨_, rfl⟩
        have hq2 : y.fs.length = q := hq.symm.trans hq1
        have HQ1 := hid hq1
        have HQ2 := hid hq2
        have hq3 : q ≤ 9223372036854775807 := by rw [← hq1]; exact HF1.out.1
        simp only [StV, hq1, hq2] at HP6 HP7 hp6 hp7 e3
        clear hq hq1 hq2
        go_wp2
        go_loopg [8] q (fun gk v8 wr2 => ∃ j : Nat, j ≤ q ∧ gk = q - j ∧ v8 = .int .i64 j ∧ Hid (Below w.heap.size w wr2) ∧ Hid (wr2.heap[w.heap.size]? = some (.cells #[.slice (some ⟨b, o, none⟩) n sc, .slice ca m cc] 25 (0, 0))) ∧ Hid (wr2.heap[w.heap.size + 1]? = some (.cells #[.slice (some ⟨b2, o2, none⟩) n sc2, .slice ca2 m cc2] 25 (0, 0))) ∧
          Hid (wr2.heap[B6]? = some (.cells #[.string x.nm, .slice fa q fc, .int .i64 x.l, .int .i64 x.c] 47 (0, 0))) ∧ Hid (wr2.heap[B7]? = some (.cells #[.string y.nm, .slice fa2 q fc2, .int .i64 y.l, .int .i64 y.c] 47 (0, 0))) ∧ Hid (RowM 5 FdAt wr2 fa x.fs) ∧ Hid (RowM 5 FdAt wr2 fa2 y.fs) ∧ Hid (∀ i u v, i < j → x.fs[i]? = some u → y.fs[i]? = some v → fdEq u v = true))
        case atStart => exact ⟨0, by omega, by omega, rfl, HBB, HXc, HXd, HP6, HP7, HF1, HF2, hid (fun i x y hi => absurd hi (by omega))⟩
        case round =>
          clear HBB HXc HXd HP6 HP7 HF1 HF2 hp6 hp7 hb1 hb2
          obtain ⟨j, hj, rfl, rfl, HBB, HXc, HXd, HP6, HP7, HF1, HF2, HAA⟩ := hrel
          have ha := cells_at HXc.out
          have hz := cells_at HXd.out
          have hp6 := cells_at HP6.out
          have hp7 := cells_at HP7.out
          by_cases hlj : j < q
          · have hlj' : (j : Int) < (q : Int) := by omega
            obtain ⟨u, hu⟩ := get_some HQ1.out hlj
            obtain ⟨v, hv⟩ := get_some HQ2.out hlj
            obtain ⟨b3, o3, rfl, hb3, hc3⟩ := HF1.out.2 j u hu
            obtain ⟨b4, o4, rfl, hb4, hc4⟩ := HF2.out.2 j v hv
            have d0 := hc3 0 _ rfl
            have d1 := hc3 1 _ rfl
            have d2 := hc3 2 _ rfl
            have f0 := hc4 0 _ rfl
            have f1 := hc4 1 _ rfl
            have f2 := hc4 2 _ rfl
            simp only [Nat.add_zero] at d0 f0
            have HUU := hid hu
            have HVV := hid hv
            clear hu hv hc3 hc4
            cases q1 : (u.nm.toList == v.nm.toList)
            case false =>
              have n3 : (u.nm.toList != v.nm.toList) = true := by rw [bne, q1]; rfl
              have hf : r = false := HR.out.symm.trans (by rw [eqL_no HXX.out HYY.out (by simp [stEq, eqL_no HUU.out HVV.out (show fdEq u v = false by simp [fdEq, sEq, q1])])]; rfl)
              subst hf
              go_wp2
              go_quiet (fail)
              go_wp2
              go_ret
              exact ⟨rfl, hid (below_drewN HBB.out _)⟩
            case true =>
              have n3 : (u.nm.toList != v.nm.toList) = false := by rw [bne, q1]; rfl
              cases q2 : (u.t.p == v.t.p)
              case false =>
                have hf : r = false := HR.out.symm.trans (by rw [eqL_no HXX.out HYY.out (by simp [stEq, eqL_no HUU.out HVV.out (show fdEq u v = false by simp [fdEq, tyEq, q2])])]; rfl)
                subst hf
                go_wp2
                go_quiet (fail)
                go_wp2
                go_ret
                exact ⟨rfl, hid (below_drewN HBB.out _)⟩
              case true =>
                cases q3 : (u.t.name.toList == v.t.name.toList)
                case false =>
                  have hf : r = false := HR.out.symm.trans (by rw [eqL_no HXX.out HYY.out (by simp [stEq, eqL_no HUU.out HVV.out (show fdEq u v = false by simp [fdEq, tyEq, sEq, q3])])]; rfl)
                  subst hf
                  go_wp2
                  go_quiet (fail)
                  go_wp2
                  go_ret
                  exact ⟨rfl, hid (below_drewN HBB.out _)⟩
                case true =>
                  go_wp2
                  go_quiet (fail)
                  go_wp2
                  go_roundg (q - (j + 1))
                  case measure => omega
                  case rel => exact ⟨j + 1, by omega, rfl, rfl, hid (below_drewN HBB.out _), HXc, HXd, HP6, HP7, hid (HF1.out.later fd_stays (below_drewN (Below.refl _ _) _)), hid (HF2.out.later fd_stays (below_drewN (Below.refl _ _) _)), hid (fun i x' y' hi h1 h2 => by
                    by_cases hik : i < j
                    · exact HAA.out i x' y' hik h1 h2
                    · obtain rfl : i = j := by omega
                      rw [HUU.out] at h1
                      rw [HVV.out] at h2
                      cases h1
                      cases h2
                      simp [fdEq, tyEq, sEq, q1, q2, q3])⟩
          · have hlj' : ¬ (j : Int) < (q : Int) := by omega
            have HE : Hid (stEq x y = true) := hid (by simp [stEq, sEq, e2, eqL_yes (HQ1.out.trans HQ2.out.symm) (fun i x y hi h1 h2 => HAA.out i x y (by have := HQ1.out; omega) h1 h2)])
            go_wp2
            go_roundg (n - (k + 1))
            case measure => omega
            case rel => exact ⟨k + 1, by omega, rfl, rfl, HBB, HXc, HXd, hid (fun i x' y' hi h1 h2 => by
              by_cases hik : i < k
              · exact HA.out i x' y' hik h1 h2
              · obtain rfl : i = k := by omega
                rw [HXX.out] at h1
                rw [HYY.out] at h2
                cases h1
                cases h2
                exact HE.out)⟩
    · have hlt' : ¬ (k : Int) < (n : Int) := by omega
      have HR2 : Hid (eqL coEq cs cs2 = r) := hid (by
        rw [← HR.out, eqL_yes (HN.out.trans HN2.out.symm) (fun i x y hi h1 h2 => HA.out i x y (by have := HN.out; omega) h1 h2)]
        rfl)
      clear HR HA
      go_wp2
      go_loopg [9] m (fun gk v9 wr2 => ∃ k : Nat, k ≤ m ∧ gk = m - k ∧ v9 = .int .i64 k ∧ Hid (Below w.heap.size w wr2) ∧ Hid (wr2.heap[w.heap.size]? = some (.cells #[.slice sa n sc, .slice ca m cc] 25 (0, 0))) ∧ Hid (wr2.heap[w.heap.size + 1]? = some (.cells #[.slice sa2 n sc2, .slice ca2 m cc2] 25 (0, 0))) ∧ Hid (∀ i x y, i < k → cs[i]? = some x → cs2[i]? = some y → coEq x y = true))
      case atStart => exact ⟨0, by omega, by omega, rfl, HBA, HXa, HXb, hid (fun i x y hi => absurd hi (by omega))⟩
      case round =>
        clear ha hz HXa HXb HBA hlt
        obtain ⟨k, hk, rfl, rfl, HBA, HXa, HXb, HA⟩ := hrel
        have ha := cells_at HXa.out
        have hz := cells_at HXb.out
        by_cases hlt : k < m
        · have hlt' : (k : Int) < (m : Int) := by omega
          obtain ⟨x, hx⟩ := get_some HM.out hlt
          obtain ⟨y, hy⟩ := get_some HM2.out hlt
          have HBD := hid HBA.out.drew
          obtain ⟨b, o, rfl, hb1, va, vc, fa, fc, ia, ic, hc1, hm1⟩ := (H3.out _ HBD.out).2 k x hx
          obtain ⟨b2, o2, rfl, hb2, va2, vc2, fa2, fc2, ia2, ic2, hc2, hm2⟩ := (H4.out _ HBD.out).2 k y hy
          have HD0 := HBD
          have ha0 : ∀ i, wr.drew.cell? ⟨w.heap.size, i, none⟩ = (#[.slice sa n sc, .slice (some ⟨b, o, none⟩) m cc] : Array Value)[i]? := ha
          have hz0 : ∀ i, wr.drew.cell? ⟨w.heap.size + 1, i, none⟩ = (#[.slice sa2 n sc2, .slice (some ⟨b2, o2, none⟩) m cc2] : Array Value)[i]? := hz
          have HXX := hid hx
          have HYY := hid hy
          have hk0 : (0 : Int) ≤ (k : Int) := by omega
          have hk1 : (k : Int) ≤ (m : Int) := by omega
          clear hx hy HBA HBD
          cases e : coEq x y
          case false =>
            have HE := hid e
            clear e
            have hf : r = false := HR2.out.symm.trans (eqL_no HXX.out HYY.out HE.out)
            subst hf
            go_wp2
            go_region_held3 (fun W => Hid (Below w.heap.size w W) ∧ (∀ i, W.cell? ⟨w.heap.size, i, none⟩ = (#[.slice sa n sc, .slice (some ⟨b, o, none⟩) m cc] : Array Value)[i]?) ∧ (∀ i, W.cell? ⟨w.heap.size + 1, i, none⟩ = (#[.slice sa2 n sc2, .slice (some ⟨b2, o2, none⟩) m cc2] : Array Value)[i]?) ∧ W.cell? ⟨b, o + k * 8, none⟩ = some (.string x.nm) ∧ W.cell? ⟨b, o + k * 8 + 1, none⟩ = some (.int .i64 x.pr) ∧ W.cell? ⟨b, o + k * 8 + 2, none⟩ = some (.slice va x.vs.length vc) ∧ W.cell? ⟨b, o + k * 8 + 3, none⟩ = some (.bool x.rt.t.p) ∧ W.cell? ⟨b, o + k * 8 + 4, none⟩ = some (.string x.rt.t.name) ∧ W.cell? ⟨b, o + k * 8 + 5, none⟩ = some (.int .i64 x.rt.cls) ∧ W.cell? ⟨b, o + k * 8 + 6, none⟩ = some (.slice fa x.fr.length fc) ∧ W.cell? ⟨b, o + k * 8 + 7, none⟩ = some (.slice ia x.ins.length ic) ∧ W.cell? ⟨b2, o2 + k * 8, none⟩ = some (.string y.nm) ∧ W.cell? ⟨b2, o2 + k * 8 + 1, none⟩ = some (.int .i64 y.pr) ∧ W.cell? ⟨b2, o2 + k * 8 + 2, none⟩ = some (.slice va2 y.vs.length vc2) ∧ W.cell? ⟨b2, o2 + k * 8 + 3, none⟩ = some (.bool y.rt.t.p) ∧ W.cell? ⟨b2, o2 + k * 8 + 4, none⟩ = some (.string y.rt.t.name) ∧ W.cell? ⟨b2, o2 + k * 8 + 5, none⟩ = some (.int .i64 y.rt.cls) ∧ W.cell? ⟨b2, o2 + k * 8 + 6, none⟩ = some (.slice fa2 y.fr.length fc2) ∧ W.cell? ⟨b2, o2 + k * 8 + 7, none⟩ = some (.slice ia2 y.ins.length ic2))
              (first | exact ⟨HD0, ha0, hz0, hc1 0 _ rfl, hc1 1 _ rfl, hc1 2 _ rfl, hc1 3 _ rfl, hc1 4 _ rfl, hc1 5 _ rfl, hc1 6 _ rfl, hc1 7 _ rfl, hc2 0 _ rfl, hc2 1 _ rfl, hc2 2 _ rfl, hc2 3 _ rfl, hc2 4 _ rfl, hc2 5 _ rfl, hc2 6 _ rfl, hc2 7 _ rfl⟩ | exact ⟨HD1, ha1, hz1, hd1 0 _ rfl, hd1 1 _ rfl, hd1 2 _ rfl, hd1 3 _ rfl, hd1 4 _ rfl, hd1 5 _ rfl, hd1 6 _ rfl, hd1 7 _ rfl, hd2 0 _ rfl, hd2 1 _ rfl, hd2 2 _ rfl, hd2 3 _ rfl, hd2 4 _ rfl, hd2 5 _ rfl, hd2 6 _ rfl, hd2 7 _ rfl⟩)
              (first
              | (go_at_call 9; go_must (refine (rco_i x y va va2 fa fa2 ia ia2 vc vc2 fc fc2 ic ic2 false _ hm1 hm2 HE.out).mono ?_); rintro e v1 ⟨rfl, hv1⟩; have HD1 := hid (after HD0.out hv1.out HD0.out.size); have HXa1 := hid (old_block hv1.out (Array.getElem?_eq_some_iff.1 HXa.out).1 HXa.out); have HXb1 := hid (old_block hv1.out (Array.getElem?_eq_some_iff.1 HXb.out).1 HXb.out); have ha1 := cells_at HXa1.out; have hz1 := cells_at HXb1.out; have hd1 := cells_stay hv1.out hb1 hc1; have hd2 := cells_stay hv1.out hb2 hc2))
            go_wp2
            go_ret
            exact ⟨rfl, HD1⟩
          case true =>
            have HE := hid e
            clear e
            go_wp2
            go_region_held3 (fun W => Hid (Below w.heap.size w W) ∧ (∀ i, W.cell? ⟨w.heap.size, i, none⟩ = (#[.slice sa n sc, .slice (some ⟨b, o, none⟩) m cc] : Array Value)[i]?) ∧ (∀ i, W.cell? ⟨w.heap.size + 1, i, none⟩ = (#[.slice sa2 n sc2, .slice (some ⟨b2, o2, none⟩) m cc2] : Array Value)[i]?) ∧ W.cell? ⟨b, o + k * 8, none⟩ = some (.string x.nm) ∧ W.cell? ⟨b, o + k * 8 + 1, none⟩ = some (.int .i64 x.pr) ∧ W.cell? ⟨b, o + k * 8 + 2, none⟩ = some (.slice va x.vs.length vc) ∧ W.cell? ⟨b, o + k * 8 + 3, none⟩ = some (.bool x.rt.t.p) ∧ W.cell? ⟨b, o + k * 8 + 4, none⟩ = some (.string x.rt.t.name) ∧ W.cell? ⟨b, o + k * 8 + 5, none⟩ = some (.int .i64 x.rt.cls) ∧ W.cell? ⟨b, o + k * 8 + 6, none⟩ = some (.slice fa x.fr.length fc) ∧ W.cell? ⟨b, o + k * 8 + 7, none⟩ = some (.slice ia x.ins.length ic) ∧ W.cell? ⟨b2, o2 + k * 8, none⟩ = some (.string y.nm) ∧ W.cell? ⟨b2, o2 + k * 8 + 1, none⟩ = some (.int .i64 y.pr) ∧ W.cell? ⟨b2, o2 + k * 8 + 2, none⟩ = some (.slice va2 y.vs.length vc2) ∧ W.cell? ⟨b2, o2 + k * 8 + 3, none⟩ = some (.bool y.rt.t.p) ∧ W.cell? ⟨b2, o2 + k * 8 + 4, none⟩ = some (.string y.rt.t.name) ∧ W.cell? ⟨b2, o2 + k * 8 + 5, none⟩ = some (.int .i64 y.rt.cls) ∧ W.cell? ⟨b2, o2 + k * 8 + 6, none⟩ = some (.slice fa2 y.fr.length fc2) ∧ W.cell? ⟨b2, o2 + k * 8 + 7, none⟩ = some (.slice ia2 y.ins.length ic2))
              (first | exact ⟨HD0, ha0, hz0, hc1 0 _ rfl, hc1 1 _ rfl, hc1 2 _ rfl, hc1 3 _ rfl, hc1 4 _ rfl, hc1 5 _ rfl, hc1 6 _ rfl, hc1 7 _ rfl, hc2 0 _ rfl, hc2 1 _ rfl, hc2 2 _ rfl, hc2 3 _ rfl, hc2 4 _ rfl, hc2 5 _ rfl, hc2 6 _ rfl, hc2 7 _ rfl⟩ | exact ⟨HD1, ha1, hz1, hd1 0 _ rfl, hd1 1 _ rfl, hd1 2 _ rfl, hd1 3 _ rfl, hd1 4 _ rfl, hd1 5 _ rfl, hd1 6 _ rfl, hd1 7 _ rfl, hd2 0 _ rfl, hd2 1 _ rfl, hd2 2 _ rfl, hd2 3 _ rfl, hd2 4 _ rfl, hd2 5 _ rfl, hd2 6 _ rfl, hd2 7 _ rfl⟩)
              (first
              | (go_at_call 9; go_must (refine (rco_i x y va va2 fa fa2 ia ia2 vc vc2 fc fc2 ic ic2 true _ hm1 hm2 HE.out).mono ?_); rintro e v1 ⟨rfl, hv1⟩; have HD1 := hid (after HD0.out hv1.out HD0.out.size); have HXa1 := hid (old_block hv1.out (Array.getElem?_eq_some_iff.1 HXa.out).1 HXa.out); have HXb1 := hid (old_block hv1.out (Array.getElem?_eq_some_iff.1 HXb.out).1 HXb.out); have ha1 := cells_at HXa1.out; have hz1 := cells_at HXb1.out; have hd1 := cells_stay hv1.out hb1 hc1; have hd2 := cells_stay hv1.out hb2 hc2))
            go_wp2
            go_roundg (m - (k + 1))
            case measure => omega
            case rel => exact ⟨k + 1, by omega, rfl, rfl, HD1, HXa1, HXb1, hid (fun i x' y' hi h1 h2 => by
              by_cases hik : i < k
              · exact HA.out i x' y' hik h1 h2
              · obtain rfl : i = k := by omega
                rw [HXX.out] at h1
                rw [HYY.out] at h2
                cases h1
                cases h2
                exact HE.out)⟩
        · have hlt' : ¬ (k : Int) < (m : Int) := by omega
          have hf : r = true := HR2.out.symm.trans (eqL_yes (HM.out.trans HM2.out.symm) (fun i x y hi h1 h2 => HA.out i x y (by have := HM.out; omega) h1 h2))
          subst hf
          go_wp2
          go_ret
          exact ⟨rfl, HBA⟩
end Go.Proofs.Ytfhdiahjfnphkaa
