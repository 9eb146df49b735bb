/- IrSames, as a call: it returns true, and leaves what was as it was. No conditions. -/
import Derived.Test.YtfhdiahjfnphkaaSmJ
import Derived.Test.YtfhdiahjfnphkaaSmH
import Derived.Test.YtfhdiahjfnphkaaSmK
import Derived.Test.YtfhdiahjfnphkaaSmL
import Derived.Test.YtfhdiahjfnphkaaIrJ
import Derived.Deep.RegionHeld3
namespace Go.Proofs.Ytfhdiahjfnphkaa
open Go.RowKit Go.Maps
set_option linter.unusedVariables false
set_option linter.unusedSimpArgs false
theorem light_n {ss : List StD} {cs : List CoD} {sn cn : Nat} (h1 : ss.length = sn) (h2 : cs.length = cn) (sa ca : Option Addr) (sc cc : Nat) (w : World) (k1 : RowM 4 StAt w sa ss) (k2 : RowM 8 CoAt w ca cs) :
    Calls Try.prog 6 #[.agg #[.slice sa sn sc, .slice ca cn cc]] w fun e w' => SomeB e ∧ Hid (Below w.heap.size w w') := by
  subst h1 h2; exact light_m ss cs sa ca sc cc w k1 k2
theorem same_n {ss ss2 : List StD} {cs cs2 : List CoD} {sn cn sn2 cn2 : Nat} (q1 : ss.length = sn) (q2 : cs.length = cn) (q3 : ss2.length = sn2) (q4 : cs2.length = cn2) (sa sa2 ca ca2 : Option Addr) (sc sc2 cc cc2 : Nat) (r : Bool) (w : World) (h1 : RowM 4 StAt w sa ss) (h2 : RowM 4 StAt w sa2 ss2) (h3 : RowM 8 CoAt w ca cs) (h4 : RowM 8 CoAt w ca2 cs2)
    (hr : (eqL stEq ss ss2 && eqL coEq cs cs2) = r) :
    Calls Try.prog 10 #[.agg #[.slice sa sn sc, .slice ca cn cc], .agg #[.slice sa2 sn2 sc2, .slice ca2 cn2 cc2]] w fun e w' => e = .returned (.bool r) ∧ Hid (Below w.heap.size w w') := by
  subst q1 q2 q3 q4; exact same_i ss ss2 cs cs2 sa sa2 ca ca2 sc sc2 cc cc2 r w h1 h2 h3 h4 hr
theorem rsame_n {ss ss2 : List StD} {cs cs2 : List CoD} {sn cn sn2 cn2 : Nat} (q1 : ss.length = sn) (q2 : cs.length = cn) (q3 : ss2.length = sn2) (q4 : cs2.length = cn2) (sa sa2 ca ca2 : Option Addr) (sc sc2 cc cc2 : Nat) (r : Bool) (w : World) (h1 : RowM 4 StAt w sa ss) (h2 : RowM 4 StAt w sa2 ss2) (h3 : RowM 8 CoAt w ca cs) (h4 : RowM 8 CoAt w ca2 cs2)
    (hr : (eqL stEq ss ss2 && eqL coEq cs cs2) = r) :
    Calls Try.prog 11 #[.agg #[.slice sa sn sc, .slice ca cn cc], .agg #[.slice sa2 sn2 sc2, .slice ca2 cn2 cc2]] w fun e w' => e = .returned (.bool r) ∧ Hid (Below w.heap.size w w') := by
  subst q1 q2 q3 q4; exact rsame_i ss ss2 cs cs2 sa sa2 ca ca2 sc sc2 cc cc2 r w h1 h2 h3 h4 hr
theorem fco_n {xs : List CoD} {n : Nat} (q1 : xs.length = n) (ma : Option Addr) (mn mc : Nat) (A : Option Addr) (c : Nat) (s : ByteArray) (w : World) (h1 : RowM 8 CoAt w A xs) :
    Calls Try.prog 12 #[.agg #[.slice ma mn mc, .slice A n c], .string s] w fun e w' => e = .returned (.int .i64 (idxL (coN s) xs 0)) ∧ Hid (Below w.heap.size w w') := by
  subst q1; exact func_co _ xs A c s w h1 ⟨_, _, _, rfl⟩
theorem rfco_n {xs : List CoD} {n : Nat} (q1 : xs.length = n) (ma : Option Addr) (mn mc : Nat) (A : Option Addr) (c : Nat) (s : ByteArray) (w : World) (h1 : RowM 8 CoAt w A xs) :
    Calls Try.prog 13 #[.agg #[.slice ma mn mc, .slice A n c], .string s] w fun e w' => e = .returned (.int .i64 (idxL (coN s) xs 0)) ∧ Hid (Below w.heap.size w w') := by
  subst q1; exact rfunc_co _ xs A c s w h1 ⟨_, _, _, rfl⟩
theorem fst_n {xs : List StD} {n : Nat} (q1 : xs.length = n) (ma : Option Addr) (mn mc : Nat) (A : Option Addr) (c : Nat) (s : ByteArray) (w : World) (h1 : RowM 4 StAt w A xs) :
    Calls Try.prog 14 #[.agg #[.slice A n c, .slice ma mn mc], .string s] w fun e w' => e = .returned (.int .i64 (idxL (stN s) xs 0)) ∧ Hid (Below w.heap.size w w') := by
  subst q1; exact func_st _ xs A c s w h1 ⟨_, _, _, rfl⟩
theorem rfst_n {xs : List StD} {n : Nat} (q1 : xs.length = n) (ma : Option Addr) (mn mc : Nat) (A : Option Addr) (c : Nat) (s : ByteArray) (w : World) (h1 : RowM 4 StAt w A xs) :
    Calls Try.prog 15 #[.agg #[.slice A n c, .slice ma mn mc], .string s] w fun e w' => e = .returned (.int .i64 (idxL (stN s) xs 0)) ∧ Hid (Below w.heap.size w w') := by
  subst q1; exact rfunc_st _ xs A c s w h1 ⟨_, _, _, rfl⟩
set_option maxRecDepth 100000 in
set_option maxHeartbeats 16000000 in
theorem sames_law (ss ss2 : List StD) (cs cs2 : List CoD) (sa sa2 ca ca2 : Option Addr) (sc sc2 cc cc2 : Nat) (name : ByteArray) (w : World) (h1 : RowM 4 StAt w sa ss) (h2 : RowM 4 StAt w sa2 ss2) (h3 : RowM 8 CoAt w ca cs) (h4 : RowM 8 CoAt w ca2 cs2) :
    Calls Try.prog 3 #[.agg #[.slice sa ss.length sc, .slice ca cs.length cc], .agg #[.slice sa2 ss2.length sc2, .slice ca2 cs2.length cc2], .string name] w fun e w' => e = .returned (.bool true) ∧ Hid (Below w.heap.size w w') := by
  have hl3 := h3.1
  obtain ⟨sn, hsn⟩ : ∃ n : Nat, ss.length = n := ⟨_, rfl⟩
  obtain ⟨cn, hcn⟩ : ∃ n : Nat, cs.length = n := ⟨_, rfl⟩
  obtain ⟨sn2, hsn2⟩ : ∃ n : Nat, ss2.length = n := ⟨_, rfl⟩
  obtain ⟨cn2, hcn2⟩ : ∃ n : Nat, cs2.length = n := ⟨_, rfl⟩
  rw [hsn, hcn, hsn2, hcn2]
  rw [hcn] at hl3
  have HSN := hid hsn
  have HCN := hid hcn
  have HSN2 := hid hsn2
  have HCN2 := hid hcn2
  have HX := boxes' w #[.slice sa sn sc, .slice ca cn cc] 25 #[.slice sa2 sn2 sc2, .slice ca2 cn2 cc2] 25
  have HXa := hid HX.1
  have HXb := hid HX.2
  have HDc := hid (below2 w (.cells #[.slice sa sn sc, .slice ca cn cc] 25) (.cells #[.slice sa2 sn2 sc2, .slice ca2 cn2 cc2] 25))
  have H1 := hid (fun W (hb : Below w.heap.size w W) => h1.later st_stays hb)
  have H2 := hid (fun W (hb : Below w.heap.size w W) => h2.later st_stays hb)
  have H3 := hid (fun W (hb : Below w.heap.size w W) => h3.later co_stays hb)
  have H4 := hid (fun W (hb : Below w.heap.size w W) => h4.later co_stays hb)
  have F1 : True := trivial
  clear h1 h2 h3 h4 hsn hcn hsn2 hcn2 HX
  go_enter Try.func3, Try.ntmps3
  go_wp2_with (first
    | (go_at_call 6; have hh := F1; clear F1; have tok := HDc; clear HDc; go_must (refine (light_n HSN.out HCN.out sa ca sc cc _ (H1.out _ tok.out) (H3.out _ tok.out)).mono ?_); rintro e v ⟨⟨l, rfl⟩, hv⟩; have HDc := hid (after tok.out hv.out tok.out.size); have HXa := hid (old_block hv.out (Array.getElem?_eq_some_iff.1 HXa.out).1 HXa.out); have HXb := hid (old_block hv.out (Array.getElem?_eq_some_iff.1 HXb.out).1 HXb.out); clear tok hv; have ha := cells_at HXa.out; have hz := cells_at HXb.out; cases l)
    | (go_at_call 6; have tok := HDc; clear HDc; go_must (refine (light_n HSN2.out HCN2.out sa2 ca2 sc2 cc2 _ (H2.out _ tok.out) (H4.out _ tok.out)).mono ?_); rintro e v ⟨⟨l, rfl⟩, hv⟩; have HDc := hid (after tok.out hv.out tok.out.size); have HXa := hid (old_block hv.out (Array.getElem?_eq_some_iff.1 HXa.out).1 HXa.out); have HXb := hid (old_block hv.out (Array.getElem?_eq_some_iff.1 HXb.out).1 HXb.out); clear tok hv; have ha := cells_at HXa.out; have hz := cells_at HXb.out; cases l)
    | (go_at_call 7; refine (alive_i _).mono ?_; rintro e w9 ⟨rfl, HB9⟩))
  iterate 3
    · go_ret
      exact ⟨rfl, hid (after HDc.out HB9.out HDc.out.size)⟩
  go_loopg [7] cn (fun gk v7 wr => ∃ i : Nat, i ≤ cn ∧ gk = cn - i ∧ v7 = .int .i64 i ∧ Hid (Below w.heap.size w wr) ∧ Hid (wr.heap[w.heap.size]? = some (.cells #[.slice sa sn sc, .slice ca cn cc] 25 (0, 0))) ∧ Hid (wr.heap[w.heap.size + 1]? = some (.cells #[.slice sa2 sn2 sc2, .slice ca2 cn2 cc2] 25 (0, 0))))
  case atStart => exact ⟨0, by omega, by omega, rfl, HDc, HXa, HXb⟩
  case round =>
    clear HDc HXa HXb ha hz
    obtain ⟨i, hi, rfl, rfl, HBA, HYa, HYb⟩ := hrel
    have ha := cells_at HYa.out
    have hz := cells_at HYb.out
    by_cases hlt : i < cn
    case pos =>
      have hlt' : (i : Int) < (cn : Int) := by omega
      by_cases hlt2 : i < cn2
      case pos =>
        have hlt2' : (i : Int) < (cn2 : Int) := by omega
        obtain ⟨x, hx⟩ := get_some HCN.out hlt
        obtain ⟨y, hy⟩ := get_some HCN2.out hlt2
        have HD0 := hid HBA.out.drew
        obtain ⟨b, o, rfl, hb1, va, vc, fa, fc, ia, ic, hc1, hm1⟩ := (H3.out _ HD0.out).2 i x hx
        obtain ⟨b2, o2, rfl, hb2, va2, vc2, fa2, fc2, ia2, ic2, hc2, hm2⟩ := (H4.out _ HD0.out).2 i y hy
        have HXa0 : Hid (wr.drew.heap[w.heap.size]? = some (.cells #[.slice sa sn sc, .slice (some ⟨b, o, none⟩) cn cc] 25 (0, 0))) := hid HYa.out
        have HXb0 : Hid (wr.drew.heap[w.heap.size + 1]? = some (.cells #[.slice sa2 sn2 sc2, .slice (some ⟨b2, o2, none⟩) cn2 cc2] 25 (0, 0))) := hid HYb.out
        have HDc := hid (Below.refl wr.drew.heap.size wr.drew)
        have HM1 := hid hm1
        have HM2' := hid hm2
        have hk0 : (0 : Int) ≤ (i : Int) := by omega
        have hk1 : (i : Int) ≤ (cn : Int) := by omega
        have hk2 : (i : Int) ≤ (cn2 : Int) := by omega
        clear hx hy hm1 hm2 HBA HYa HYb
        cases e : coEq x y
        case false =>
          have HE := hid e
          clear e
          go_wp2
          go_region_held3 (fun W => Hid (Below w.heap.size w W) ∧ (∀ i, W.cell? ⟨w.heap.size, i, none⟩ = (#[.slice sa sn sc, .slice (some ⟨b, o, none⟩) cn cc] : Array Value)[i]?) ∧ (∀ i, W.cell? ⟨w.heap.size + 1, i, none⟩ = (#[.slice sa2 sn2 sc2, .slice (some ⟨b2, o2, none⟩) cn2 cc2] : Array Value)[i]?) ∧ W.cell? ⟨b, o + i * 8, none⟩ = some (.string x.nm) ∧ W.cell? ⟨b, o + i * 8 + 1, none⟩ = some (.int .i64 x.pr) ∧ W.cell? ⟨b, o + i * 8 + 2, none⟩ = some (.slice va x.vs.length vc) ∧ W.cell? ⟨b, o + i * 8 + 3, none⟩ = some (.bool x.rt.t.p) ∧ W.cell? ⟨b, o + i * 8 + 4, none⟩ = some (.string x.rt.t.name) ∧ W.cell? ⟨b, o + i * 8 + 5, none⟩ = some (.int .i64 x.rt.cls) ∧ W.cell? ⟨b, o + i * 8 + 6, none⟩ = some (.slice fa x.fr.length fc) ∧ W.cell? ⟨b, o + i * 8 + 7, none⟩ = some (.slice ia x.ins.length ic) ∧ W.cell? ⟨b2, o2 + i * 8, none⟩ = some (.string y.nm) ∧ W.cell? ⟨b2, o2 + i * 8 + 1, none⟩ = some (.int .i64 y.pr) ∧ W.cell? ⟨b2, o2 + i * 8 + 2, none⟩ = some (.slice va2 y.vs.length vc2) ∧ W.cell? ⟨b2, o2 + i * 8 + 3, none⟩ = some (.bool y.rt.t.p) ∧ W.cell? ⟨b2, o2 + i * 8 + 4, none⟩ = some (.string y.rt.t.name) ∧ W.cell? ⟨b2, o2 + i * 8 + 5, none⟩ = some (.int .i64 y.rt.cls) ∧ W.cell? ⟨b2, o2 + i * 8 + 6, none⟩ = some (.slice fa2 y.fr.length fc2) ∧ W.cell? ⟨b2, o2 + i * 8 + 7, none⟩ = some (.slice ia2 y.ins.length ic2))
            (first | exact ⟨hid (after HD0.out HDc.out HD0.out.size), cells_at (old_block HDc.out (Array.getElem?_eq_some_iff.1 HXa0.out).1 HXa0.out), cells_at (old_block HDc.out (Array.getElem?_eq_some_iff.1 HXb0.out).1 HXb0.out), cells_stay HDc.out hb1 hc1 0 _ rfl, cells_stay HDc.out hb1 hc1 1 _ rfl, cells_stay HDc.out hb1 hc1 2 _ rfl, cells_stay HDc.out hb1 hc1 3 _ rfl, cells_stay HDc.out hb1 hc1 4 _ rfl, cells_stay HDc.out hb1 hc1 5 _ rfl, cells_stay HDc.out hb1 hc1 6 _ rfl, cells_stay HDc.out hb1 hc1 7 _ rfl, cells_stay HDc.out hb2 hc2 0 _ rfl, cells_stay HDc.out hb2 hc2 1 _ rfl, cells_stay HDc.out hb2 hc2 2 _ rfl, cells_stay HDc.out hb2 hc2 3 _ rfl, cells_stay HDc.out hb2 hc2 4 _ rfl, cells_stay HDc.out hb2 hc2 5 _ rfl, cells_stay HDc.out hb2 hc2 6 _ rfl, cells_stay HDc.out hb2 hc2 7 _ rfl⟩)
            (first
            | (go_at_call 8; have tok := HDc; clear HDc; go_must (refine (co_i x y va va2 fa fa2 ia ia2 vc vc2 fc fc2 ic ic2 false _ (HM1.out.later tok.out) (HM2'.out.later tok.out) HE.out).mono ?_); rintro e v1 ⟨rfl, hv1⟩; have HDc := hid (after tok.out hv1.out tok.out.size); clear tok hv1)
            | (go_at_call 9; have tok := HDc; clear HDc; go_must (refine (rco_i x y va va2 fa fa2 ia ia2 vc vc2 fc fc2 ic ic2 false _ (HM1.out.later tok.out) (HM2'.out.later tok.out) HE.out).mono ?_); rintro e v2 ⟨rfl, hv2⟩; have HDc := hid (after tok.out hv2.out tok.out.size); clear tok hv2))
          all_goals
            go_wp2
            go_roundg (cn - (i + 1))
            case measure => omega
            case rel => exact ⟨i + 1, by omega, rfl, rfl, hid (after HD0.out HDc.out HD0.out.size), hid (old_block HDc.out (Array.getElem?_eq_some_iff.1 HXa0.out).1 HXa0.out), hid (old_block HDc.out (Array.getElem?_eq_some_iff.1 HXb0.out).1 HXb0.out)⟩
        case true =>
          have HE := hid e
          clear e
          go_wp2
          go_region_held3 (fun W => Hid (Below w.heap.size w W) ∧ (∀ i, W.cell? ⟨w.heap.size, i, none⟩ = (#[.slice sa sn sc, .slice (some ⟨b, o, none⟩) cn cc] : Array Value)[i]?) ∧ (∀ i, W.cell? ⟨w.heap.size + 1, i, none⟩ = (#[.slice sa2 sn2 sc2, .slice (some ⟨b2, o2, none⟩) cn2 cc2] : Array Value)[i]?) ∧ W.cell? ⟨b, o + i * 8, none⟩ = some (.string x.nm) ∧ W.cell? ⟨b, o + i * 8 + 1, none⟩ = some (.int .i64 x.pr) ∧ W.cell? ⟨b, o + i * 8 + 2, none⟩ = some (.slice va x.vs.length vc) ∧ W.cell? ⟨b, o + i * 8 + 3, none⟩ = some (.bool x.rt.t.p) ∧ W.cell? ⟨b, o + i * 8 + 4, none⟩ = some (.string x.rt.t.name) ∧ W.cell? ⟨b, o + i * 8 + 5, none⟩ = some (.int .i64 x.rt.cls) ∧ W.cell? ⟨b, o + i * 8 + 6, none⟩ = some (.slice fa x.fr.length fc) ∧ W.cell? ⟨b, o + i * 8 + 7, none⟩ = some (.slice ia x.ins.length ic) ∧ W.cell? ⟨b2, o2 + i * 8, none⟩ = some (.string y.nm) ∧ W.cell? ⟨b2, o2 + i * 8 + 1, none⟩ = some (.int .i64 y.pr) ∧ W.cell? ⟨b2, o2 + i * 8 + 2, none⟩ = some (.slice va2 y.vs.length vc2) ∧ W.cell? ⟨b2, o2 + i * 8 + 3, none⟩ = some (.bool y.rt.t.p) ∧ W.cell? ⟨b2, o2 + i * 8 + 4, none⟩ = some (.string y.rt.t.name) ∧ W.cell? ⟨b2, o2 + i * 8 + 5, none⟩ = some (.int .i64 y.rt.cls) ∧ W.cell? ⟨b2, o2 + i * 8 + 6, none⟩ = some (.slice fa2 y.fr.length fc2) ∧ W.cell? ⟨b2, o2 + i * 8 + 7, none⟩ = some (.slice ia2 y.ins.length ic2))
            (first | exact ⟨hid (after HD0.out HDc.out HD0.out.size), cells_at (old_block HDc.out (Array.getElem?_eq_some_iff.1 HXa0.out).1 HXa0.out), cells_at (old_block HDc.out (Array.getElem?_eq_some_iff.1 HXb0.out).1 HXb0.out), cells_stay HDc.out hb1 hc1 0 _ rfl, cells_stay HDc.out hb1 hc1 1 _ rfl, cells_stay HDc.out hb1 hc1 2 _ rfl, cells_stay HDc.out hb1 hc1 3 _ rfl, cells_stay HDc.out hb1 hc1 4 _ rfl, cells_stay HDc.out hb1 hc1 5 _ rfl, cells_stay HDc.out hb1 hc1 6 _ rfl, cells_stay HDc.out hb1 hc1 7 _ rfl, cells_stay HDc.out hb2 hc2 0 _ rfl, cells_stay HDc.out hb2 hc2 1 _ rfl, cells_stay HDc.out hb2 hc2 2 _ rfl, cells_stay HDc.out hb2 hc2 3 _ rfl, cells_stay HDc.out hb2 hc2 4 _ rfl, cells_stay HDc.out hb2 hc2 5 _ rfl, cells_stay HDc.out hb2 hc2 6 _ rfl, cells_stay HDc.out hb2 hc2 7 _ rfl⟩)
            (first
            | (go_at_call 8; have tok := HDc; clear HDc; go_must (refine (co_i x y va va2 fa fa2 ia ia2 vc vc2 fc fc2 ic ic2 true _ (HM1.out.later tok.out) (HM2'.out.later tok.out) HE.out).mono ?_); rintro e v1 ⟨rfl, hv1⟩; have HDc := hid (after tok.out hv1.out tok.out.size); clear tok hv1)
            | (go_at_call 9; have tok := HDc; clear HDc; go_must (refine (rco_i x y va va2 fa fa2 ia ia2 vc vc2 fc fc2 ic ic2 true _ (HM1.out.later tok.out) (HM2'.out.later tok.out) HE.out).mono ?_); rintro e v2 ⟨rfl, hv2⟩; have HDc := hid (after tok.out hv2.out tok.out.size); clear tok hv2))
          all_goals
            go_wp2
            go_roundg (cn - (i + 1))
            case measure => omega
            case rel => exact ⟨i + 1, by omega, rfl, rfl, hid (after HD0.out HDc.out HD0.out.size), hid (old_block HDc.out (Array.getElem?_eq_some_iff.1 HXa0.out).1 HXa0.out), hid (old_block HDc.out (Array.getElem?_eq_some_iff.1 HXb0.out).1 HXb0.out)⟩
      case neg =>
        have hlt2' : ¬ (i : Int) < (cn2 : Int) := by omega
        have HDc := hid HBA.out.drew
        have HXa : Hid (wr.drew.heap[w.heap.size]? = some (.cells #[.slice sa sn sc, .slice ca cn cc] 25 (0, 0))) := hid HYa.out
        have HXb : Hid (wr.drew.heap[w.heap.size + 1]? = some (.cells #[.slice sa2 sn2 sc2, .slice ca2 cn2 cc2] 25 (0, 0))) := hid HYb.out
        clear HBA
        go_wp2
        cases e : (eqL stEq ss ss2 && eqL coEq cs cs2)
        case false =>
          have HE := hid e
          clear e
          go_region_held3 (fun W => Hid (Below w.heap.size w W) ∧ (∀ i, W.cell? ⟨w.heap.size, i, none⟩ = (#[.slice sa sn sc, .slice ca cn cc] : Array Value)[i]?) ∧ (∀ i, W.cell? ⟨w.heap.size + 1, i, none⟩ = (#[.slice sa2 sn2 sc2, .slice ca2 cn2 cc2] : Array Value)[i]?))
            (first | exact ⟨HDc, cells_at HXa.out, cells_at HXb.out⟩)
            (first
            | (go_at_call 10; have tok := HDc; clear HDc; go_must (refine (same_n HSN.out HCN.out HSN2.out HCN2.out sa sa2 ca ca2 sc sc2 cc cc2 false _ (H1.out _ tok.out) (H2.out _ tok.out) (H3.out _ tok.out) (H4.out _ tok.out) HE.out).mono ?_); rintro e v ⟨rfl, hv⟩; have HDc := hid (after tok.out hv.out tok.out.size); have HXa := hid (old_block hv.out (Array.getElem?_eq_some_iff.1 HXa.out).1 HXa.out); have HXb := hid (old_block hv.out (Array.getElem?_eq_some_iff.1 HXb.out).1 HXb.out); clear tok hv)
            | (go_at_call 11; have tok := HDc; clear HDc; go_must (refine (rsame_n HSN.out HCN.out HSN2.out HCN2.out sa sa2 ca ca2 sc sc2 cc cc2 false _ (H1.out _ tok.out) (H2.out _ tok.out) (H3.out _ tok.out) (H4.out _ tok.out) HE.out).mono ?_); rintro e v ⟨rfl, hv⟩; have HDc := hid (after tok.out hv.out tok.out.size); have HXa := hid (old_block hv.out (Array.getElem?_eq_some_iff.1 HXa.out).1 HXa.out); have HXb := hid (old_block hv.out (Array.getElem?_eq_some_iff.1 HXb.out).1 HXb.out); clear tok hv)
            | (go_at_call 12; have tok := HDc; clear HDc; go_must (refine (fco_n HCN.out sa sn sc ca cc name _ (H3.out _ tok.out)).mono ?_); rintro e v ⟨rfl, hv⟩; have HDc := hid (after tok.out hv.out tok.out.size); have HXa := hid (old_block hv.out (Array.getElem?_eq_some_iff.1 HXa.out).1 HXa.out); have HXb := hid (old_block hv.out (Array.getElem?_eq_some_iff.1 HXb.out).1 HXb.out); clear tok hv)
            | (go_at_call 13; have tok := HDc; clear HDc; go_must (refine (rfco_n HCN.out sa sn sc ca cc name _ (H3.out _ tok.out)).mono ?_); rintro e v ⟨rfl, hv⟩; have HDc := hid (after tok.out hv.out tok.out.size); have HXa := hid (old_block hv.out (Array.getElem?_eq_some_iff.1 HXa.out).1 HXa.out); have HXb := hid (old_block hv.out (Array.getElem?_eq_some_iff.1 HXb.out).1 HXb.out); clear tok hv)
            | (go_at_call 14; have tok := HDc; clear HDc; go_must (refine (fst_n HSN.out ca cn cc sa sc name _ (H1.out _ tok.out)).mono ?_); rintro e v ⟨rfl, hv⟩; have HDc := hid (after tok.out hv.out tok.out.size); have HXa := hid (old_block hv.out (Array.getElem?_eq_some_iff.1 HXa.out).1 HXa.out); have HXb := hid (old_block hv.out (Array.getElem?_eq_some_iff.1 HXb.out).1 HXb.out); clear tok hv)
            | (go_at_call 15; have tok := HDc; clear HDc; go_must (refine (rfst_n HSN.out ca cn cc sa sc name _ (H1.out _ tok.out)).mono ?_); rintro e v ⟨rfl, hv⟩; have HDc := hid (after tok.out hv.out tok.out.size); have HXa := hid (old_block hv.out (Array.getElem?_eq_some_iff.1 HXa.out).1 HXa.out); have HXb := hid (old_block hv.out (Array.getElem?_eq_some_iff.1 HXb.out).1 HXb.out); clear tok hv)
            | (go_at_call 7; have tok := HDc; clear HDc; go_must (refine (alive_i _).mono ?_); rintro e v ⟨rfl, hv⟩; have HDc := hid (after tok.out hv.out tok.out.size); have HXa := hid (old_block hv.out (Array.getElem?_eq_some_iff.1 HXa.out).1 HXa.out); have HXb := hid (old_block hv.out (Array.getElem?_eq_some_iff.1 HXb.out).1 HXb.out); clear tok hv))
          all_goals
            go_wp2
            go_ret
            exact ⟨rfl, HDc⟩
        case true =>
          have HE := hid e
          clear e
          go_region_held3 (fun W => Hid (Below w.heap.size w W) ∧ (∀ i, W.cell? ⟨w.heap.size, i, none⟩ = (#[.slice sa sn sc, .slice ca cn cc] : Array Value)[i]?) ∧ (∀ i, W.cell? ⟨w.heap.size + 1, i, none⟩ = (#[.slice sa2 sn2 sc2, .slice ca2 cn2 cc2] : Array Value)[i]?))
            (first | exact ⟨HDc, cells_at HXa.out, cells_at HXb.out⟩)
            (first
            | (go_at_call 10; have tok := HDc; clear HDc; go_must (refine (same_n HSN.out HCN.out HSN2.out HCN2.out sa sa2 ca ca2 sc sc2 cc cc2 true _ (H1.out _ tok.out) (H2.out _ tok.out) (H3.out _ tok.out) (H4.out _ tok.out) HE.out).mono ?_); rintro e v ⟨rfl, hv⟩; have HDc := hid (after tok.out hv.out tok.out.size); have HXa := hid (old_block hv.out (Array.getElem?_eq_some_iff.1 HXa.out).1 HXa.out); have HXb := hid (old_block hv.out (Array.getElem?_eq_some_iff.1 HXb.out).1 HXb.out); clear tok hv)
            | (go_at_call 11; have tok := HDc; clear HDc; go_must (refine (rsame_n HSN.out HCN.out HSN2.out HCN2.out sa sa2 ca ca2 sc sc2 cc cc2 true _ (H1.out _ tok.out) (H2.out _ tok.out) (H3.out _ tok.out) (H4.out _ tok.out) HE.out).mono ?_); rintro e v ⟨rfl, hv⟩; have HDc := hid (after tok.out hv.out tok.out.size); have HXa := hid (old_block hv.out (Array.getElem?_eq_some_iff.1 HXa.out).1 HXa.out); have HXb := hid (old_block hv.out (Array.getElem?_eq_some_iff.1 HXb.out).1 HXb.out); clear tok hv)
            | (go_at_call 12; have tok := HDc; clear HDc; go_must (refine (fco_n HCN.out sa sn sc ca cc name _ (H3.out _ tok.out)).mono ?_); rintro e v ⟨rfl, hv⟩; have HDc := hid (after tok.out hv.out tok.out.size); have HXa := hid (old_block hv.out (Array.getElem?_eq_some_iff.1 HXa.out).1 HXa.out); have HXb := hid (old_block hv.out (Array.getElem?_eq_some_iff.1 HXb.out).1 HXb.out); clear tok hv)
            | (go_at_call 13; have tok := HDc; clear HDc; go_must (refine (rfco_n HCN.out sa sn sc ca cc name _ (H3.out _ tok.out)).mono ?_); rintro e v ⟨rfl, hv⟩; have HDc := hid (after tok.out hv.out tok.out.size); have HXa := hid (old_block hv.out (Array.getElem?_eq_some_iff.1 HXa.out).1 HXa.out); have HXb := hid (old_block hv.out (Array.getElem?_eq_some_iff.1 HXb.out).1 HXb.out); clear tok hv)
            | (go_at_call 14; have tok := HDc; clear HDc; go_must (refine (fst_n HSN.out ca cn cc sa sc name _ (H1.out _ tok.out)).mono ?_); rintro e v ⟨rfl, hv⟩; have HDc := hid (after tok.out hv.out tok.out.size); have HXa := hid (old_block hv.out (Array.getElem?_eq_some_iff.1 HXa.out).1 HXa.out); have HXb := hid (old_block hv.out (Array.getElem?_eq_some_iff.1 HXb.out).1 HXb.out); clear tok hv)
            | (go_at_call 15; have tok := HDc; clear HDc; go_must (refine (rfst_n HSN.out ca cn cc sa sc name _ (H1.out _ tok.out)).mono ?_); rintro e v ⟨rfl, hv⟩; have HDc := hid (after tok.out hv.out tok.out.size); have HXa := hid (old_block hv.out (Array.getElem?_eq_some_iff.1 HXa.out).1 HXa.out); have HXb := hid (old_block hv.out (Array.getElem?_eq_some_iff.1 HXb.out).1 HXb.out); clear tok hv)
            | (go_at_call 7; have tok := HDc; clear HDc; go_must (refine (alive_i _).mono ?_); rintro e v ⟨rfl, hv⟩; have HDc := hid (after tok.out hv.out tok.out.size); have HXa := hid (old_block hv.out (Array.getElem?_eq_some_iff.1 HXa.out).1 HXa.out); have HXb := hid (old_block hv.out (Array.getElem?_eq_some_iff.1 HXb.out).1 HXb.out); clear tok hv))
          all_goals
            go_wp2
            go_ret
            exact ⟨rfl, HDc⟩
    case neg =>
      have hlt' : ¬ (i : Int) < (cn : Int) := by omega
      have HDc := hid HBA.out.drew
      have HXa : Hid (wr.drew.heap[w.heap.size]? = some (.cells #[.slice sa sn sc, .slice ca cn cc] 25 (0, 0))) := hid HYa.out
      have HXb : Hid (wr.drew.heap[w.heap.size + 1]? = some (.cells #[.slice sa2 sn2 sc2, .slice ca2 cn2 cc2] 25 (0, 0))) := hid HYb.out
      clear HBA
      go_wp2
      cases e : (eqL stEq ss ss2 && eqL coEq cs cs2)
      case false =>
        have HE := hid e
        clear e
        go_region_held3 (fun W => Hid (Below w.heap.size w W) ∧ (∀ i, W.cell? ⟨w.heap.size, i, none⟩ = (#[.slice sa sn sc, .slice ca cn cc] : Array Value)[i]?) ∧ (∀ i, W.cell? ⟨w.heap.size + 1, i, none⟩ = (#[.slice sa2 sn2 sc2, .slice ca2 cn2 cc2] : Array Value)[i]?))
          (first | exact ⟨HDc, cells_at HXa.out, cells_at HXb.out⟩)
          (first
          | (go_at_call 10; have tok := HDc; clear HDc; go_must (refine (same_n HSN.out HCN.out HSN2.out HCN2.out sa sa2 ca ca2 sc sc2 cc cc2 false _ (H1.out _ tok.out) (H2.out _ tok.out) (H3.out _ tok.out) (H4.out _ tok.out) HE.out).mono ?_); rintro e v ⟨rfl, hv⟩; have HDc := hid (after tok.out hv.out tok.out.size); have HXa := hid (old_block hv.out (Array.getElem?_eq_some_iff.1 HXa.out).1 HXa.out); have HXb := hid (old_block hv.out (Array.getElem?_eq_some_iff.1 HXb.out).1 HXb.out); clear tok hv)
          | (go_at_call 11; have tok := HDc; clear HDc; go_must (refine (rsame_n HSN.out HCN.out HSN2.out HCN2.out sa sa2 ca ca2 sc sc2 cc cc2 false _ (H1.out _ tok.out) (H2.out _ tok.out) (H3.out _ tok.out) (H4.out _ tok.out) HE.out).mono ?_); rintro e v ⟨rfl, hv⟩; have HDc := hid (after tok.out hv.out tok.out.size); have HXa := hid (old_block hv.out (Array.getElem?_eq_some_iff.1 HXa.out).1 HXa.out); have HXb := hid (old_block hv.out (Array.getElem?_eq_some_iff.1 HXb.out).1 HXb.out); clear tok hv)
          | (go_at_call 12; have tok := HDc; clear HDc; go_must (refine (fco_n HCN.out sa sn sc ca cc name _ (H3.out _ tok.out)).mono ?_); rintro e v ⟨rfl, hv⟩; have HDc := hid (after tok.out hv.out tok.out.size); have HXa := hid (old_block hv.out (Array.getElem?_eq_some_iff.1 HXa.out).1 HXa.out); have HXb := hid (old_block hv.out (Array.getElem?_eq_some_iff.1 HXb.out).1 HXb.out); clear tok hv)
          | (go_at_call 13; have tok := HDc; clear HDc; go_must (refine (rfco_n HCN.out sa sn sc ca cc name _ (H3.out _ tok.out)).mono ?_); rintro e v ⟨rfl, hv⟩; have HDc := hid (after tok.out hv.out tok.out.size); have HXa := hid (old_block hv.out (Array.getElem?_eq_some_iff.1 HXa.out).1 HXa.out); have HXb := hid (old_block hv.out (Array.getElem?_eq_some_iff.1 HXb.out).1 HXb.out); clear tok hv)
          | (go_at_call 14; have tok := HDc; clear HDc; go_must (refine (fst_n HSN.out ca cn cc sa sc name _ (H1.out _ tok.out)).mono ?_); rintro e v ⟨rfl, hv⟩; have HDc := hid (after tok.out hv.out tok.out.size); have HXa := hid (old_block hv.out (Array.getElem?_eq_some_iff.1 HXa.out).1 HXa.out); have HXb := hid (old_block hv.out (Array.getElem?_eq_some_iff.1 HXb.out).1 HXb.out); clear tok hv)
          | (go_at_call 15; have tok := HDc; clear HDc; go_must (refine (rfst_n HSN.out ca cn cc sa sc name _ (H1.out _ tok.out)).mono ?_); rintro e v ⟨rfl, hv⟩; have HDc := hid (after tok.out hv.out tok.out.size); have HXa := hid (old_block hv.out (Array.getElem?_eq_some_iff.1 HXa.out).1 HXa.out); have HXb := hid (old_block hv.out (Array.getElem?_eq_some_iff.1 HXb.out).1 HXb.out); clear tok hv)
          | (go_at_call 7; have tok := HDc; clear HDc; go_must (refine (alive_i _).mono ?_); rintro e v ⟨rfl, hv⟩; have HDc := hid (after tok.out hv.out tok.out.size); have HXa := hid (old_block hv.out (Array.getElem?_eq_some_iff.1 HXa.out).1 HXa.out); have HXb := hid (old_block hv.out (Array.getElem?_eq_some_iff.1 HXb.out).1 HXb.out); clear tok hv))
        all_goals
          go_wp2
          go_ret
          exact ⟨rfl, HDc⟩
      case true =>
        have HE := hid e
        clear e
        go_region_held3 (fun W => Hid (Below w.heap.size w W) ∧ (∀ i, W.cell? ⟨w.heap.size, i, none⟩ = (#[.slice sa sn sc, .slice ca cn cc] : Array Value)[i]?) ∧ (∀ i, W.cell? ⟨w.heap.size + 1, i, none⟩ = (#[.slice sa2 sn2 sc2, .slice ca2 cn2 cc2] : Array Value)[i]?))
          (first | exact ⟨HDc, cells_at HXa.out, cells_at HXb.out⟩)
          (first
          | (go_at_call 10; have tok := HDc; clear HDc; go_must (refine (same_n HSN.out HCN.out HSN2.out HCN2.out sa sa2 ca ca2 sc sc2 cc cc2 true _ (H1.out _ tok.out) (H2.out _ tok.out) (H3.out _ tok.out) (H4.out _ tok.out) HE.out).mono ?_); rintro e v ⟨rfl, hv⟩; have HDc := hid (after tok.out hv.out tok.out.size); have HXa := hid (old_block hv.out (Array.getElem?_eq_some_iff.1 HXa.out).1 HXa.out); have HXb := hid (old_block hv.out (Array.getElem?_eq_some_iff.1 HXb.out).1 HXb.out); clear tok hv)
          | (go_at_call 11; have tok := HDc; clear HDc; go_must (refine (rsame_n HSN.out HCN.out HSN2.out HCN2.out sa sa2 ca ca2 sc sc2 cc cc2 true _ (H1.out _ tok.out) (H2.out _ tok.out) (H3.out _ tok.out) (H4.out _ tok.out) HE.out).mono ?_); rintro e v ⟨rfl, hv⟩; have HDc := hid (after tok.out hv.out tok.out.size); have HXa := hid (old_block hv.out (Array.getElem?_eq_some_iff.1 HXa.out).1 HXa.out); have HXb := hid (old_block hv.out (Array.getElem?_eq_some_iff.1 HXb.out).1 HXb.out); clear tok hv)
          | (go_at_call 12; have tok := HDc; clear HDc; go_must (refine (fco_n HCN.out sa sn sc ca cc name _ (H3.out _ tok.out)).mono ?_); rintro e v ⟨rfl, hv⟩; have HDc := hid (after tok.out hv.out tok.out.size); have HXa := hid (old_block hv.out (Array.getElem?_eq_some_iff.1 HXa.out).1 HXa.out); have HXb := hid (old_block hv.out (Array.getElem?_eq_some_iff.1 HXb.out).1 HXb.out); clear tok hv)
          | (go_at_call 13; have tok := HDc; clear HDc; go_must (refine (rfco_n HCN.out sa sn sc ca cc name _ (H3.out _ tok.out)).mono ?_); rintro e v ⟨rfl, hv⟩; have HDc := hid (after tok.out hv.out tok.out.size); have HXa := hid (old_block hv.out (Array.getElem?_eq_some_iff.1 HXa.out).1 HXa.out); have HXb := hid (old_block hv.out (Array.getElem?_eq_some_iff.1 HXb.out).1 HXb.out); clear tok hv)
          | (go_at_call 14; have tok := HDc; clear HDc; go_must (refine (fst_n HSN.out ca cn cc sa sc name _ (H1.out _ tok.out)).mono ?_); rintro e v ⟨rfl, hv⟩; have HDc := hid (after tok.out hv.out tok.out.size); have HXa := hid (old_block hv.out (Array.getElem?_eq_some_iff.1 HXa.out).1 HXa.out); have HXb := hid (old_block hv.out (Array.getElem?_eq_some_iff.1 HXb.out).1 HXb.out); clear tok hv)
          | (go_at_call 15; have tok := HDc; clear HDc; go_must (refine (rfst_n HSN.out ca cn cc sa sc name _ (H1.out _ tok.out)).mono ?_); rintro e v ⟨rfl, hv⟩; have HDc := hid (after tok.out hv.out tok.out.size); have HXa := hid (old_block hv.out (Array.getElem?_eq_some_iff.1 HXa.out).1 HXa.out); have HXb := hid (old_block hv.out (Array.getElem?_eq_some_iff.1 HXb.out).1 HXb.out); clear tok hv)
          | (go_at_call 7; have tok := HDc; clear HDc; go_must (refine (alive_i _).mono ?_); rintro e v ⟨rfl, hv⟩; have HDc := hid (after tok.out hv.out tok.out.size); have HXa := hid (old_block hv.out (Array.getElem?_eq_some_iff.1 HXa.out).1 HXa.out); have HXb := hid (old_block hv.out (Array.getElem?_eq_some_iff.1 HXb.out).1 HXb.out); clear tok hv))
        all_goals
          go_wp2
          go_ret
          exact ⟨rfl, HDc⟩
end Go.Proofs.Ytfhdiahjfnphkaa
