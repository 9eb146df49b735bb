/- Types that are not known, by the reference. No conditions. -/
import Derived.Test.YtfhdiahjfnphkaaCR07
namespace Go.Proofs.Ytfhdiahjfnphkaa
open Go.RowKit Go.Maps
set_option linter.unusedVariables false
set_option linter.unusedSimpArgs false
/-- Is a type none of the module's? -/
def badB (ss : List StD) (t : TyD) : Bool := (t.p && decide (idxL (stN t.name) ss 0 < 0)) || (!t.p && !(t.name.toList == []))
def tysF (s : StD) : List TyD := s.fs.map (·.t)
def tysC (c : CoD) : List TyD := c.rt.t :: c.vs.map (·.t)
def unB (ss : List StD) (cs : List CoD) : Bool := ss.any (fun s => (tysF s).any (badB ss)) || cs.any (fun c => (tysC c).any (badB ss))
theorem known_n (ss : List StD) (n m : Nat) (hn : ss.length = n) (sa ca : Option Addr) (sc cc : Nat) (t : TyD) (r : Bool) (w : World) (h1 : RowM 4 StAt w sa ss) (hr : badB ss t = r) :
    Calls Try.prog 51 #[.agg #[.slice sa n sc, .slice ca m cc], .agg #[.bool t.p, .string t.name]] w fun e w' => e = .returned (.bool (!r)) ∧ Hid (Below w.heap.size w w') := by
  have HX := hid (boxes' w #[.slice sa n sc, .slice ca m cc] 25 #[.bool t.p, .string t.name] 31)
  have HB := hid (below2 w)
  have H1 := hid (fun W (hb : Below w.heap.size w W) => h1.later st_stays hb)
  have HN := hid hn
  obtain ⟨p, nm⟩ := t
  obtain ⟨q, hq⟩ : ∃ q, idxL (stN nm) ss 0 = q := ⟨_, rfl⟩
  have HQ := hid hq
  simp only [badB, hq] at hr
  clear h1 hn hq
  cases p
  case false =>
    cases e : (nm.toList == [])
    case true =>
      have hf : r = false := by rw [← hr, e]; rfl
      subst hf
      clear hr
      go_enter Try.func51, Try.ntmps51
      go_wp2
      go_ret
      exact ⟨by first | rfl | (simp; done) | (simp; omega), hid (HB.out _ _)⟩
    case false =>
      have hf : r = true := by rw [← hr, e]; rfl
      subst hf
      clear hr
      go_enter Try.func51, Try.ntmps51
      go_wp2
      go_ret
      exact ⟨by first | rfl | (simp; done) | (simp; omega), hid (HB.out _ _)⟩
  case true =>
    by_cases e : q < 0
    case pos =>
      have hf : r = true := by rw [← hr]; simp [e]
      subst hf
      have e2 : ¬ (0 : Int) ≤ q := by omega
      clear hr
      go_enter Try.func51, Try.ntmps51
      go_wp2_with (go_at_call 15; go_must (refine (rfst_q HN.out ca m cc sa sc nm _ (H1.out _ (HB.out _ _))).mono ?_); rw [HQ.out]; rintro e v ⟨rfl, hv⟩; have hx1 := cells_at (old_block hv.out (Array.getElem?_eq_some_iff.1 HX.out.1).1 HX.out.1); have hx2 := cells_at (old_block hv.out (Array.getElem?_eq_some_iff.1 HX.out.2).1 HX.out.2))
      go_ret
      exact ⟨by first | rfl | (simp; done) | (simp; omega), hid (after (HB.out _ _) hv.out (HB.out _ _).size)⟩
    case neg =>
      have hf : r = false := by rw [← hr]; simp; omega
      subst hf
      have e2 : (0 : Int) ≤ q := by omega
      clear hr
      go_enter Try.func51, Try.ntmps51
      go_wp2_with (go_at_call 15; go_must (refine (rfst_q HN.out ca m cc sa sc nm _ (H1.out _ (HB.out _ _))).mono ?_); rw [HQ.out]; rintro e v ⟨rfl, hv⟩; have hx1 := cells_at (old_block hv.out (Array.getElem?_eq_some_iff.1 HX.out.1).1 HX.out.1); have hx2 := cells_at (old_block hv.out (Array.getElem?_eq_some_iff.1 HX.out.2).1 HX.out.2))
      go_ret
      exact ⟨by first | rfl | (simp; done) | (simp; omega), hid (after (HB.out _ _) hv.out (HB.out _ _).size)⟩
theorem cell_keep {W W' : World} {b o : Nat} {v : Value} (hb : Below W.heap.size W W') (hlt : b < W.heap.size) (h : W.cell? ⟨b, o, none⟩ = some v) : W'.cell? ⟨b, o, none⟩ = some v := (hb.cell (p := ⟨b, o, none⟩) hlt).trans h
set_option maxRecDepth 100000 in
set_option maxHeartbeats 16000000 in
theorem unknown_i (ss : List StD) (cs : List CoD) (sa ca : Option Addr) (sc cc : Nat) (r : Bool) (w : World) (h1 : RowM 4 StAt w sa ss) (h2 : RowM 8 CoAt w ca cs) (hr : unB ss cs = r) :
    Calls Try.prog 38 #[.agg #[.slice sa ss.length sc, .slice ca cs.length cc]] w fun e w' => e = .returned (.bool r) ∧ Hid (Below w.heap.size w w') := by
  have hl := h1.1
  have hl2 := h2.1
  obtain ⟨n, hn⟩ : ∃ n : Nat, ss.length = n := ⟨_, rfl⟩
  obtain ⟨m, hm⟩ : ∃ n : Nat, cs.length = n := ⟨_, rfl⟩
  rw [hn, hm]
  rw [hn] at hl
  rw [hm] at hl2
  have H1 := hid (fun W (hb : Below w.heap.size w W) => h1.later st_stays hb)
  have H2 := hid (fun W (hb : Below w.heap.size w W) => h2.later co_stays hb)
  have HN := hid hn
  have HM := hid hm
  have HR := hid hr
  have HX := hid (heap_alloc_new w (.cells #[.slice sa n sc, .slice ca m cc] 25))
  have HB := hid (below1 w (.cells #[.slice sa n sc, .slice ca m cc] 25))
  clear h1 h2 hn hm hr
  go_enter Try.func38, Try.ntmps38
  have hx := cells_at HX.out
  go_wp2
  obtain ⟨W1, hW1⟩ : ∃ W1, w.alloc (.cells #[.slice sa n sc, .slice ca m cc] 25) = W1 := ⟨_, rfl⟩
  rw [hW1] at HX HB ⊢
  clear hW1 hx
  go_loopg [3] n (fun gk v3 wr => ∃ k : Nat, k ≤ n ∧ gk = n - k ∧ v3 = .int .i64 k ∧ Hid (Below w.heap.size w wr) ∧ Hid (wr.heap[w.heap.size]? = some (.cells #[.slice sa n sc, .slice ca m cc] 25 (0, 0))) ∧ Hid (∀ i x, i < k → ss[i]? = some x → (tysF x).any (badB ss) = false))
  case atStart => exact ⟨0, by omega, by omega, rfl, HB, HX, hid (fun i x hi => absurd hi (by omega))⟩
  case round =>
    clear HB HX
    obtain ⟨k, hk, rfl, rfl, HB, HX, HA⟩ := hrel
    by_cases hlt : k < n
    · have hlt' : (k : Int) < (n : Int) := by omega
      obtain ⟨x, hx1⟩ := get_some HN.out hlt
      obtain ⟨b, o, rfl, hb1, fa, fc, hc1, hm1⟩ := (H1.out _ HB.out).2 k x hx1
      have hx := cells_at HX.out
      obtain ⟨q2, hq2⟩ : ∃ q2, x.fs.length = q2 := ⟨_, rfl⟩
      have d1 : wr.cell? ⟨b, o + k * 4 + 1, none⟩ = some (.slice fa x.fs.length fc) := hc1 1 _ rfl
      have hq3 : q2 ≤ 9223372036854775807 := by rw [← hq2]; exact hm1.1
      rw [hq2] at d1
      have HQ2 := hid hq2
      have HXX := hid hx1
      have hk0 : (0 : Int) ≤ (k : Int) := by omega
      have hk1 : (k : Int) ≤ (n : Int) := by omega
      have HF0 := hid hm1
      have HD1 := hid d1
      clear hx1 hc1 hm1 hq2
      have HBb := hid hb1
      clear hb1
      go_wp2
      go_loopg [4] q2 (fun gk v4 wr2 => ∃ i : Nat, i ≤ q2 ∧ gk = q2 - i ∧ v4 = .int .i64 i ∧ Hid (Below w.heap.size w wr2) ∧ Hid (wr2.heap[w.heap.size]? = some (.cells #[.slice (some ⟨b, o, none⟩) n sc, .slice ca m cc] 25 (0, 0))) ∧ Hid (b < wr2.heap.size) ∧ Hid (wr2.cell? ⟨b, o + k * 4 + 1, none⟩ = some (.slice fa q2 fc)) ∧ Hid (RowM 5 FdAt wr2 fa x.fs) ∧ Hid (∀ i2 u, i2 < i → x.fs[i2]? = some u → badB ss u.t = false))
      case atStart => exact ⟨0, by omega, by omega, rfl, HB, HX, HBb, HD1, HF0, hid (fun i u h => absurd h (by omega))⟩
      case round =>
        clear HB HX HBb HD1 HF0 hx d1
        obtain ⟨i, hi, rfl, rfl, HB, HX, HBb, HD1, HF0, HAA⟩ := hrel
        have hx := cells_at HX.out
        have d1 := HD1.out
        by_cases hli : i < q2
        · have hli' : (i : Int) < (q2 : Int) := by omega
          obtain ⟨u, hu⟩ := get_some HQ2.out hli
          have HD0 := hid HB.out.drew
          have HDc := hid (Below.refl wr.drew.heap.size wr.drew)
          have hb1 : b < wr.drew.heap.size := HBb.out
          obtain ⟨b3, o3, rfl, hb3', hc3⟩ := HF0.out.2 i u hu
          have hb3 : b3 < wr.drew.heap.size := hb3'
          have HX0 : Hid (wr.drew.heap[w.heap.size]? = some (.cells #[.slice (some ⟨b, o, none⟩) n sc, .slice ca m cc] 25 (0, 0))) := hid HX.out
          have HC1 : Hid (wr.drew.cell? ⟨b, o + k * 4 + 1, none⟩ = some (.slice (some ⟨b3, o3, none⟩) q2 fc)) := hid HD1.out
          have HC2 : Hid (wr.drew.cell? ⟨b3, o3 + i * 5 + 1, none⟩ = some (.bool u.t.p)) := hid (hc3 1 _ rfl)
          have HC3 : Hid (wr.drew.cell? ⟨b3, o3 + i * 5 + 2, none⟩ = some (.string u.t.name)) := hid (hc3 2 _ rfl)
          have HFd := hid (HF0.out.later fd_stays (below_drew1 wr))
          have hi0 : (0 : Int) ≤ (i : Int) := by omega
          have hi1 : (i : Int) ≤ (q2 : Int) := by omega
          have HU := hid hu
          clear hu hc3 hb3' HB HX HD1 HF0 HBb
          cases e : badB ss u.t
          case true =>
            have hf : r = true := HR.out.symm.trans (by
              have h1 : (tysF x).any (badB ss) = true := List.any_eq_true.2 ⟨u.t, List.mem_map.2 ⟨u, List.mem_of_getElem? HU.out, rfl⟩, e⟩
              rw [unB, any_at (p := fun s => (tysF s).any (badB ss)) HXX.out h1]; rfl)
            subst hf
            have HE := hid e
            clear e
            go_wp2
            go_region_held3 (fun W => Hid (Below w.heap.size w W) ∧ (∀ i, W.cell? ⟨w.heap.size, i, none⟩ = (#[.slice (some ⟨b, o, none⟩) n sc, .slice ca m cc] : Array Value)[i]?) ∧ W.cell? ⟨b, o + k * 4 + 1, none⟩ = some (.slice (some ⟨b3, o3, none⟩) q2 fc) ∧ W.cell? ⟨b3, o3 + i * 5 + 1, none⟩ = some (.bool u.t.p) ∧ W.cell? ⟨b3, o3 + i * 5 + 2, none⟩ = some (.string u.t.name))
              (first | exact ⟨hid (after HD0.out HDc.out HD0.out.size), cells_at (old_block HDc.out (Array.getElem?_eq_some_iff.1 HX0.out).1 HX0.out), cell_keep HDc.out hb1 HC1.out, cell_keep HDc.out hb3 HC2.out, cell_keep HDc.out hb3 HC3.out⟩)
              (first
              | (go_at_call 51; have tok := HDc; go_must (refine (known_n ss n m HN.out (some ⟨b, o, none⟩) ca sc cc u.t true _ (H1.out _ (after HD0.out tok.out HD0.out.size)) HE.out).mono ?_); rintro e v ⟨rfl, hv⟩; have HDc := hid (after tok.out hv.out tok.out.size); clear tok hv))
            go_wp2
            go_ret
            exact ⟨rfl, hid (after HD0.out HDc.out HD0.out.size)⟩
          case false =>
            have HE := hid e
            clear e
            go_wp2
            go_region_held3 (fun W => Hid (Below w.heap.size w W) ∧ (∀ i, W.cell? ⟨w.heap.size, i, none⟩ = (#[.slice (some ⟨b, o, none⟩) n sc, .slice ca m cc] : Array Value)[i]?) ∧ W.cell? ⟨b, o + k * 4 + 1, none⟩ = some (.slice (some ⟨b3, o3, none⟩) q2 fc) ∧ W.cell? ⟨b3, o3 + i * 5 + 1, none⟩ = some (.bool u.t.p) ∧ W.cell? ⟨b3, o3 + i * 5 + 2, none⟩ = some (.string u.t.name))
              (first | exact ⟨hid (after HD0.out HDc.out HD0.out.size), cells_at (old_block HDc.out (Array.getElem?_eq_some_iff.1 HX0.out).1 HX0.out), cell_keep HDc.out hb1 HC1.out, cell_keep HDc.out hb3 HC2.out, cell_keep HDc.out hb3 HC3.out⟩)
              (first
              | (go_at_call 51; have tok := HDc; go_must (refine (known_n ss n m HN.out (some ⟨b, o, none⟩) ca sc cc u.t false _ (H1.out _ (after HD0.out tok.out HD0.out.size)) HE.out).mono ?_); rintro e v ⟨rfl, hv⟩; have HDc := hid (after tok.out hv.out tok.out.size); clear tok hv))
            go_wp2
            go_roundg (q2 - (i + 1))
            case measure => omega
            case rel => exact ⟨i + 1, by omega, rfl, rfl, hid (after HD0.out HDc.out HD0.out.size), hid (old_block HDc.out (Array.getElem?_eq_some_iff.1 HX0.out).1 HX0.out), hid (Nat.lt_of_lt_of_le hb1 HDc.out.size), hid (cell_keep HDc.out hb1 HC1.out), hid (HFd.out.later fd_stays HDc.out), hid (fun i2 u2 h1 h2 => by
              by_cases hjj : i2 < i
              · exact HAA.out i2 u2 hjj h2
              · obtain rfl : i2 = i := by omega
                rw [HU.out] at h2
                cases h2
                exact HE.out)⟩
        · have hli' : ¬ (i : Int) < (q2 : Int) := by omega
          have HFN : Hid ((tysF x).any (badB ss) = false) := hid (by
            rw [List.any_eq_false]
            intro t ht
            obtain ⟨u, hu, rfl⟩ := List.mem_map.1 ht
            obtain ⟨j, hj⟩ := List.getElem?_of_mem hu
            rw [HAA.out j u (by have := (List.getElem?_eq_some_iff.1 hj).1; have := HQ2.out; omega) hj]
            simp)
          go_wp2
          go_roundg (n - (k + 1))
          case measure => omega
          case rel => exact ⟨k + 1, by omega, rfl, rfl, HB, HX, hid (fun i x' hi h1 => by
            by_cases hik : i < k
            · exact HA.out i x' hik h1
            · obtain rfl : i = k := by omega
              rw [HXX.out] at h1
              cases h1
              exact HFN.out)⟩
    · have hlt' : ¬ (k : Int) < (n : Int) := by omega
      have hx := cells_at HX.out
      have HR2 : Hid (cs.any (fun c => (tysC c).any (badB ss)) = r) := hid (by
        rw [← HR.out, unB, any_no (p := fun s => (tysF s).any (badB ss)) (fun i x hi h1 => HA.out i x (by have := HN.out; omega) h1)]
        rfl)
      clear HR HA
      go_wp2
      go_loopg [5] m (fun gk v5 wr2 => ∃ k : Nat, k ≤ m ∧ gk = m - k ∧ v5 = .int .i64 k ∧ Hid (Below w.heap.size w wr2) ∧ Hid (wr2.heap[w.heap.size]? = some (.cells #[.slice sa n sc, .slice ca m cc] 25 (0, 0))) ∧ Hid (∀ i x, i < k → cs[i]? = some x → (tysC x).any (badB ss) = false))
      case atStart => exact ⟨0, by omega, by omega, rfl, HB, HX, hid (fun i x hi => absurd hi (by omega))⟩
      case round =>
        clear HB HX hx
        obtain ⟨k, hk, rfl, rfl, HB, HX, HA⟩ := hrel
        have hx := cells_at HX.out
        by_cases hlt : k < m
        · have hlt' : (k : Int) < (m : Int) := by omega
          obtain ⟨x, hx1⟩ := get_some HM.out hlt
          have HD0 := hid HB.out.drew
          have HDc := hid (Below.refl wr.drew.heap.size wr.drew)
          obtain ⟨b, o, rfl, hb1, va, vc, fa, fc, ia, ic, hc1, hm1⟩ := (H2.out _ HD0.out).2 k x hx1
          have HX0 : Hid (wr.drew.heap[w.heap.size]? = some (.cells #[.slice sa n sc, .slice (some ⟨b, o, none⟩) m cc] 25 (0, 0))) := hid HX.out
          have HC1 : Hid (wr.drew.cell? ⟨b, o + k * 8 + 3, none⟩ = some (.bool x.rt.t.p)) := hid (hc1 3 _ rfl)
          have HC2 : Hid (wr.drew.cell? ⟨b, o + k * 8 + 4, none⟩ = some (.string x.rt.t.name)) := hid (hc1 4 _ rfl)
          have HCv : Hid (wr.drew.cell? ⟨b, o + k * 8 + 2, none⟩ = some (.slice va x.vs.length vc)) := hid (hc1 2 _ rfl)
          have HXX := hid hx1
          have hk0 : (0 : Int) ≤ (k : Int) := by omega
          have hk1 : (k : Int) ≤ (m : Int) := by omega
          have HVs := hid hm1.vs
          clear hx1 hc1 hm1 HB HX
          cases e : badB ss x.rt.t
          case true =>
            have hf : r = true := HR2.out.symm.trans (any_at (p := fun c => (tysC c).any (badB ss)) HXX.out (by simp [tysC, e]))
            subst hf
            have HE := hid e
            clear e
            go_wp2
            go_region_held3 (fun W => Hid (Below w.heap.size w W) ∧ (∀ i, W.cell? ⟨w.heap.size, i, none⟩ = (#[.slice sa n sc, .slice (some ⟨b, o, none⟩) m cc] : Array Value)[i]?) ∧ W.cell? ⟨b, o + k * 8 + 3, none⟩ = some (.bool x.rt.t.p) ∧ W.cell? ⟨b, o + k * 8 + 4, none⟩ = some (.string x.rt.t.name))
              (first | exact ⟨hid (after HD0.out HDc.out HD0.out.size), cells_at (old_block HDc.out (Array.getElem?_eq_some_iff.1 HX0.out).1 HX0.out), cell_keep HDc.out hb1 HC1.out, cell_keep HDc.out hb1 HC2.out⟩)
              (first
              | (go_at_call 51; have tok := HDc; go_must (refine (known_n ss n m HN.out sa (some ⟨b, o, none⟩) sc cc x.rt.t true _ (H1.out _ (after HD0.out tok.out HD0.out.size)) HE.out).mono ?_); rintro e v ⟨rfl, hv⟩; have HDc := hid (after tok.out hv.out tok.out.size); clear tok hv))
            go_wp2
            go_ret
            exact ⟨rfl, hid (after HD0.out HDc.out HD0.out.size)⟩
          case false =>
            have HE := hid e
            clear e
            go_wp2
            go_region_held3 (fun W => Hid (Below w.heap.size w W) ∧ (∀ i, W.cell? ⟨w.heap.size, i, none⟩ = (#[.slice sa n sc, .slice (some ⟨b, o, none⟩) m cc] : Array Value)[i]?) ∧ W.cell? ⟨b, o + k * 8 + 3, none⟩ = some (.bool x.rt.t.p) ∧ W.cell? ⟨b, o + k * 8 + 4, none⟩ = some (.string x.rt.t.name))
              (first | exact ⟨hid (after HD0.out HDc.out HD0.out.size), cells_at (old_block HDc.out (Array.getElem?_eq_some_iff.1 HX0.out).1 HX0.out), cell_keep HDc.out hb1 HC1.out, cell_keep HDc.out hb1 HC2.out⟩)
              (first
              | (go_at_call 51; have tok := HDc; go_must (refine (known_n ss n m HN.out sa (some ⟨b, o, none⟩) sc cc x.rt.t false _ (H1.out _ (after HD0.out tok.out HD0.out.size)) HE.out).mono ?_); rintro e v ⟨rfl, hv⟩; have HDc := hid (after tok.out hv.out tok.out.size); clear tok hv))
            have hxx := cells_at (old_block HDc.out (Array.getElem?_eq_some_iff.1 HX0.out).1 HX0.out)
            obtain ⟨q2, hq2⟩ : ∃ q2, x.vs.length = q2 := ⟨_, rfl⟩
            have hq3 : q2 ≤ 9223372036854775807 := by rw [← hq2]; exact HVs.out.1
            rw [hq2] at HCv
            have HQ2 := hid hq2
            have HB := hid (after HD0.out HDc.out HD0.out.size)
            have HX := hid (old_block HDc.out (Array.getElem?_eq_some_iff.1 HX0.out).1 HX0.out)
            have HBb := hid (Nat.lt_of_lt_of_le hb1 HDc.out.size)
            have HD1 := hid (cell_keep HDc.out hb1 HCv.out)
            have HF0 := hid (HVs.out.later va_stays HDc.out)
            have d1 := HD1.out
            clear hq2 HD0 HDc HX0 HC1 HC2 HCv HVs hb1 hx
            go_wp2
            go_loopg [6] q2 (fun gk v6 wr2 => ∃ i : Nat, i ≤ q2 ∧ gk = q2 - i ∧ v6 = .int .i64 i ∧ Hid (Below w.heap.size w wr2) ∧ Hid (wr2.heap[w.heap.size]? = some (.cells #[.slice sa n sc, .slice (some ⟨b, o, none⟩) m cc] 25 (0, 0))) ∧ Hid (b < wr2.heap.size) ∧ Hid (wr2.cell? ⟨b, o + k * 8 + 2, none⟩ = some (.slice va q2 vc)) ∧ Hid (RowM 3 VaAt wr2 va x.vs) ∧ Hid (∀ i2 u, i2 < i → x.vs[i2]? = some u → badB ss u.t = false))
            case atStart => exact ⟨0, by omega, by omega, rfl, HB, HX, HBb, HD1, HF0, hid (fun i u h => absurd h (by omega))⟩
            case round =>
              clear HB HX HBb HD1 HF0 d1 hxx
              obtain ⟨i, hi, rfl, rfl, HB, HX, HBb, HD1, HF0, HAA⟩ := hrel
              have hx := cells_at HX.out
              have d1 := HD1.out
              by_cases hli : i < q2
              · have hli' : (i : Int) < (q2 : Int) := by omega
                obtain ⟨u, hu⟩ := get_some HQ2.out hli
                have HD0 := hid HB.out.drew
                have HDc := hid (Below.refl wr.drew.heap.size wr.drew)
                have hb1 : b < wr.drew.heap.size := HBb.out
                obtain ⟨b3, o3, rfl, hb3', hc3⟩ := HF0.out.2 i u hu
                have hb3 : b3 < wr.drew.heap.size := hb3'
                have HX0 : Hid (wr.drew.heap[w.heap.size]? = some (.cells #[.slice sa n sc, .slice (some ⟨b, o, none⟩) m cc] 25 (0, 0))) := hid HX.out
                have HC1 : Hid (wr.drew.cell? ⟨b, o + k * 8 + 2, none⟩ = some (.slice (some ⟨b3, o3, none⟩) q2 vc)) := hid HD1.out
                have HC2 : Hid (wr.drew.cell? ⟨b3, o3 + i * 3, none⟩ = some (.bool u.t.p)) := hid (hc3 0 _ rfl)
                have HC3 : Hid (wr.drew.cell? ⟨b3, o3 + i * 3 + 1, none⟩ = some (.string u.t.name)) := hid (hc3 1 _ rfl)
                have HFd := hid (HF0.out.later va_stays (below_drew1 wr))
                have hi0 : (0 : Int) ≤ (i : Int) := by omega
                have hi1 : (i : Int) ≤ (q2 : Int) := by omega
                have HU := hid hu
                clear hu hc3 hb3' HB HX HD1 HF0 HBb
                cases e : badB ss u.t
                case true =>
                  have hf : r = true := HR2.out.symm.trans (any_at (p := fun c => (tysC c).any (badB ss)) HXX.out (by
                    show (tysC x).any (badB ss) = true
                    exact List.any_eq_true.2 ⟨u.t, List.mem_cons_of_mem _ (List.mem_map.2 ⟨u, List.mem_of_getElem? HU.out, rfl⟩), e⟩))
                  subst hf
                  have HE := hid e
                  clear e
                  go_wp2
                  go_region_held3 (fun W => Hid (Below w.heap.size w W) ∧ (∀ i, W.cell? ⟨w.heap.size, i, none⟩ = (#[.slice sa n sc, .slice (some ⟨b, o, none⟩) m cc] : Array Value)[i]?) ∧ W.cell? ⟨b, o + k * 8 + 2, none⟩ = some (.slice (some ⟨b3, o3, none⟩) q2 vc) ∧ W.cell? ⟨b3, o3 + i * 3, none⟩ = some (.bool u.t.p) ∧ W.cell? ⟨b3, o3 + i * 3 + 1, none⟩ = some (.string u.t.name))
                    (first | exact ⟨hid (after HD0.out HDc.out HD0.out.size), cells_at (old_block HDc.out (Array.getElem?_eq_some_iff.1 HX0.out).1 HX0.out), cell_keep HDc.out hb1 HC1.out, cell_keep HDc.out hb3 HC2.out, cell_keep HDc.out hb3 HC3.out⟩)
                    (first
                    | (go_at_call 51; have tok := HDc; go_must (refine (known_n ss n m HN.out sa (some ⟨b, o, none⟩) sc cc u.t true _ (H1.out _ (after HD0.out tok.out HD0.out.size)) HE.out).mono ?_); rintro e v ⟨rfl, hv⟩; have HDc := hid (after tok.out hv.out tok.out.size); clear tok hv))
                  go_wp2
                  go_ret
                  exact ⟨rfl, hid (after HD0.out HDc.out HD0.out.size)⟩
                case false =>
                  have HE2 := HE
                  clear HE
                  have HE := hid e
                  clear e
                  go_wp2
                  go_region_held3 (fun W => Hid (Below w.heap.size w W) ∧ (∀ i, W.cell? ⟨w.heap.size, i, none⟩ = (#[.slice sa n sc, .slice (some ⟨b, o, none⟩) m cc] : Array Value)[i]?) ∧ W.cell? ⟨b, o + k * 8 + 2, none⟩ = some (.slice (some ⟨b3, o3, none⟩) q2 vc) ∧ W.cell? ⟨b3, o3 + i * 3, none⟩ = some (.bool u.t.p) ∧ W.cell? ⟨b3, o3 + i * 3 + 1, none⟩ = some (.string u.t.name))
                    (first | exact ⟨hid (after HD0.out HDc.out HD0.out.size), cells_at (old_block HDc.out (Array.getElem?_eq_some_iff.1 HX0.out).1 HX0.out), cell_keep HDc.out hb1 HC1.out, cell_keep HDc.out hb3 HC2.out, cell_keep HDc.out hb3 HC3.out⟩)
                    (first
                    | (go_at_call 51; have tok := HDc; go_must (refine (known_n ss n m HN.out sa (some ⟨b, o, none⟩) sc cc u.t false _ (H1.out _ (after HD0.out tok.out HD0.out.size)) HE.out).mono ?_); rintro e v ⟨rfl, hv⟩; have HDc := hid (after tok.out hv.out tok.out.size); clear tok hv))
                  go_wp2
                  go_roundg (q2 - (i + 1))
                  case measure => omega
                  case rel => exact ⟨i + 1, by omega, rfl, rfl, hid (after HD0.out HDc.out HD0.out.size), hid (old_block HDc.out (Array.getElem?_eq_some_iff.1 HX0.out).1 HX0.out), hid (Nat.lt_of_lt_of_le hb1 HDc.out.size), hid (cell_keep HDc.out hb1 HC1.out), hid (HFd.out.later va_stays HDc.out), hid (fun i2 u2 h1 h2 => by
                    by_cases hjj : i2 < i
                    · exact HAA.out i2 u2 hjj h2
                    · obtain rfl : i2 = i := by omega
                      rw [HU.out] at h2
                      cases h2
                      exact HE.out)⟩
              · have hli' : ¬ (i : Int) < (q2 : Int) := by omega
                have HFN : Hid ((tysC x).any (badB ss) = false) := hid (by
                  rw [List.any_eq_false]
                  intro t ht
                  rcases List.mem_cons.1 ht with rfl | ht
                  · rw [HE.out]; simp
                  obtain ⟨u, hu, rfl⟩ := List.mem_map.1 ht
                  obtain ⟨j, hj⟩ := List.getElem?_of_mem hu
                  rw [HAA.out j u (by have := (List.getElem?_eq_some_iff.1 hj).1; have := HQ2.out; omega) hj]
                  simp)
                go_wp2
                go_roundg (m - (k + 1))
                case measure => omega
                case rel => exact ⟨k + 1, by omega, rfl, rfl, HB, HX, hid (fun i x' hi h1 => by
                  by_cases hik : i < k
                  · exact HA.out i x' hik h1
                  · obtain rfl : i = k := by omega
                    rw [HXX.out] at h1
                    cases h1
                    exact HFN.out)⟩
        · have hlt' : ¬ (k : Int) < (m : Int) := by omega
          have hf : r = false := HR2.out.symm.trans (any_no (p := fun c => (tysC c).any (badB ss)) (fun i x hi h1 => HA.out i x (by have := HM.out; omega) h1))
          subst hf
          go_wp2
          go_ret
          exact ⟨rfl, HB⟩
end Go.Proofs.Ytfhdiahjfnphkaa
