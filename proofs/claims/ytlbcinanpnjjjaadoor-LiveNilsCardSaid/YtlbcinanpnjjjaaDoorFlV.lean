/- Light, and what it tells of arguments. No conditions. -/
import Derived.Test.YtlbcinanpnjjjaaDoorFlB
namespace Go.Proofs.YtlbcinanpnjjjaaDoor
open Go.RowKit Go.Maps
set_option linter.unusedVariables false
set_option linter.unusedSimpArgs false

/-- It tells a bool; is it true, no instruction has more than 40 arguments. -/
def LightR (cs : List CoD) (e : Ending) : Prop := ∃ l : Bool, e = .returned (.bool l) ∧ (l = true → ∀ c ∈ cs, ∀ r ∈ c.ins, r.xs.length ≤ 40)
set_option maxRecDepth 100000 in
set_option maxHeartbeats 8000000 in
theorem light_r (ss : List StD) (cs : List CoD) (sa ca : Option Addr) (sc cc : Nat) (w : World) (h1 : RowM 4 StAt w sa ss) (h2 : RowM 8 CoAt w ca cs) :
    Calls Tryd.prog 39 #[.agg #[.slice sa ss.length sc, .slice ca cs.length cc]] w fun e w' => LightR cs e ∧ Hid (Below w.heap.size w w') := by
  have hl1 := h1.1
  have hl2 := h2.1
  obtain ⟨sn, hsn⟩ : ∃ n : Nat, ss.length = n := ⟨_, rfl⟩
  obtain ⟨cn, hcn⟩ : ∃ n : Nat, cs.length = n := ⟨_, rfl⟩
  rw [hsn, hcn]
  rw [hsn] at hl1
  rw [hcn] at hl2
  have H1 := hid h1
  have H2 := hid h2
  have HSN := hid hsn
  have HCN := hid hcn
  have HM := hid (heap_alloc_new w (.cells #[.slice sa sn sc, .slice ca cn cc] 75))
  have HB0 := hid (below1 w (.cells #[.slice sa sn sc, .slice ca cn cc] 75))
  clear h1 h2 hsn hcn
  by_cases g1 : 40 < (sn : Int)
  · go_enter Tryd.func39, Tryd.ntmps39
    go_wp2
    go_ret
    exact ⟨⟨false, rfl, fun h => by cases h⟩, HB0⟩
  by_cases g2 : 70 < (cn : Int)
  · go_enter Tryd.func39, Tryd.ntmps39
    go_wp2
    go_ret
    exact ⟨⟨false, rfl, fun h => by cases h⟩, HB0⟩
  go_enter Tryd.func39, Tryd.ntmps39
  go_wp2
  obtain ⟨W1, hW1⟩ : ∃ W1, w.alloc (.cells #[.slice sa sn sc, .slice ca cn cc] 75) = W1 := ⟨_, rfl⟩
  rw [hW1] at HM HB0 ⊢
  clear hW1
  go_loopg [4] sn (fun gk v4 wr => ∃ k : Nat, k ≤ sn ∧ gk = sn - k ∧ v4 = .int .i64 k ∧ wr = W1)
  case atStart => exact ⟨0, by omega, by omega, rfl, rfl⟩
  case round =>
    obtain ⟨k, hk, rfl, rfl, rfl⟩ := hrel
    have hm := cells_at HM.out
    by_cases hlt : k < sn
    · have hlt' : (k : Int) < (sn : Int) := by omega
      obtain ⟨x, hx⟩ := get_some HSN.out hlt
      obtain ⟨b, o, rfl, hb1, fa, fc, hc1, -⟩ := (H1.out.later st_stays HB0.out).2 k x hx
      have d0 := hc1 0 _ rfl
      have d1 := hc1 1 _ rfl
      simp only [Nat.add_zero] at d0
      clear hx hc1
      by_cases g3 : 40 < (x.fs.length : Int)
      · go_wp2
        go_ret
        exact ⟨⟨false, rfl, fun h => by cases h⟩, HB0⟩
      by_cases g4 : 60 < (x.nm.size : Int)
      · go_wp2
        go_ret
        exact ⟨⟨false, rfl, fun h => by cases h⟩, HB0⟩
      go_wp2
      go_roundg (sn - (k + 1))
      case measure => omega
      case rel => exact ⟨k + 1, by omega, rfl, rfl, rfl⟩
    · have hlt' : ¬ (k : Int) < (sn : Int) := by omega
      go_wp2
      go_loopg [3, 5] cn (fun gk v3 v5 wr2 => ∃ i t : Nat, i ≤ cn ∧ gk = cn - i ∧ t ≤ 1200 ∧ v3 = .int .i64 t ∧ v5 = .int .i64 i ∧ Hid (Below w.heap.size w wr2) ∧ Hid (wr2.heap[w.heap.size]? = some (.cells #[.slice sa sn sc, .slice ca cn cc] 75 (0, 0))) ∧ Hid (∀ (j : Nat) c, j < i → cs[j]? = some c → ∀ r ∈ c.ins, r.xs.length ≤ 40))
      case atStart => exact ⟨0, 0, by omega, by omega, by omega, rfl, rfl, HB0, HM, hid (fun j c hj => absurd hj (by omega))⟩
      case round =>
        obtain ⟨i, t, hi, rfl, ht, rfl, rfl, HB2, HM2, HQ2⟩ := hrel
        clear HM HB0 hm
        have hm2 := cells_at HM2.out
        by_cases hli : i < cn
        · have hli' : (i : Int) < (cn : Int) := by omega
          obtain ⟨x, hx⟩ := get_some HCN.out hli
          obtain ⟨b, o, rfl, hb1, va, vc, fa, fc, ia, ic, hc1, hcm⟩ := (H2.out.later co_stays HB2.out).2 i x hx
          have d0 := hc1 0 _ rfl
          have d1 := hc1 1 _ rfl
          have d2 := hc1 2 _ rfl
          have d3 := hc1 3 _ rfl
          have d4 := hc1 4 _ rfl
          have d5 := hc1 5 _ rfl
          have d6 := hc1 6 _ rfl
          have d7 := hc1 7 _ rfl
          simp only [Nat.add_zero] at d0
          have hq := hcm.ins.1
          have HXX := hid hx
          have HB3 := hid (after HB2.out (below1 wr (.cells (CoV x va vc fa fc ia ic) 30)) HB2.out.size)
          have HC := hid (heap_alloc_new wr (.cells (CoV x va vc fa fc ia ic) 30))
          have HCM := hid (hcm.ins.later in_stays (below1 wr (.cells (CoV x va vc fa fc ia ic) 30)))
          have hc := fun i => cells_at HC.out i
          clear hx hc1 hcm
          by_cases g3 : 400 < (x.ins.length : Int)
          · go_wp2
            go_ret
            exact ⟨⟨false, rfl, fun h => by cases h⟩, HB3⟩
          by_cases g4 : 400 < (x.vs.length : Int)
          · go_wp2
            go_ret
            exact ⟨⟨false, rfl, fun h => by cases h⟩, HB3⟩
          by_cases g5 : 60 < (x.nm.size : Int)
          · go_wp2
            go_ret
            exact ⟨⟨false, rfl, fun h => by cases h⟩, HB3⟩
          by_cases g6 : 40 < (x.fr.length : Int)
          · go_wp2
            go_ret
            exact ⟨⟨false, rfl, fun h => by cases h⟩, HB3⟩
          by_cases g7 : 1200 < (t : Int) + (x.ins.length : Int) + (x.vs.length : Int)
          · go_wp2
            go_ret
            exact ⟨⟨false, rfl, fun h => by cases h⟩, HB3⟩
          go_wp2
          have HM3 := hid (old_block (below1 wr (.cells (CoV x va vc fa fc ia ic) 30)) (Array.getElem?_eq_some_iff.1 HM2.out).1 HM2.out)
          obtain ⟨W2, hW2⟩ : ∃ W2, wr.alloc (.cells (CoV x va vc fa fc ia ic) 30) = W2 := ⟨_, rfl⟩
          obtain ⟨C, hC⟩ : ∃ C, wr.heap.size = C := ⟨_, rfl⟩
          obtain ⟨t2, ht2⟩ : ∃ t2 : Int, (t : Int) + (x.ins.length : Int) + (x.vs.length : Int) = t2 := ⟨_, rfl⟩
          rw [hW2] at hc HB3 HC HM3 HCM ⊢
          rw [hC] at hc HC ⊢
          obtain ⟨n, hn⟩ : ∃ n : Nat, x.ins.length = n := ⟨_, rfl⟩
          have HNN := hid hn
          have ht3 : 0 ≤ t2 ∧ t2 ≤ 1200 := by omega
          rw [ht2]
          clear hW2 hC hm2 hc g3 g4 g5 g6 g7 ht2 d0 d1 d2 d3 d4 d5 d6 d7
          rw [hn] at hq
          clear hn
          go_loopg [7] n (fun gk v7 wr3 => ∃ k : Nat, k ≤ n ∧ gk = n - k ∧ v7 = .int .i64 k ∧ Hid (Below w.heap.size w wr3) ∧ Hid (wr3 = W2) ∧ Hid (∀ (j : Nat) r, j < k → x.ins[j]? = some r → r.xs.length ≤ 40))
          case atStart => exact ⟨0, by omega, by omega, rfl, HB3, hid rfl, hid (fun j r hj => absurd hj (by omega))⟩
          case round =>
            obtain ⟨k, hkn, rfl, rfl, HB4, HE, HQ4⟩ := hrel
            obtain rfl := HE.out
            have hc4 := fun i => cells_at HC.out i
            by_cases hlt : k < n
            · have hlt' : (k : Int) < (x.ins.length : Int) := by rw [HNN.out]; omega
              obtain ⟨r, hr⟩ := get_some HNN.out hlt
              obtain ⟨b, o, rfl, hb1, ao, ac, mo, mc, hi, -⟩ := HCM.out.2 k r hr
              have e6 := hi 6 _ rfl
              have e7 := hi 7 _ rfl
              have e8 := hi 8 _ rfl
              have HRR := hid hr
              clear hi hr
              by_cases g1 : 40 < (r.xs.length : Int)
              · go_wp2
                go_ret
                exact ⟨⟨false, rfl, fun h => by cases h⟩, HB4⟩
              by_cases g2 : 40 < (r.ms.length : Int)
              · go_wp2
                go_ret
                exact ⟨⟨false, rfl, fun h => by cases h⟩, HB4⟩
              by_cases g3 : 20 < (r.sg.size : Int)
              · go_wp2
                go_ret
                exact ⟨⟨false, rfl, fun h => by cases h⟩, HB4⟩
              go_wp2
              go_roundg (n - (k + 1))
              case measure => omega
              case rel => exact ⟨k + 1, by omega, rfl, rfl, HB4, hid rfl, hid (fun j r' hj h => by
                by_cases hjk : j < k
                · exact HQ4.out j r' hjk h
                · obtain rfl : j = k := by omega
                  rw [HRR.out] at h
                  cases h
                  omega)⟩
            · have hlt' : ¬ (k : Int) < (x.ins.length : Int) := by rw [HNN.out]; omega
              go_wp2
              go_roundg (cn - (i + 1))
              case measure => omega
              case rel => exact ⟨i + 1, t2.toNat, by omega, rfl, by omega, by rw [Int.toNat_of_nonneg ht3.1], rfl, HB4, HM3, hid (fun j c hj h => by
                by_cases hji : j < i
                · exact HQ2.out j c hji h
                · obtain rfl : j = i := by omega
                  rw [HXX.out] at h
                  cases h
                  intro r hr
                  obtain ⟨q, hq, hq2⟩ := List.mem_iff_getElem.1 hr
                  exact HQ4.out q r (by have := HNN.out; omega) (by rw [← hq2]; exact List.getElem?_eq_getElem hq))⟩
        · have hli' : ¬ (i : Int) < (cn : Int) := by omega
          go_wp2
          go_ret
          exact ⟨⟨true, rfl, fun _ c hc r hr => by
            obtain ⟨q, hq, hq2⟩ := List.mem_iff_getElem.1 hc
            exact HQ2.out q c (by have := HCN.out; omega) (by rw [← hq2]; exact List.getElem?_eq_getElem hq) r hr⟩, HB2⟩
end Go.Proofs.YtlbcinanpnjjjaaDoor
