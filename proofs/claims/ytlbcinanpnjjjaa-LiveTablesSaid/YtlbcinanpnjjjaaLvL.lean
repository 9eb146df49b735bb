/- LiveWays: by the rows alone. No conditions. -/
import Derived.Test.YtlbcinanpnjjjaaLvI
import Derived.Test.YtlbcinanpnjjjaaLvK
namespace Go.Proofs.Ytlbcinanpnjjjaa
open Go.RowKit Go.Maps
set_option linter.unusedVariables false
set_option linter.unusedSimpArgs false
theorem LT.cx {w W : World} {x : CoD} {va fa ia : Option Addr} {vc fc ic n nw P TA TB : Nat} {gA gB : Nat → Nat} {mA mB : Nat → Nat → Bool} {w0 : World} {cv : Array Value} (h : LT w x va fa ia vc fc ic n nw P TA TB gA gB mA mB W) (hc : CX w0 cv w) : CX w0 cv W := hc.later h.bel
/-- What is read by the first j. -/
def anyI (L : List Int) (j v : Nat) : Bool := (L.take j).any (fun y => y == (v : Int))
theorem anyI_zero (L : List Int) (v : Nat) : anyI L 0 v = false := by simp [anyI]
theorem anyI_next {L : List Int} {j v : Nat} {y : Int} (h : L[j]? = some y) : anyI L (j + 1) v = (anyI L j v || (y == (v : Int))) := by
  unfold anyI
  rw [List.take_add_one, h, List.any_append]
  simp
def anyN (L : List Nat) (f : Nat → Bool) (j : Nat) : Bool := (L.take j).any f
theorem anyN_zero (L : List Nat) (f : Nat → Bool) : anyN L f 0 = false := by simp [anyN]
theorem anyN_next {L : List Nat} {f : Nat → Bool} {j k : Nat} (h : L[j]? = some k) : anyN L f (j + 1) = (anyN L f j || f k) := by
  unfold anyN
  rw [List.take_add_one, h, List.any_append]
  simp
theorem tells_b {x : CoD} {n K i v : Nat} {mA mB : Nat → Nat → Bool} (h : TellsT x n K mA mB) (hn : n = x.ins.length) (hi : i < n) (hv : v < K) : mB i v = (nxE x i).any (fun j => mA j v) := by
  refine Bool.eq_iff_iff.2 ?_
  rw [(h i v hi hv).2, List.any_eq_true]
  constructor
  · rintro ⟨j, h1, h2⟩
    have := nxE_lt h1
    exact ⟨j, h1, (h j v (by omega) hv).1.2 h2⟩
  · rintro ⟨j, h1, h2⟩
    have := nxE_lt h1
    exact ⟨j, h1, (h j v (by omega) hv).1.1 h2⟩
theorem tells_a {x : CoD} {n K i v : Nat} {mA mB : Nat → Nat → Bool} (h : TellsT x n K mA mB) (hi : i < n) (hv : v < K) : mA i v = (rdV x i v || (mB i v && !wrV x i v)) := by
  refine Bool.eq_iff_iff.2 ?_
  rw [(h i v hi hv).1, ask_iff, Bool.or_eq_true, Bool.and_eq_true, (h i v hi hv).2, Bool.not_eq_true']
set_option maxRecDepth 100000 in
set_option maxHeartbeats 16000000 in
theorem ways_law (x : CoD) (va fa ia : Option Addr) (vc fc ic : Nat) (w : World) (hC : CoM w x va fa ia) :
    Calls Try.prog 4 #[.agg (CoV x va vc fa fc ia ic)] w fun e w' => e = .returned (.bool true) ∧ Hid (Below w.heap.size w w') := by
  have HX := hid (⟨below1 w (.cells (CoV x va vc fa fc ia ic) 30), heap_alloc_new w (.cells (CoV x va vc fa fc ia ic) 30)⟩ : CX w (CoV x va vc fa fc ia ic) (w.alloc (.cells (CoV x va vc fa fc ia ic) 30)))
  have HC := hid hC
  have hcn := HX.out.cn
  clear hC
  go_enter Try.func4, Try.ntmps4
  go_upto_region 3 with (go_at_call 6; go_must (refine (light_f x va fa ia vc fc ic _ (HC.out.later HX.out.bel)).mono ?_); rintro e w1 ⟨⟨l, rfl, hl⟩, hb⟩; have H1 := hid (HX.out.later hb.out); have HLt := hid hl; have hx1 := H1.out.cn; clear hb hl hcn)
  · go_wp2_with (go_at_call 7; refine (alive_f _).mono ?_; rintro e w3 ⟨rfl, hb⟩; have H3 := hid (H1.out.later hb.out); clear hb)
    go_ret
    exact ⟨rfl, hid H3.out.bel⟩
  · obtain rfl : l = true := by cases l <;> simp_all
    have hl := HLt.out rfl
    have HI150 := hid hl.1
    have HV80 := hid hl.2.1
    have HF := hid hl.2.2
    have HOF := hid (of_f x va fa ia vc fc ic w1 (by omega) (by omega) (HC.out.ins.later in_stays H1.out.bel) hl.2.2)
    clear HLt hl
    go_wp2_with (go_at_call 8; refine HOF.out.mono ?_; rintro e w2 ⟨P, TA, TB, gA, gB, mA, mB, rfl, hlt, htl⟩; have HX2 := hid (hlt.out.cx H1.out); have HT2 := hid (hlt.out.low H1.out.bel); have HTL := hid htl.out; clear hlt htl hx1)
    clear HOF H1
    obtain ⟨nw, hnw⟩ : ∃ nw, wordsN x.vs.length = nw := ⟨_, rfl⟩
    have HW : Hid (x.vs.length ≤ 64 * nw) := hid (hnw ▸ words_le _)
    have HNW : Hid (nw < 1000000) := hid (by rw [← hnw]; unfold wordsN; have := HV80.out; omega)
    rw [hnw] at HT2 HTL
    clear hnw
    go_loopg [4] x.ins.length (fun gk v4 wr => ∃ i : Nat, i ≤ x.ins.length ∧ gk = x.ins.length - i ∧ v4 = .int .i64 i ∧ Hid (CX w (CoV x va vc fa fc ia ic) wr) ∧ Hid (LT w x va fa ia vc fc ic x.ins.length nw P TA TB gA gB mA mB wr))
    case atStart => exact ⟨0, by omega, by omega, rfl, HX2, HT2⟩
    case round =>
      clear HX2 HT2
      obtain ⟨i, hi, rfl, rfl, HX, HT⟩ := hrel
      have hcn := HX.out.cn
      have n9 : x.ins.length ≤ 150 := HI150.out
      have v9 : x.vs.length ≤ 80 := HV80.out
      by_cases hin : i < x.ins.length
      · have hin' : (i : Int) < (x.ins.length : Int) := by omega
        have i0 : (0 : Int) ≤ (i : Int) := by omega
        obtain ⟨r, hr⟩ := get_some (l := x.ins) rfl hin
        have hC2 := HC.out.ins.later in_stays HX.out.bel
        have HNX := rnext8_g x i r va fa ia vc fc ic wr hr (by omega) hC2
        obtain ⟨bi, oi, rfl, hbi, ao, ac, mo, mc, hci, him⟩ := hC2.2 i r hr
        obtain ⟨E, hE⟩ : ∃ E, edgesL x i = E := ⟨_, rfl⟩
        obtain ⟨q, hq⟩ : ∃ q, E.length = q := ⟨_, rfl⟩
        have hq2 : q ≤ 2 := by rw [← hq, ← hE]; exact edges_few x i
        obtain ⟨L, hL⟩ : ∃ L, rdsF r = L := ⟨_, rfl⟩
        obtain ⟨m, hm⟩ : ∃ m, L.length = m := ⟨_, rfl⟩
        have hx40 := (HF.out r (List.mem_of_getElem? hr)).1
        have hm9 : m ≤ 40 := by
          rw [← hm, ← hL]
          unfold rdsF
          split
          · exact hx40
          · split <;> split <;> simp
        obtain ⟨bw, hbw⟩ : ∃ bw, wrB r.op = bw := ⟨_, rfl⟩
        have HNX2 : Hid (Calls Try.prog 13 #[.agg (CoV x va vc fa fc (some ⟨bi, oi, none⟩) ic), .int .i64 i] wr fun e w' => ∃ A c, e = .returned (.slice A q c) ∧ Hid (IntsM w' A E) ∧ Hid (Below wr.heap.size wr w')) := hid (HNX.mono fun e w' ⟨v, he, hi, ho, hb⟩ => by
          obtain ⟨A, c, hv, hA⟩ := hi.out
          rw [hE] at hv hA
          rw [hq] at hv
          exact ⟨A, c, by rw [he, hv], hid hA, hb⟩)
        have HRD : Hid (∀ W, Below wr.heap.size wr W → Calls Try.prog 14 #[.agg (InV r ao ac mo mc)] W fun e w' => ∃ A c, e = .returned (.slice A m c) ∧ Hid (IntsM w' A L) ∧ Hid (Below W.heap.size W w')) := hid (fun W hb => (rreads_g r ao mo ac mc W (him.later hb).xs hx40).mono fun e w' ⟨v, he, hi, ho, hb⟩ => by
          obtain ⟨A, c, hv, hA⟩ := hi.out
          rw [hL] at hv hA
          rw [hm] at hv
          exact ⟨A, c, by rw [he, hv], hid hA, hb⟩)
        obtain ⟨d, hd⟩ : ∃ d : Int, (if bw then r.d else 0) = d := ⟨_, rfl⟩
        have HWR := hid (fun W => rwrites_g r bw ao mo ac mc W hbw)
        rw [hd] at HWR
        have HBI := hid hbi
        have HCI := hid hci
        have HEL := hid hE
        have HQ := hid hq
        have HM := hid hm
        have HR : Hid (∀ v, rdV x i v = anyI L m v) := hid (fun v => by unfold rdV; simp only [hr, hL]; unfold anyI; rw [← hm, List.take_length])
        have HWV : Hid (∀ v : Nat, wrV x i v = (bw && (d == (v : Int)))) := hid (fun v => by
          unfold wrV
          simp only [hr, hbw]
          rw [← hd]
          cases bw <;> simp)
        have HIN := hid hin
        clear hr hm hq hE hL hbi hci him hx40 HNX hC2 hin hd hbw
        go_wp2_with (first
          | (go_at_call 13; refine HNX2.out.mono ?_; rintro e w5 ⟨A5, c5, rfl, hi5, hb5⟩; have HX5 := hid (HX.out.later hb5.out); have HT5 := hid (HT.out.later hb5.out); have HE5 := hid hi5.out; have HB5 := hid hb5.out; have hc5 := cells_stay hb5.out HBI.out HCI.out; have hcn5 := HX5.out.cn; have e0 : w5.cell? ⟨bi, oi + i * 13, none⟩ = some (.int .i64 r.op) := hc5 0 _ rfl; have e1 : w5.cell? ⟨bi, oi + i * 13 + 1, none⟩ = some (.int .i64 r.d) := hc5 1 _ rfl; have e2 : w5.cell? ⟨bi, oi + i * 13 + 2, none⟩ = some (.int .i64 r.a) := hc5 2 _ rfl; have e3 : w5.cell? ⟨bi, oi + i * 13 + 3, none⟩ = some (.int .i64 r.b) := hc5 3 _ rfl; have e4 : w5.cell? ⟨bi, oi + i * 13 + 4, none⟩ = some (.int .i64 r.f) := hc5 4 _ rfl; have e5 : w5.cell? ⟨bi, oi + i * 13 + 5, none⟩ = some (.int .i64 r.n) := hc5 5 _ rfl; have e6 : w5.cell? ⟨bi, oi + i * 13 + 6, none⟩ = some (.string r.sg) := hc5 6 _ rfl; have e7 : w5.cell? ⟨bi, oi + i * 13 + 7, none⟩ = some (.slice ao r.xs.length ac) := hc5 7 _ rfl; have e8 : w5.cell? ⟨bi, oi + i * 13 + 8, none⟩ = some (.slice mo r.ms.length mc) := hc5 8 _ rfl; have e9 : w5.cell? ⟨bi, oi + i * 13 + 9, none⟩ = some (.int .i64 r.tt) := hc5 9 _ rfl; have e10 : w5.cell? ⟨bi, oi + i * 13 + 10, none⟩ = some (.int .i64 r.el) := hc5 10 _ rfl; have e11 : w5.cell? ⟨bi, oi + i * 13 + 11, none⟩ = some (.int .i64 r.l) := hc5 11 _ rfl; have e12 : w5.cell? ⟨bi, oi + i * 13 + 12, none⟩ = some (.int .i64 r.c) := hc5 12 _ rfl; clear hi5 hb5 hc5 hcn)
          | (go_at_call 14; refine (HRD.out _ HB5.out).mono ?_; rintro e w6 ⟨A6, c6, rfl, hi6, hb6⟩; have HX6 := hid (HX5.out.later hb6.out); have HT6 := hid (HT5.out.later hb6.out); have HE6 := hid (HE5.out.later int_stays hb6.out); have HL6 := hid hi6.out; have hc6 := cells_stay (HB5.out.trans (hb6.out.mono HB5.out.size)) HBI.out HCI.out; have hcn6 := HX6.out.cn; have f0 : w6.cell? ⟨bi, oi + i * 13, none⟩ = some (.int .i64 r.op) := hc6 0 _ rfl; have f1 : w6.cell? ⟨bi, oi + i * 13 + 1, none⟩ = some (.int .i64 r.d) := hc6 1 _ rfl; have f2 : w6.cell? ⟨bi, oi + i * 13 + 2, none⟩ = some (.int .i64 r.a) := hc6 2 _ rfl; have f3 : w6.cell? ⟨bi, oi + i * 13 + 3, none⟩ = some (.int .i64 r.b) := hc6 3 _ rfl; have f4 : w6.cell? ⟨bi, oi + i * 13 + 4, none⟩ = some (.int .i64 r.f) := hc6 4 _ rfl; have f5 : w6.cell? ⟨bi, oi + i * 13 + 5, none⟩ = some (.int .i64 r.n) := hc6 5 _ rfl; have f6 : w6.cell? ⟨bi, oi + i * 13 + 6, none⟩ = some (.string r.sg) := hc6 6 _ rfl; have f7 : w6.cell? ⟨bi, oi + i * 13 + 7, none⟩ = some (.slice ao r.xs.length ac) := hc6 7 _ rfl; have f8 : w6.cell? ⟨bi, oi + i * 13 + 8, none⟩ = some (.slice mo r.ms.length mc) := hc6 8 _ rfl; have f9 : w6.cell? ⟨bi, oi + i * 13 + 9, none⟩ = some (.int .i64 r.tt) := hc6 9 _ rfl; have f10 : w6.cell? ⟨bi, oi + i * 13 + 10, none⟩ = some (.int .i64 r.el) := hc6 10 _ rfl; have f11 : w6.cell? ⟨bi, oi + i * 13 + 11, none⟩ = some (.int .i64 r.l) := hc6 11 _ rfl; have f12 : w6.cell? ⟨bi, oi + i * 13 + 12, none⟩ = some (.int .i64 r.c) := hc6 12 _ rfl; clear hi6 hb6 hc6 hcn5 e0 e1 e2 e3 e4 e5 e6 e7 e8 e9 e10 e11 e12)
          | (go_at_call 15; refine (HWR.out _).mono ?_; rintro e w7 ⟨rfl, hb7⟩; have HX7 := hid (HX6.out.later hb7.out); have HT7 := hid (HT6.out.later hb7.out); have HE7 := hid (HE6.out.later int_stays hb7.out); have HL7 := hid (HL6.out.later int_stays hb7.out); have hcn7 := HX7.out.cn; clear hb7 hcn6 f0 f1 f2 f3 f4 f5 f6 f7 f8 f9 f10 f11 f12))
        clear HX5 HX6 HT5 HT6 HE5 HE6 HL6 HB5 HNX2 HRD HWR HX HT
        have HAH : Hid (∀ j v : Nat, j < x.ins.length → v < x.vs.length → Calls Try.prog 11 #[.pointer (some ⟨P, 0, none⟩), .int .i64 j, .int .i64 v] w7 fun e w' => e = .returned (.bool (mA j v)) ∧ w' = w7) := hid (fun j v hj hv => ahead_f j v HT7.out hj hv HW.out HNW.out (by omega))
        have HBH : Hid (∀ j v : Nat, j < x.ins.length → v < x.vs.length → Calls Try.prog 12 #[.pointer (some ⟨P, 0, none⟩), .int .i64 j, .int .i64 v] w7 fun e w' => e = .returned (.bool (mB j v)) ∧ w' = w7) := hid (fun j v hj hv => behind_f j v HT7.out hj hv HW.out HNW.out (by omega))
        go_loopg [9] x.vs.length (fun gk v9 wi => ∃ v : Nat, v ≤ x.vs.length ∧ gk = x.vs.length - v ∧ v9 = .int .i64 v ∧ wi = w7)
        case atStart => exact ⟨0, by omega, by omega, rfl, rfl⟩
        case round =>
          obtain ⟨v, hv, rfl, rfl, rfl⟩ := hrel
          have v9 : x.vs.length ≤ 80 := HV80.out
          by_cases hvV : v < x.vs.length
          · have hvV' : (v : Int) < (x.vs.length : Int) := by omega
            have HVV := hid hvV
            go_wp2
            go_loopg [10, 11] q (fun gk v10 v11 wi => ∃ j : Nat, j ≤ q ∧ gk = q - j ∧ v10 = .bool (anyN (nxE x i) (fun k => mA k v) j) ∧ v11 = .int .i64 j ∧ wi = wr)
            case atStart => exact ⟨0, by omega, by omega, by rw [anyN_zero], rfl, rfl⟩
            case round =>
              obtain ⟨j, hj, rfl, rfl, rfl, rfl⟩ := hrel
              by_cases hjq : j < q
              · have hjq' : (j : Int) < (q : Int) := by omega
                have j0 : (0 : Int) ≤ (j : Int) := by omega
                obtain ⟨y, hy⟩ := get_some HQ.out hjq
                obtain ⟨k, rfl, hk, hnk⟩ := edges_get (x := x) (k := i) (i := j) (by rw [HEL.out]; exact hy)
                obtain ⟨b, o, rfl, hb1, hc1⟩ := HE7.out.2 j k hy
                simp only [IntAt, Nat.mul_one] at hc1
                have HNK := hid (anyN_next (f := fun k => mA k v) hnk)
                have HCA := hid (HAH.out k v hk HVV.out)
                obtain ⟨c, hc⟩ : ∃ c, anyN (nxE x i) (fun k => mA k v) j = c := ⟨_, rfl⟩
                rw [hc] at HNK ⊢
                clear hy hnk hb1 hc hk
                cases c
                · go_wp2_with (go_at_call 11; refine HCA.out.mono ?_; rintro e w' ⟨rfl, hw⟩; obtain rfl := hw.symm)
                  go_roundg (q - (j + 1))
                  case measure => omega
                  case rel => exact ⟨j + 1, by omega, rfl, by rw [HNK.out]; simp, rfl, rfl⟩
                · go_wp2
                  go_roundg (q - (j + 1))
                  case measure => omega
                  case rel => exact ⟨j + 1, by omega, rfl, by rw [HNK.out]; simp, rfl, rfl⟩
              · have hjq' : ¬ (j : Int) < (q : Int) := by omega
                obtain rfl : j = q := by omega
                have HSB : Hid (anyN (nxE x i) (fun k => mA k v) j = mB i v) := hid (by
                  rw [tells_b HTL.out rfl HIN.out (by have := HW.out; have := HVV.out; omega)]
                  unfold anyN
                  rw [List.take_of_length_le (by rw [nxE_len, HEL.out, HQ.out]; exact Nat.le_refl _)])
                rw [HSB.out]
                go_wp2
                go_loopg [12, 13] m (fun gk v12 v13 wi => ∃ t : Nat, t ≤ m ∧ gk = m - t ∧ v12 = .bool (anyI L t v) ∧ v13 = .int .i64 t ∧ wi = wr)
                case atStart => exact ⟨0, by omega, by omega, by rw [anyI_zero], rfl, rfl⟩
                case round =>
                  obtain ⟨t, ht, rfl, rfl, rfl, rfl⟩ := hrel
                  by_cases htm : t < m
                  · have htm' : (t : Int) < (m : Int) := by omega
                    have t0 : (0 : Int) ≤ (t : Int) := by omega
                    obtain ⟨y, hy⟩ := get_some HM.out htm
                    obtain ⟨b, o, rfl, hb1, hc1⟩ := HL7.out.2 t y hy
                    simp only [IntAt, Nat.mul_one] at hc1
                    have HNI := hid (anyI_next (v := v) hy)
                    obtain ⟨c, hc⟩ : ∃ c, anyI L t v = c := ⟨_, rfl⟩
                    rw [hc] at HNI ⊢
                    clear hy hb1 hc
                    cases c
                    · go_wp2
                      go_roundg (m - (t + 1))
                      case measure => omega
                      case rel => exact ⟨t + 1, by omega, rfl, by rw [HNI.out]; simp, rfl, rfl⟩
                    · go_wp2
                      go_roundg (m - (t + 1))
                      case measure => omega
                      case rel => exact ⟨t + 1, by omega, rfl, by rw [HNI.out]; simp, rfl, rfl⟩
                  · have htm' : ¬ (t : Int) < (m : Int) := by omega
                    obtain rfl : t = m := by omega
                    have HBI2 := hid (HBH.out i v HIN.out HVV.out)
                    have HAI2 := hid (HAH.out i v HIN.out HVV.out)
                    have HEA := hid (tells_a HTL.out HIN.out (v := v) (by have := HW.out; have := HVV.out; omega))
                    rw [HR.out, HWV.out] at HEA
                    obtain ⟨b, hb⟩ : ∃ b, mB i v = b := ⟨_, rfl⟩
                    obtain ⟨a, ha⟩ : ∃ a, mA i v = a := ⟨_, rfl⟩
                    obtain ⟨c, hc⟩ : ∃ c, anyI L t v = c := ⟨_, rfl⟩
                    obtain ⟨e, he⟩ : ∃ e, (d == (v : Int)) = e := ⟨_, rfl⟩
                    rw [hb, ha, hc, he] at HEA
                    rw [hb] at HBI2 ⊢
                    rw [ha] at HAI2
                    rw [hc]
                    have HE2 := HEA.out
                    clear hb ha hc HEA HSB
                    cases b <;> cases c <;> cases bw <;> cases e
                    all_goals
                      simp only [Bool.or_true, Bool.true_or, Bool.false_or, Bool.or_false, Bool.and_true, Bool.true_and, Bool.and_false, Bool.false_and, Bool.not_true, Bool.not_false] at HE2
                      subst HE2
                      go_wp2_with (first
                        | (go_at_call 12; with_reducible refine HBI2.out.mono ?_; rintro e w' ⟨rfl, hw⟩; obtain rfl := hw.symm)
                        | (go_at_call 11; with_reducible refine HAI2.out.mono ?_; rintro e w' ⟨rfl, hw⟩; obtain rfl := hw.symm))
                      go_roundg (x.vs.length - (v + 1))
                      case measure => omega
                      case rel => exact ⟨v + 1, by omega, rfl, rfl, rfl⟩
          · have hvV' : ¬ (v : Int) < (x.vs.length : Int) := by omega
            go_wp2
            go_roundg (x.ins.length - (i + 1))
            case measure => have := HIN.out; omega
            case rel => exact ⟨i + 1, by have := HIN.out; omega, rfl, rfl, HX7, HT7⟩
      · have hin' : ¬ (i : Int) < (x.ins.length : Int) := by omega
        obtain rfl : i = x.ins.length := by omega
        go_wp2_with (go_at_call 7; refine (alive_f _).mono ?_; rintro e w3 ⟨rfl, hb⟩; have H3 := hid (HX.out.later hb.out); clear hb)
        go_ret
        exact ⟨rfl, hid H3.out.bel⟩
end Go.Proofs.Ytlbcinanpnjjjaa
