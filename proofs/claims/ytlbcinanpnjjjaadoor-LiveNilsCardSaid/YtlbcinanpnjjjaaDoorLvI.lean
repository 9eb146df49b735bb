/- Is a code short, and are its numbers those of variables? No conditions. -/
import Derived.Test.YtlbcinanpnjjjaaDoorFlW
import Derived.Test.YtlbcinanpnjjjaaDoorLvH
namespace Go.Proofs.YtlbcinanpnjjjaaDoor
open Go.RowKit Go.Maps
set_option linter.unusedVariables false
set_option linter.unusedSimpArgs false
theorem own_slice {W : World} {base n e size : Nat} {v : Value} {xs : List Value} (h : W.ownsRow base e size v n xs) : ∃ A c, v = .slice A n c := by
  rcases h.2 with ⟨rfl, rfl⟩ | ⟨g, cap, cur, rfl, -⟩ <;> exact ⟨_, _, rfl⟩
/-- It tells a bool; is it true, all is small and fits. -/
def LightP (x : CoD) (e : Ending) : Prop := ∃ l : Bool, e = .returned (.bool l) ∧ (l = true → x.ins.length ≤ 150 ∧ x.vs.length ≤ 80 ∧ Fits x)
theorem lightp_no {x : CoD} : LightP x (.returned (.bool false)) := ⟨false, rfl, fun h => by cases h⟩
/-- What is looked at: what is read, and what is written. -/
def looks (r : InD) : List Int := rdsF r ++ (if wrB r.op then [r.d] else [])
set_option maxRecDepth 100000 in
set_option maxHeartbeats 8000000 in
theorem light_f (x : CoD) (va fa ia : Option Addr) (vc fc ic : Nat) (w : World) (hC : CoM w x va fa ia) :
    Calls Tryd.prog 6 #[.agg (CoV x va vc fa fc ia ic)] w fun e w' => LightP x e ∧ Hid (Below w.heap.size w w') := by
  have HX := hid (⟨below1 w (.cells (CoV x va vc fa fc ia ic) 30), heap_alloc_new w (.cells (CoV x va vc fa fc ia ic) 30)⟩ : CX w (CoV x va vc fa fc ia ic) (w.alloc (.cells (CoV x va vc fa fc ia ic) 30)))
  have HC := hid hC
  have hcn := HX.out.cn
  clear hC
  by_cases g1 : 80 < (x.vs.length : Int)
  · go_enter Tryd.func6, Tryd.ntmps6
    go_wp2
    go_ret
    exact ⟨lightp_no, hid HX.out.bel⟩
  · have HV80 : Hid (x.vs.length ≤ 80) := hid (by omega)
    have HL8 := hid (light8 x va fa ia vc fc ic _ (HC.out.later HX.out.bel))
    go_enter Tryd.func6, Tryd.ntmps6
    go_upto_region 3 with (go_at_call 19; go_must (refine HL8.out.mono ?_); rintro e w1 ⟨⟨l, rfl, hl⟩, hb⟩; have H1 := hid (HX.out.later hb.out); have HLt := hid hl; have hx1 := H1.out.cn; clear hb hl hcn)
    · go_ret
      exact ⟨lightp_no, hid H1.out.bel⟩
    · obtain rfl : l = true := by cases l <;> simp_all
      have hl := HLt.out rfl
      have HI150 := hid hl.1
      have H40 := hid hl.2
      have HQ0 : Hid (∀ (a : Nat) (r : InD), a < 0 → x.ins[a]? = some r → ∀ y ∈ looks r, inN x.vs.length y = true) := hid (fun a r h => absurd h (by omega))
      obtain ⟨i0t, hti, hz0, hz1, hz2⟩ := info_parts info3
      clear hx1 HLt hl
      go_wp2
      go_loopg [3] x.ins.length (fun gk v3 wr => ∃ i : Nat, i ≤ x.ins.length ∧ gk = x.ins.length - i ∧ v3 = .int .i64 i ∧ Hid (CX w (CoV x va vc fa fc ia ic) wr) ∧ Hid (∀ (a : Nat) (r : InD), a < i → x.ins[a]? = some r → ∀ y ∈ looks r, inN x.vs.length y = true))
      case atStart => exact ⟨0, by omega, by omega, rfl, H1, HQ0⟩
      case round =>
        clear H1 HQ0
        obtain ⟨i, hi, rfl, rfl, HX, HQ⟩ := hrel
        have hcn := HX.out.cn
        have n9 : x.ins.length ≤ 150 := HI150.out
        by_cases hin : i < x.ins.length
        · have hin' : (i : Int) < (x.ins.length : Int) := by omega
          have i0 : (0 : Int) ≤ (i : Int) := by omega
          obtain ⟨r, hr⟩ := get_some (l := x.ins) rfl hin
          obtain ⟨bi, oi, rfl, hbi, ao, ac, mo, mc, hci, him⟩ := (HC.out.ins.later in_stays HX.out.bel).2 i r hr
          have d0 : wr.cell? ⟨bi, oi + i * 13, none⟩ = some (.int .i64 r.op) := hci 0 _ rfl
          have d1 : wr.cell? ⟨bi, oi + i * 13 + 1, none⟩ = some (.int .i64 r.d) := hci 1 _ rfl
          have d2 : wr.cell? ⟨bi, oi + i * 13 + 2, none⟩ = some (.int .i64 r.a) := hci 2 _ rfl
          have d3 : wr.cell? ⟨bi, oi + i * 13 + 3, none⟩ = some (.int .i64 r.b) := hci 3 _ rfl
          have d4 : wr.cell? ⟨bi, oi + i * 13 + 4, none⟩ = some (.int .i64 r.f) := hci 4 _ rfl
          have d5 : wr.cell? ⟨bi, oi + i * 13 + 5, none⟩ = some (.int .i64 r.n) := hci 5 _ rfl
          have d6 : wr.cell? ⟨bi, oi + i * 13 + 6, none⟩ = some (.string r.sg) := hci 6 _ rfl
          have d7 : wr.cell? ⟨bi, oi + i * 13 + 7, none⟩ = some (.slice ao r.xs.length ac) := hci 7 _ rfl
          have d8 : wr.cell? ⟨bi, oi + i * 13 + 8, none⟩ = some (.slice mo r.ms.length mc) := hci 8 _ rfl
          have d9 : wr.cell? ⟨bi, oi + i * 13 + 9, none⟩ = some (.int .i64 r.tt) := hci 9 _ rfl
          have d10 : wr.cell? ⟨bi, oi + i * 13 + 10, none⟩ = some (.int .i64 r.el) := hci 10 _ rfl
          have d11 : wr.cell? ⟨bi, oi + i * 13 + 11, none⟩ = some (.int .i64 r.l) := hci 11 _ rfl
          have d12 : wr.cell? ⟨bi, oi + i * 13 + 12, none⟩ = some (.int .i64 r.c) := hci 12 _ rfl
          obtain ⟨L, hL⟩ : ∃ L, rdsF r = L := ⟨_, rfl⟩
          obtain ⟨m, hm⟩ : ∃ m, L.length = m := ⟨_, rfl⟩
          have hx40 := H40.out r (List.mem_of_getElem? hr)
          have hm9 : m ≤ 40 := by
            rw [← hm, ← hL]
            unfold rdsF
            split
            · exact hx40
            · split <;> split <;> simp
          obtain ⟨bw, hbw⟩ : ∃ bw, wrB r.op = bw := ⟨_, rfl⟩
          have HRD := hid (rreads_g r ao mo ac mc wr him.xs hx40)
          have HWR := hid (fun W => rwrites_g r bw ao mo ac mc W hbw)
          have HBI := hid hbi
          have HCI := hid hci
          have HLK : Hid (looks r = L ++ (if bw then [r.d] else [])) := hid (by unfold looks; rw [hL, hbw])
          have HR := hid hr
          have HM := hid hm
          rw [hL] at HRD
          have HOE : Hid (∀ (W : World) (B : Nat) (v : Value), OwnInts W B v L → W.ownsRow B 3 1 v m (L.map (Value.int .i64))) := hid (fun W B v h => by rw [← hm]; exact h)
          have HRM : Hid (Calls Tryd.prog 20 #[.agg (InV r ao ac mo mc)] wr fun e w' => ∃ A c, e = .returned (.slice A m c) ∧ Hid (w'.ownsRow wr.heap.size 3 1 (.slice A m c) m (L.map (Value.int .i64))) ∧ Hid (Below wr.heap.size wr w')) := hid (HRD.out.mono fun e w' ⟨v, he, hi, ho, hb⟩ => by
            have h := HOE.out _ _ _ ho.out
            obtain ⟨A, c, rfl⟩ := own_slice h
            exact ⟨A, c, he, hid h, hb⟩)
          clear hr hm hL hbi hci him hx40 HRD HOE hbw
          cases bw
          · simp only [Bool.false_eq_true, if_false, List.append_nil] at HLK HWR
            go_wp2_with (first
              | (go_at_call 20; refine HRM.out.mono ?_; rintro e w5 ⟨A5, c5, rfl, ho5, hb5⟩; have HX5 := hid (HX.out.later hb5.out); have HO5 := hid ho5.out; have hc5 := cells_stay hb5.out HBI.out HCI.out; have hcn5 := HX5.out.cn; have e0 : w5.cell? ⟨bi, oi + i * 13, none⟩ = some (.int .i64 r.op) := hc5 0 _ rfl; have e1 : w5.cell? ⟨bi, oi + i * 13 + 1, none⟩ = some (.int .i64 r.d) := hc5 1 _ rfl; have e2 : w5.cell? ⟨bi, oi + i * 13 + 2, none⟩ = some (.int .i64 r.a) := hc5 2 _ rfl; have e3 : w5.cell? ⟨bi, oi + i * 13 + 3, none⟩ = some (.int .i64 r.b) := hc5 3 _ rfl; have e4 : w5.cell? ⟨bi, oi + i * 13 + 4, none⟩ = some (.int .i64 r.f) := hc5 4 _ rfl; have e5 : w5.cell? ⟨bi, oi + i * 13 + 5, none⟩ = some (.int .i64 r.n) := hc5 5 _ rfl; have e6 : w5.cell? ⟨bi, oi + i * 13 + 6, none⟩ = some (.string r.sg) := hc5 6 _ rfl; have e7 : w5.cell? ⟨bi, oi + i * 13 + 7, none⟩ = some (.slice ao r.xs.length ac) := hc5 7 _ rfl; have e8 : w5.cell? ⟨bi, oi + i * 13 + 8, none⟩ = some (.slice mo r.ms.length mc) := hc5 8 _ rfl; have e9 : w5.cell? ⟨bi, oi + i * 13 + 9, none⟩ = some (.int .i64 r.tt) := hc5 9 _ rfl; have e10 : w5.cell? ⟨bi, oi + i * 13 + 10, none⟩ = some (.int .i64 r.el) := hc5 10 _ rfl; have e11 : w5.cell? ⟨bi, oi + i * 13 + 11, none⟩ = some (.int .i64 r.l) := hc5 11 _ rfl; have e12 : w5.cell? ⟨bi, oi + i * 13 + 12, none⟩ = some (.int .i64 r.c) := hc5 12 _ rfl; clear ho5 hb5 hc5 hcn d0 d1 d2 d3 d4 d5 d6 d7 d8 d9 d10 d11 d12)
              | (go_at_call 21; refine (HWR.out _).mono ?_; rintro e w6 ⟨rfl, hb6⟩; have HX6 := hid (HX5.out.later hb6.out); have hcn6 := HX6.out.cn; have HO6 := hid (row_at HO5.out (fun g q => hb6.out.block g (row_lt HO5.out q).2)); clear hb6 hcn5 HO5 HX5 e0 e1 e2 e3 e4 e5 e6 e7 e8 e9 e10 e11 e12))
            have HIM : Hid (IntsM _ A5 (L)) := hid (by
              obtain ⟨A', c', hv, hA⟩ := ints_owns (xs := L) (by simpa using HO6.out) (by rw [HM.out]; omega)
              injection hv with e1 e2 e3
              rw [e1]; exact hA)
            have HLN : Hid ((L).length = m) := hid (HM.out)
            have HQ1 : Hid (∀ (b : Nat) (y : Int), b < 0 → (L)[b]? = some y → inN x.vs.length y = true) := hid (fun b y h => absurd h (by omega))
            obtain ⟨LL, hLL⟩ : ∃ LL, L = LL := ⟨_, rfl⟩
            rw [hLL] at HLK HIM HLN HQ1
            clear HO6 hLL
            go_loopg [7] m (fun gk v7 wi => ∃ j : Nat, j ≤ m ∧ gk = m - j ∧ v7 = .int .i64 j ∧ Hid (CX w (CoV x va vc fa fc (some ⟨bi, oi, none⟩) ic) wi) ∧ Hid (IntsM wi A5 LL) ∧ Hid (∀ (b : Nat) (y : Int), b < j → LL[b]? = some y → inN x.vs.length y = true))
            case atStart => exact ⟨0, by omega, by omega, rfl, HX6, HIM, HQ1⟩
            case round =>
              clear HIM HQ1 HX6
              obtain ⟨j, hj, rfl, rfl, HX, HA, HQ1⟩ := hrel
              have hcn := HX.out.cn
              have hv80 := HV80.out
              by_cases hjm : j < m
              · have hjm' : (j : Int) < (m : Int) := by omega
                have j0 : (0 : Int) ≤ (j : Int) := by omega
                obtain ⟨y, hy⟩ := get_some HLN.out hjm
                obtain ⟨b, o, rfl, hb1, hc1⟩ := HA.out.2 j y hy
                simp only [IntAt, Nat.mul_one] at hc1
                have HY := hid hy
                clear hy hb1
                by_cases e1 : y < 0
                · have e1' : ¬ (0 : Int) ≤ y := by omega
                  obtain ⟨j, rfl⟩ : ∃ j : Nat, y = Int.negSucc j := neg_form e1
                  go_wp2
                  go_quiet (fail)
                  go_wp2
                  go_ret
                  exact ⟨lightp_no, hid (below_drewN HX.out.bel _)⟩
                by_cases e2 : (x.vs.length : Int) ≤ y
                · have e2' : ¬ y < (x.vs.length : Int) := by omega
                  go_wp2
                  go_quiet (fail)
                  go_wp2
                  go_ret
                  exact ⟨lightp_no, hid (below_drewN HX.out.bel _)⟩
                · have HIY := hid (inN_t e1 e2)
                  go_wp2
                  go_quiet (fail)
                  go_wp2
                  go_roundg (m - (j + 1))
                  case measure => omega
                  case rel => exact ⟨j + 1, by omega, rfl, rfl, hid (HX.out.later (below_drewN (Below.refl _ _) _)), hid (HA.out.later int_stays (below_drewN (Below.refl _ _) _)), hid (fun b' y' hb' h' => by
                    by_cases hbj : b' < j
                    · exact HQ1.out b' y' hbj h'
                    · obtain rfl : b' = j := by omega
                      rw [HY.out] at h'
                      cases h'
                      exact HIY.out)⟩
              · have hjm' : ¬ (j : Int) < (m : Int) := by omega
                have HQ2 : Hid (∀ (a : Nat) (r : InD), a < i + 1 → x.ins[a]? = some r → ∀ y ∈ looks r, inN x.vs.length y = true) := hid (fun a r' ha hr' y hy => by
                  by_cases hai : a < i
                  · exact HQ.out a r' hai hr' y hy
                  · obtain rfl : a = i := by omega
                    rw [HR.out] at hr'
                    cases hr'
                    rw [HLK.out] at hy
                    obtain ⟨b, hb, rfl⟩ := List.mem_iff_getElem.1 hy
                    exact HQ1.out b _ (by have := HLN.out; omega) (List.getElem?_eq_getElem hb))
                go_wp2
                go_roundg (x.ins.length - (i + 1))
                case measure => omega
                case rel => exact ⟨i + 1, by omega, rfl, rfl, HX, HQ2⟩
          · simp only [if_true] at HLK HWR
            go_wp2_with (first
              | (go_at_call 20; refine HRM.out.mono ?_; rintro e w5 ⟨A5, c5, rfl, ho5, hb5⟩; have HX5 := hid (HX.out.later hb5.out); have HO5 := hid ho5.out; have HB5 := hid (HX.out.bel.size); have HS5 := hid hb5.out.size; have hc5 := cells_stay hb5.out HBI.out HCI.out; have hcn5 := HX5.out.cn; have e0 : w5.cell? ⟨bi, oi + i * 13, none⟩ = some (.int .i64 r.op) := hc5 0 _ rfl; have e1 : w5.cell? ⟨bi, oi + i * 13 + 1, none⟩ = some (.int .i64 r.d) := hc5 1 _ rfl; have e2 : w5.cell? ⟨bi, oi + i * 13 + 2, none⟩ = some (.int .i64 r.a) := hc5 2 _ rfl; have e3 : w5.cell? ⟨bi, oi + i * 13 + 3, none⟩ = some (.int .i64 r.b) := hc5 3 _ rfl; have e4 : w5.cell? ⟨bi, oi + i * 13 + 4, none⟩ = some (.int .i64 r.f) := hc5 4 _ rfl; have e5 : w5.cell? ⟨bi, oi + i * 13 + 5, none⟩ = some (.int .i64 r.n) := hc5 5 _ rfl; have e6 : w5.cell? ⟨bi, oi + i * 13 + 6, none⟩ = some (.string r.sg) := hc5 6 _ rfl; have e7 : w5.cell? ⟨bi, oi + i * 13 + 7, none⟩ = some (.slice ao r.xs.length ac) := hc5 7 _ rfl; have e8 : w5.cell? ⟨bi, oi + i * 13 + 8, none⟩ = some (.slice mo r.ms.length mc) := hc5 8 _ rfl; have e9 : w5.cell? ⟨bi, oi + i * 13 + 9, none⟩ = some (.int .i64 r.tt) := hc5 9 _ rfl; have e10 : w5.cell? ⟨bi, oi + i * 13 + 10, none⟩ = some (.int .i64 r.el) := hc5 10 _ rfl; have e11 : w5.cell? ⟨bi, oi + i * 13 + 11, none⟩ = some (.int .i64 r.l) := hc5 11 _ rfl; have e12 : w5.cell? ⟨bi, oi + i * 13 + 12, none⟩ = some (.int .i64 r.c) := hc5 12 _ rfl; clear ho5 hb5 hc5 hcn d0 d1 d2 d3 d4 d5 d6 d7 d8 d9 d10 d11 d12)
              | (go_at_call 21; refine (HWR.out _).mono ?_; rintro e w6 ⟨rfl, hb6⟩; have HX6 := hid (HX5.out.later hb6.out); have HO6 := hid (row_at HO5.out (fun g q => hb6.out.block g (row_lt HO5.out q).2)); have HS6 := hid (Nat.le_trans HS5.out hb6.out.size); clear hb6 hcn5 HO5 HX5 e0 e1 e2 e3 e4 e5 e6 e7 e8 e9 e10 e11 e12)
              | (at_builtin; go_must (refine wpList_append_own_at _ rfl _ _ 27 rfl wr.heap.size 3 i0t (.int .i64 0) 1 8 Tryd.underlying27 hti hz0 hz1 hz2 rfl (by decide) _ m (L.map (Value.int .i64)) rfl (HO6.out.alloc _) ⟨w6.heap.size, 0, none⟩ 1 1 [.int .i64 r.d] rfl rfl (one_at _ _ _ rfl) (by intro u hu; simp at hu; subst hu; rfl) (by unfold maxLen; omega) (by omega) (by have := HS6.out; simp; omega) ?_); intro v9 w9 hown9 hgrow9 hnil9 hblk9
                 obtain ⟨A9, c9, rfl⟩ := own_slice hown9
                 obtain ⟨q, hq⟩ : ∃ q, m + 1 = q := ⟨_, rfl⟩
                 have HQL : Hid ((L ++ [r.d]).length = q) := hid (by rw [List.length_append, HM.out]; exact hq)
                 have hq9 : q ≤ 41 := by omega
                 rw [hq] at hown9 ⊢
                 have HO9 := hid hown9
                 clear hq
                 have HX9 : Hid (CX w (CoV x va vc fa fc (some ⟨bi, oi, none⟩) ic) w9) := hid (by
                   have h6 := HX6.out.later (below1 w6 (.cells #[.int .i64 r.d] 3))
                   have hlo : ∀ k, (Value.slice A5 m c5).ownBlock = some k → wr.heap.size ≤ k := fun k q => (row_lt HO6.out q).1
                   have hlw := HB5.out
                   have hX := HX.out.box
                   have hXl := (Array.getElem?_eq_some_iff.1 hX).1
                   exact ⟨h6.bel.grown hgrow9 h6.bel.size (fun k q => Nat.le_trans hlw (hlo k q)), (hgrow9.block _ (Array.getElem?_eq_some_iff.1 h6.box).1 (fun q => by have := hlo _ q.symm; omega)).trans h6.box⟩)
                 have hcn9 := HX9.out.cn
                 clear hown9 hgrow9 hnil9 hblk9))
            have HIM : Hid (IntsM _ A9 (L ++ [r.d])) := hid (by
              obtain ⟨A', c', hv, hA⟩ := ints_owns (xs := L ++ [r.d]) (by simpa using HO9.out) (by rw [HQL.out]; omega)
              injection hv with e1 e2 e3
              rw [e1]; exact hA)
            have HLN : Hid ((L ++ [r.d]).length = q) := hid (HQL.out)
            have HQ1 : Hid (∀ (b : Nat) (y : Int), b < 0 → (L ++ [r.d])[b]? = some y → inN x.vs.length y = true) := hid (fun b y h => absurd h (by omega))
            obtain ⟨LL, hLL⟩ : ∃ LL, L ++ [r.d] = LL := ⟨_, rfl⟩
            rw [hLL] at HLK HIM HLN HQ1
            clear HO9 hLL
            go_loopg [7] q (fun gk v7 wi => ∃ j : Nat, j ≤ q ∧ gk = q - j ∧ v7 = .int .i64 j ∧ Hid (CX w (CoV x va vc fa fc (some ⟨bi, oi, none⟩) ic) wi) ∧ Hid (IntsM wi A9 LL) ∧ Hid (∀ (b : Nat) (y : Int), b < j → LL[b]? = some y → inN x.vs.length y = true))
            case atStart => exact ⟨0, by omega, by omega, rfl, HX9, HIM, HQ1⟩
            case round =>
              clear HIM HQ1 HX9
              obtain ⟨j, hj, rfl, rfl, HX, HA, HQ1⟩ := hrel
              have hcn := HX.out.cn
              have hv80 := HV80.out
              by_cases hjm : j < q
              · have hjm' : (j : Int) < (q : Int) := by omega
                have j0 : (0 : Int) ≤ (j : Int) := by omega
                obtain ⟨y, hy⟩ := get_some HLN.out hjm
                obtain ⟨b, o, rfl, hb1, hc1⟩ := HA.out.2 j y hy
                simp only [IntAt, Nat.mul_one] at hc1
                have HY := hid hy
                clear hy hb1
                by_cases e1 : y < 0
                · have e1' : ¬ (0 : Int) ≤ y := by omega
                  obtain ⟨j, rfl⟩ : ∃ j : Nat, y = Int.negSucc j := neg_form e1
                  go_wp2
                  go_quiet (fail)
                  go_wp2
                  go_ret
                  exact ⟨lightp_no, hid (below_drewN HX.out.bel _)⟩
                by_cases e2 : (x.vs.length : Int) ≤ y
                · have e2' : ¬ y < (x.vs.length : Int) := by omega
                  go_wp2
                  go_quiet (fail)
                  go_wp2
                  go_ret
                  exact ⟨lightp_no, hid (below_drewN HX.out.bel _)⟩
                · have HIY := hid (inN_t e1 e2)
                  go_wp2
                  go_quiet (fail)
                  go_wp2
                  go_roundg (q - (j + 1))
                  case measure => omega
                  case rel => exact ⟨j + 1, by omega, rfl, rfl, hid (HX.out.later (below_drewN (Below.refl _ _) _)), hid (HA.out.later int_stays (below_drewN (Below.refl _ _) _)), hid (fun b' y' hb' h' => by
                    by_cases hbj : b' < j
                    · exact HQ1.out b' y' hbj h'
                    · obtain rfl : b' = j := by omega
                      rw [HY.out] at h'
                      cases h'
                      exact HIY.out)⟩
              · have hjm' : ¬ (j : Int) < (q : Int) := by omega
                have HQ2 : Hid (∀ (a : Nat) (r : InD), a < i + 1 → x.ins[a]? = some r → ∀ y ∈ looks r, inN x.vs.length y = true) := hid (fun a r' ha hr' y hy => by
                  by_cases hai : a < i
                  · exact HQ.out a r' hai hr' y hy
                  · obtain rfl : a = i := by omega
                    rw [HR.out] at hr'
                    cases hr'
                    rw [HLK.out] at hy
                    obtain ⟨b, hb, rfl⟩ := List.mem_iff_getElem.1 hy
                    exact HQ1.out b _ (by have := HLN.out; omega) (List.getElem?_eq_getElem hb))
                go_wp2
                go_roundg (x.ins.length - (i + 1))
                case measure => omega
                case rel => exact ⟨i + 1, by omega, rfl, rfl, HX, HQ2⟩
        · have hin' : ¬ (i : Int) < (x.ins.length : Int) := by omega
          obtain rfl : i = x.ins.length := by omega
          go_wp2
          go_ret
          exact ⟨⟨true, rfl, fun _ => ⟨HI150.out, HV80.out, fun r hr => by
            obtain ⟨a, ha, rfl⟩ := List.mem_iff_getElem.1 hr
            have h := HQ.out a _ ha (List.getElem?_eq_getElem ha)
            refine ⟨H40.out _ hr, fun y hy => h y (by unfold looks; exact List.mem_append_left _ hy), fun hw => h _ (by unfold looks; rw [hw]; simp)⟩⟩⟩, hid HX.out.bel⟩
end Go.Proofs.YtlbcinanpnjjjaaDoor
