/- Ahead of which a variable is asked, by the reference. Conditions: at most 150 instructions, what is read and written are variables. -/
import Derived.Test.YtlbcinanpnjjjaaLvN
import Derived.StillTailTactics
import Derived.Deep.RegionHeld3
namespace Go.Proofs.Ytlbcinanpnjjjaa
open Go.RowKit Go.Maps
set_option linter.unusedVariables false
set_option linter.unusedSimpArgs false
theorem in_f (xs : List Int) (q : Int) (A : Option Addr) (c : Nat) (r : Bool) (w : World) (h1 : IntsM w A xs) (hr : xs.any (fun x => x == q) = r) :
    Calls Try.prog 24 #[.int .i64 q, .slice A xs.length c] w fun e w' => e = .returned (.bool r) ∧ w' = w := by
  have hl := h1.1
  obtain ⟨n, hn⟩ : ∃ n : Nat, xs.length = n := ⟨_, rfl⟩
  rw [hn]
  rw [hn] at hl
  have H1 := hid h1
  have HN := hid hn
  have HR := hid hr
  clear h1 hn hr
  go_enter Try.func24, Try.ntmps24
  go_wp2
  go_loopg [5] n (fun gk v5 wr => ∃ k : Nat, k ≤ n ∧ gk = n - k ∧ v5 = .int .i64 k ∧ wr = w ∧ Hid (∀ i x, i < k → xs[i]? = some x → (x == q) = false))
  case atStart => exact ⟨0, by omega, by omega, rfl, rfl, hid (fun i x hi => absurd hi (by omega))⟩
  case round =>
    obtain ⟨k, hk, rfl, rfl, rfl, HA⟩ := hrel
    by_cases hlt : k < n
    · have hlt' : (k : Int) < (n : Int) := by omega
      obtain ⟨y, hy⟩ := get_some HN.out hlt
      obtain ⟨b, o, rfl, hb1, hc1⟩ := H1.out.2 k y hy
      simp only [IntAt, Nat.mul_one] at hc1
      have HY := hid hy
      clear hy
      by_cases e : y = q
      · have hf : r = true := HR.out.symm.trans (List.any_eq_true.2 ⟨y, List.mem_of_getElem? HY.out, by simpa using e⟩)
        subst hf
        go_wp2
        go_ret
        exact ⟨rfl, rfl⟩
      · go_wp2
        go_roundg (n - (k + 1))
        case measure => omega
        case rel => exact ⟨k + 1, by omega, by omega, rfl, rfl, hid (fun i x' hi h1 => by
          by_cases hik : i < k
          · exact HA.out i x' hik h1
          · obtain rfl : i = k := by omega
            rw [HY.out] at h1
            cases h1
            simpa using e)⟩
    · have hlt' : ¬ (k : Int) < (n : Int) := by omega
      have hf : r = false := HR.out.symm.trans (List.any_eq_false.2 (fun x hx => by
        obtain ⟨i, hi⟩ := List.getElem?_of_mem hx
        have h2 := HA.out i x (by have := HN.out; have := (List.getElem?_eq_some_iff.1 hi).1; omega) hi
        simpa using h2))
      subst hf
      go_wp2
      go_ret
      exact ⟨rfl, rfl⟩
theorem Tab.ints {W : World} {T base n c : Nat} {vs : Nat → Value} {F : Nat → List Int} (h : Tab W T base n vs F c) {i : Nat} (hi : i < n) (hc : c ≤ 10000000) : ∃ A cap, vs i = .slice A (F i).length cap ∧ IntsM W A (F i) := by
  have hr := h.row i hi
  obtain ⟨A, cap, e⟩ := own_slice hr
  have hf := h.few i hi
  refine ⟨A, cap, e, by omega, fun j y hy => ?_⟩
  rw [e] at hr
  obtain ⟨b, h1, h2, h3⟩ := own_cell (E := F i) hr hy
  exact ⟨b, 0, h1, h2, by simpa [IntAt] using h3⟩
theorem BlM.notInts {W : World} {g n b o : Nat} {m : Met} {y : Int} (h : BlM W g n m) (hc : W.cell? ⟨b, o, none⟩ = some (.int .i64 y)) : b ≠ g := by
  rintro rfl
  obtain ⟨cs, h1, h2, h3⟩ := h
  rw [cells_at h1 o] at hc
  have hl := (Array.getElem?_eq_some_iff.1 hc).1
  rw [h3 o (by omega)] at hc
  cases hc
/-- What Ahead leaves. -/
def AheadP (x : CoD) (v : Nat) (w : World) (e : Ending) (w' : World) : Prop :=
  ∃ G out, e = .returned (.slice (some ⟨G, 0, none⟩) x.ins.length x.ins.length) ∧ Hid (BlM w' G x.ins.length out) ∧ Hid (∀ y, y < x.ins.length → (out y = true ↔ Ask x y v)) ∧ Hid (w.heap.size ≤ G ∧ Below w.heap.size w w')
set_option maxRecDepth 100000 in
set_option maxHeartbeats 16000000 in
theorem rahead_f (x : CoD) (v : Nat) (va fa ia : Option Addr) (vc fc ic : Nat) (w : World) (hs : x.ins.length ≤ 150) (hC : RowM 13 InAt w ia x.ins) (hF : Fits x) :
    Calls Try.prog 10 #[.agg (CoV x va vc fa fc ia ic), .int .i64 v] w (AheadP x v w) := by
  obtain ⟨i0t, hti, hz0, hz1, hz2⟩ := info_parts info4
  obtain ⟨i3t, hti3, hz03, hz13, hz23⟩ := info_parts info3
  obtain ⟨w0, hw0⟩ : ∃ w0, w.alloc (.cells (CoV x va vc fa fc ia ic) 30) = w0 := ⟨_, rfl⟩
  have HX : Hid (CX w (CoV x va vc fa fc ia ic) w0) := hid (by subst hw0; exact ⟨below1 _ _, heap_alloc_new _ _⟩)
  have HC := hid (hC.later in_stays HX.out.bel)
  have HS := hid hs
  have HF := hid hF
  have HM : Hid (i0t.bytes * x.ins.length ≤ 281474976710656) := hid (by rw [hz2]; omega)
  have HM3 : Hid (x.ins.length ≤ maxLen) := hid (by unfold maxLen; omega)
  have hcn := HX.out.cn
  clear hC hs hF
  go_enter Try.func10, Try.ntmps10
  go_wp2_with (at_make; refine wpList_make_full _ rfl _ _ 37 rfl w0.heap.size 4 i0t (.bool false) 1 Try.underlying37 hti hz0 hz1 .i64 .i64 (x.ins.length : Int) (x.ins.length : Int) x.ins.length rfl rfl rfl rfl HM.out HM3.out (Nat.le_refl _) ?_; intro w1 hown hgrow
               have HB1 := hid ((Below.refl _ w0).grown hgrow (Nat.le_refl _) (by rintro k e; cases e))
               have HBL := hid (BlM.made hown)
               clear hown hgrow)
  obtain ⟨G, hG⟩ : ∃ G, w0.heap.size = G := ⟨_, rfl⟩
  have HA0 : Hid (A1 w0 w1 G x.ins.length (.slice none 0 0) (rdT x v 0) (fun y => decide (y < 0) && rdV x y v)) := hid (by
    refine ⟨HB1.out, ?_, World.ownsRow_nil _ _ _ _, Nat.le_of_eq hG⟩
    rw [← hG]
    have e : (fun y => decide (y < 0) && rdV x y v) = (fun _ => false) := by funext y; simp
    rw [e]
    exact HBL.out)
  rw [hG]
  have HGE := hid hG
  clear hw0 hcn HB1 HBL hG HM HM3
  go_loopg [7, 8] x.ins.length (fun gk v7 v8 wr => ∃ i : Nat, i ≤ x.ins.length ∧ gk = x.ins.length - i ∧ v8 = .int .i64 i ∧ Hid (A1 w0 wr G x.ins.length v7 (rdT x v i) (fun y => decide (y < i) && rdV x y v)))
  case atStart => exact ⟨0, by omega, by omega, rfl, HA0⟩
  case round =>
    clear HA0
    obtain ⟨i, hi, rfl, rfl, HA⟩ := hrel
    have n9 : x.ins.length ≤ 150 := HS.out
    have hcn := (HX.out.later HA.out.bel).cn
    by_cases hin : i < x.ins.length
    · have hin' : (i : Int) < (x.ins.length : Int) := by omega
      have i0 : (0 : Int) ≤ (i : Int) := by omega
      obtain ⟨r, hr⟩ := get_some (l := x.ins) rfl hin
      obtain ⟨bi, oi, rfl, hbi, ao, ac, mo, mc, hci, him⟩ := (HC.out.later in_stays HA.out.bel).2 i r hr
      have d0 : wr.cell? ⟨bi, oi + i * 13, none⟩ = some (.int .i64 r.op) := hci 0 _ rfl
      have d1 : wr.cell? ⟨bi, oi + i * 13 + 1, none⟩ = some (.int .i64 r.d) := hci 1 _ rfl
      have d2 : wr.cell? ⟨bi, oi + i * 13 + 2, none⟩ = some (.int .i64 r.a) := hci 2 _ rfl
      have d3 : wr.cell? ⟨bi, oi + i * 13 + 3, none⟩ = some (.int .i64 r.b) := hci 3 _ rfl
      have d4 : wr.cell? ⟨bi, oi + i * 13 + 4, none⟩ = some (.int .i64 r.f) := hci 4 _ rfl
      have d5 : wr.cell? ⟨bi, oi + i * 13 + 5, none⟩ = some (.int .i64 r.n) := hci 5 _ rfl
      have d6 : wr.cell? ⟨bi, oi + i * 13 + 6, none⟩ = some (.string r.sg) := hci 6 _ rfl
      have d7 : wr.cell? ⟨bi, oi + i * 13 + 7, none⟩ = some (.slice ao r.xs.length ac) := hci 7 _ rfl
      have d8 : wr.cell? ⟨bi, oi + i * 13 + 8, none⟩ = some (.slice mo r.ms.length mc) := hci 8 _ rfl
      have d9 : wr.cell? ⟨bi, oi + i * 13 + 9, none⟩ = some (.int .i64 r.tt) := hci 9 _ rfl
      have d10 : wr.cell? ⟨bi, oi + i * 13 + 10, none⟩ = some (.int .i64 r.el) := hci 10 _ rfl
      have d11 : wr.cell? ⟨bi, oi + i * 13 + 11, none⟩ = some (.int .i64 r.l) := hci 11 _ rfl
      have d12 : wr.cell? ⟨bi, oi + i * 13 + 12, none⟩ = some (.int .i64 r.c) := hci 12 _ rfl
      have hx40 := (HF.out r (List.mem_of_getElem? hr)).1
      obtain ⟨L, hL⟩ : ∃ L, rdsF r = L := ⟨_, rfl⟩
      obtain ⟨m, hm⟩ : ∃ m, L.length = m := ⟨_, rfl⟩
      obtain ⟨c, hc⟩ : ∃ c, rdV x i v = c := ⟨_, rfl⟩
      have hc2 : L.any (fun y => y == (v : Int)) = c := by rw [← hc]; unfold rdV; simp only [hr, hL]
      have HRD : Hid (Calls Try.prog 14 #[.agg (InV r ao ac mo mc)] wr fun e w' => ∃ A c, e = .returned (.slice A m c) ∧ Hid (IntsM w' A L) ∧ Hid (Below wr.heap.size wr w')) := hid ((rreads_g r ao mo ac mc wr him.xs hx40).mono fun e w' ⟨u, he, hi, ho, hb⟩ => by
        obtain ⟨A, c, hv, hA⟩ := hi.out
        rw [hL] at hv hA
        rw [hm] at hv
        exact ⟨A, c, by rw [he, hv], hid hA, hb⟩)
      have HIF : Hid (∀ (A : Option Addr) (c' : Nat) (W : World), IntsM W A L → Calls Try.prog 24 #[.int .i64 v, .slice A m c'] W fun e w' => e = .returned (.bool c) ∧ w' = W) := hid (fun A c' W h => by
        have := in_f L v A c' c W h hc2
        rwa [hm] at this)
      have HT := hid (rdT_next x v i)
      have HTL := hid (rdT_len x v i)
      have HCE := hid hc
      have HIN := hid hin
      rw [hc] at HT
      clear hr hL hm hc hc2 hx40 hbi hci him hin
      cases c
      · have HE : Hid ((fun y => decide (y < i + 1) && rdV x y v) = (fun y => decide (y < i) && rdV x y v)) := hid (by
          funext y
          by_cases e : y = i
          · subst e; rw [HCE.out]; simp
          · rw [show decide (y < i + 1) = decide (y < i) by by_cases h : y < i <;> simp [h] <;> omega])
        simp only [Bool.false_eq_true, if_false] at HT
        go_wp2_with (first
          | (go_at_call 14; refine HRD.out.mono ?_; rintro e w5 ⟨A5, c5, rfl, hi5, hb5⟩; have HA5 := hid (HA.out.later hb5.out); have HI5 := hid hi5.out; clear hi5 hb5)
          | (go_at_call 24; refine (HIF.out _ _ _ HI5.out).mono ?_; rintro e w' ⟨rfl, hw⟩; obtain rfl := hw.symm))
        go_roundg (x.ins.length - (i + 1))
        case measure => have := HIN.out; omega
        case rel => exact ⟨i + 1, by have := HIN.out; omega, rfl, rfl, by rw [HT.out, HE.out]; exact HA5⟩
      · have HE : Hid ((fun y => decide (y < i + 1) && rdV x y v) = mark (fun y => decide (y < i) && rdV x y v) i) := hid (by
          funext y
          unfold mark
          by_cases e : y = i
          · subst e; rw [HCE.out]; simp
          · have h1 : (y == i) = false := by simp [e]
            rw [h1, Bool.false_or]
            show (decide (y < i + 1) && rdV x y v) = (decide (y < i) && rdV x y v)
            rw [show decide (y < i + 1) = decide (y < i) by by_cases h : y < i <;> simp [h] <;> omega])
        simp only [if_true] at HT
        obtain ⟨q, hq⟩ : ∃ q, (rdT x v i).length = q := ⟨_, rfl⟩
        have hq9 : q ≤ 150 := by have := HTL.out; have := HIN.out; omega
        have HQ := hid hq
        clear hq
        go_wp2_with (first
          | (go_at_call 14; refine HRD.out.mono ?_; rintro e w5 ⟨A5, c5, rfl, hi5, hb5⟩; have HA5 := hid (HA.out.later hb5.out); have HI5 := hid hi5.out; have hcb := HA5.out.bl.cell HIN.out; have hfb := HA5.out.bl.soft i; clear hi5 hb5)
          | (go_at_call 24; refine (HIF.out _ _ _ HI5.out).mono ?_; rintro e w' ⟨rfl, hw⟩; obtain rfl := hw.symm)
          | (at_builtin; go_must (refine wpList_append_own_at _ rfl _ _ 27 rfl w0.heap.size 3 i3t (.int .i64 0) 1 8 Try.underlying27 hti3 hz03 hz13 hz23 rfl (by decide) _ q (natV (rdT x v i)) rfl (by rw [← HQ.out]; exact HA5.out.row2 rfl (below1 _ _)) ⟨w5.heap.size, 0, none⟩ 1 1 [.int .i64 i] rfl rfl (one_at _ _ _ (by simp [World.setCell])) (by intro u hu; simp at hu; subst hu; rfl) (by unfold maxLen; omega) (by omega) (by have := HA5.out.bel.size; simp [World.setCell]; omega) ?_); intro v9 w9 hown9 hgrow9 hnil9 hblk9
             have HA9 := hid (HA5.out.push rfl (below1 _ _) (by rw [HQ.out]; exact hown9) hgrow9)
             clear hown9 hgrow9 hnil9 hblk9))
        go_roundg (x.ins.length - (i + 1))
        case measure => have := HIN.out; omega
        case rel => exact ⟨i + 1, by have := HIN.out; omega, rfl, rfl, by rw [HT.out, HE.out]; exact HA9⟩
    · have hin' : ¬ (i : Int) < (x.ins.length : Int) := by omega
      obtain rfl : i = x.ins.length := by omega
      have HW0 := hid (wt_start (x := x) (v := v) (out := fun y => decide (y < x.ins.length) && rdV x y v) (fun _ => rfl))
      have HBF := hid (rbehind_g x va fa ia vc fc ic wr (by omega) (HC.out.later in_stays HA.out.bel))
      go_wp2_with (go_at_call 25; refine HBF.out.mono ?_; rintro e w2 ⟨T, bT, vs, rfl, ht, hb⟩
                   have HA2 := hid (HA.out.later hb.out.2.2)
                   have HT2 : Hid (TX w2 T bT x.ins.length (2 * x.ins.length) vs (behL x) u7) := hid ⟨ht.out, fun a g hn q e => by
                     have h1 := (row_lt HA.out.row e).2
                     have h2 := (row_lt (ht.out.row a hn) q).1
                     have h3 := ht.out.lo
                     have h4 := hb.out.1
                     omega⟩
                   clear ht hb hcn)
      clear HA HBF
      obtain ⟨F, hF⟩ : ∃ F, behL x = F := ⟨_, rfl⟩
      go_loopg [7, 10] x.ins.length (fun gk v7 v10 wr => ∃ (i : Nat) (todo : List Nat) (out : Met), gk = x.ins.length - i ∧ i ≤ todo.length ∧ v10 = .int .i64 i ∧ Hid (A1 w0 wr G x.ins.length v7 todo out) ∧ Hid (TX wr T bT x.ins.length (2 * x.ins.length) vs (behL x) v7) ∧ Hid (Wt x v i 0 todo out))
      case atStart => exact ⟨0, _, _, by omega, by omega, rfl, HA2, HT2, HW0⟩
      case round =>
        clear HA2 HT2 HW0
        obtain ⟨i, todo, out, rfl, hit, rfl, HA, HT, HW⟩ := hrel
        have n9 : x.ins.length ≤ 150 := HS.out
        have hlen : todo.length ≤ x.ins.length := nodup_le _ _ HW.out.nodup HW.out.lt
        obtain ⟨A7, c7, rfl, hA7⟩ := HA.out.form (by omega)
        obtain ⟨l, hl⟩ : ∃ l, todo.length = l := ⟨_, rfl⟩
        have HLN := hid hl
        rw [hl] at hit hlen
        rw [hl] at HA HT ⊢
        by_cases hil : i < l
        · have hil' : (i : Int) < (l : Int) := by omega
          have i0 : (0 : Int) ≤ (i : Int) := by omega
          obtain ⟨y, hy⟩ := get_some hl hil
          have hyn := HW.out.lt y (List.mem_of_getElem? hy)
          obtain ⟨b7, o7, rfl, hb7, hc7⟩ := hA7.2 i (y : Int) (by rw [List.getElem?_map, hy]; rfl)
          simp only [IntAt, Nat.mul_one] at hc7
          have y0 : (0 : Int) ≤ (y : Int) := by omega
          have y1 : (y : Int) < (x.ins.length : Int) := by omega
          obtain ⟨Al, cl, hvs, hAl⟩ := HT.out.tab.ints hyn (by omega)
          have hct := HT.out.tab.cell hyn
          obtain ⟨q, hq⟩ : ∃ q, (behL x y).length = q := ⟨_, rfl⟩
          have hq9 : q ≤ 300 := by have := HT.out.tab.few y hyn; omega
          rw [hvs, hq] at hct
          rw [hq] at hvs
          have HVS := hid hvs
          have HY := hid hy
          have HYN := hid hyn
          have HQ := hid hq
          have HIX : Hid (i < x.ins.length) := hid (by omega)
          clear hA7 hl hy hb7 hAl hyn hq hvs
          go_wp2
          clear hct hc7
          go_loopg [7, 12] q (fun gk v7 v12 wr => ∃ (j : Nat) (todo : List Nat) (out : Met), j ≤ q ∧ gk = q - j ∧ i < todo.length ∧ todo[i]? = some y ∧ v12 = .int .i64 j ∧ Hid (A1 w0 wr G x.ins.length v7 todo out) ∧ Hid (TX wr T bT x.ins.length (2 * x.ins.length) vs (behL x) v7) ∧ Hid (Wt x v i j todo out))
          case atStart => exact ⟨0, todo, out, by omega, by omega, by have := HLN.out; omega, HY.out, rfl, HA, HT, HW⟩
          case round =>
            clear HA HT HW HY
            obtain ⟨j, todo, out, hj, rfl, hit, hy, rfl, HA, HT, HW⟩ := hrel
            have HITT := hid hit
            have HY := hid hy
            have hlen : todo.length ≤ x.ins.length := nodup_le _ _ HW.out.nodup HW.out.lt
            have HLE := hid hlen
            clear hit hy hlen
            have hcn := (HX.out.later HA.out.bel).cn
            by_cases hjq : j < q
            · have hjq' : (j : Int) < (q : Int) := by omega
              have j0 : (0 : Int) ≤ (j : Int) := by omega
              obtain ⟨u, hu⟩ := get_some HQ.out hjq
              obtain ⟨z, hzn, rfl, hyz⟩ := (beh_mem HYN.out u).1 (List.mem_of_getElem? hu)
              obtain ⟨Al', cl', hvs', hAl⟩ := HT.out.tab.ints HYN.out (by have := HS.out; omega)
              obtain ⟨rfl, -⟩ : Al = Al' ∧ True := ⟨by have := HVS.out; rw [hvs'] at this; injection this with e; exact e.symm, trivial⟩
              obtain ⟨bl, ol, rfl, hbl, hcl⟩ := hAl.2 j (z : Int) hu
              simp only [IntAt, Nat.mul_one] at hcl
              obtain ⟨r, hr⟩ := get_some (l := x.ins) rfl hzn
              obtain ⟨bi, oi, rfl, hbi, ao, ac, mo, mc, hci, him⟩ := (HC.out.later in_stays HA.out.bel).2 z r hr
              have d0 : wr.cell? ⟨bi, oi + z * 13, none⟩ = some (.int .i64 r.op) := hci 0 _ rfl
              have d1 : wr.cell? ⟨bi, oi + z * 13 + 1, none⟩ = some (.int .i64 r.d) := hci 1 _ rfl
              have d2 : wr.cell? ⟨bi, oi + z * 13 + 2, none⟩ = some (.int .i64 r.a) := hci 2 _ rfl
              have d3 : wr.cell? ⟨bi, oi + z * 13 + 3, none⟩ = some (.int .i64 r.b) := hci 3 _ rfl
              have d4 : wr.cell? ⟨bi, oi + z * 13 + 4, none⟩ = some (.int .i64 r.f) := hci 4 _ rfl
              have d5 : wr.cell? ⟨bi, oi + z * 13 + 5, none⟩ = some (.int .i64 r.n) := hci 5 _ rfl
              have d6 : wr.cell? ⟨bi, oi + z * 13 + 6, none⟩ = some (.string r.sg) := hci 6 _ rfl
              have d7 : wr.cell? ⟨bi, oi + z * 13 + 7, none⟩ = some (.slice ao r.xs.length ac) := hci 7 _ rfl
              have d8 : wr.cell? ⟨bi, oi + z * 13 + 8, none⟩ = some (.slice mo r.ms.length mc) := hci 8 _ rfl
              have d9 : wr.cell? ⟨bi, oi + z * 13 + 9, none⟩ = some (.int .i64 r.tt) := hci 9 _ rfl
              have d10 : wr.cell? ⟨bi, oi + z * 13 + 10, none⟩ = some (.int .i64 r.el) := hci 10 _ rfl
              have d11 : wr.cell? ⟨bi, oi + z * 13 + 11, none⟩ = some (.int .i64 r.l) := hci 11 _ rfl
              have d12 : wr.cell? ⟨bi, oi + z * 13 + 12, none⟩ = some (.int .i64 r.c) := hci 12 _ rfl
              have z0 : (0 : Int) ≤ (z : Int) := by omega
              have z1 : (z : Int) < (x.ins.length : Int) := by omega
              obtain ⟨bw, hbw⟩ : ∃ bw, wrB r.op = bw := ⟨_, rfl⟩
              obtain ⟨d, hd⟩ : ∃ d : Int, (if bw then r.d else 0) = d := ⟨_, rfl⟩
              have HWR := hid (fun W => rwrites_g r bw ao mo ac mc W hbw)
              rw [hd] at HWR
              have HWV : Hid (wrV x z v = (bw && (d == (v : Int)))) := hid (by
                unfold wrV
                simp only [hr, hbw]
                rw [← hd]
                cases bw <;> simp)
              have HZ := hid hu
              have HZN := hid hzn
              have HCL := hid hcl
              have hcld : wr.drew.cell? ⟨bl, ol + j, none⟩ = some (.int .i64 (z : Int)) := hcl
              have HBI := hid hbi
              have HCI := hid hci
              clear hr hbw hd hu hvs' hAl hbl hci him hbi hzn
              go_wp2
              have HA4 := hid (HA.out.later (below_drew1 wr))
              have HT4 := hid (HT.out.later (below_drew1 wr))
              have HCL4 : Hid (wr.drew.cell? ⟨bl, ol + j, none⟩ = some (.int .i64 (z : Int))) := hid hcld
              have HD4 : Hid (CellsAt wr.drew bi (oi + z * 13) (InV r ao ac mo mc)) := hid (cells_stay (below_drew1 wr) HBI.out HCI.out)
              clear hcld HA HT HCL
              go_region_held3 (fun W => (∀ i, W.cell? ⟨w.heap.size, i, none⟩ = (CoV x va vc fa fc (some ⟨bi, oi, none⟩) ic)[i]?) ∧ W.cell? ⟨bl, ol + j, none⟩ = some (.int .i64 (z : Int)) ∧ W.cell? ⟨bi, oi + z * 13, none⟩ = some (.int .i64 r.op) ∧ W.cell? ⟨bi, oi + z * 13 + 1, none⟩ = some (.int .i64 r.d) ∧ W.cell? ⟨bi, oi + z * 13 + 2, none⟩ = some (.int .i64 r.a) ∧ W.cell? ⟨bi, oi + z * 13 + 3, none⟩ = some (.int .i64 r.b) ∧ W.cell? ⟨bi, oi + z * 13 + 4, none⟩ = some (.int .i64 r.f) ∧ W.cell? ⟨bi, oi + z * 13 + 5, none⟩ = some (.int .i64 r.n) ∧ W.cell? ⟨bi, oi + z * 13 + 6, none⟩ = some (.string r.sg) ∧ W.cell? ⟨bi, oi + z * 13 + 7, none⟩ = some (.slice ao r.xs.length ac) ∧ W.cell? ⟨bi, oi + z * 13 + 8, none⟩ = some (.slice mo r.ms.length mc) ∧ W.cell? ⟨bi, oi + z * 13 + 9, none⟩ = some (.int .i64 r.tt) ∧ W.cell? ⟨bi, oi + z * 13 + 10, none⟩ = some (.int .i64 r.el) ∧ W.cell? ⟨bi, oi + z * 13 + 11, none⟩ = some (.int .i64 r.l) ∧ W.cell? ⟨bi, oi + z * 13 + 12, none⟩ = some (.int .i64 r.c))
                (first | exact ⟨(HX.out.later HA4.out.bel).cn, HCL4.out, HD4.out 0 _ rfl, HD4.out 1 _ rfl, HD4.out 2 _ rfl, HD4.out 3 _ rfl, HD4.out 4 _ rfl, HD4.out 5 _ rfl, HD4.out 6 _ rfl, HD4.out 7 _ rfl, HD4.out 8 _ rfl, HD4.out 9 _ rfl, HD4.out 10 _ rfl, HD4.out 11 _ rfl, HD4.out 12 _ rfl⟩ | exact ⟨(HX.out.later HA5.out.bel).cn, hcl5, HD5.out 0 _ rfl, HD5.out 1 _ rfl, HD5.out 2 _ rfl, HD5.out 3 _ rfl, HD5.out 4 _ rfl, HD5.out 5 _ rfl, HD5.out 6 _ rfl, HD5.out 7 _ rfl, HD5.out 8 _ rfl, HD5.out 9 _ rfl, HD5.out 10 _ rfl, HD5.out 11 _ rfl, HD5.out 12 _ rfl⟩)
                (first
                | (go_at_call 15; have tok := HA4; clear HA4; refine (HWR.out _).mono ?_; rintro e w5 ⟨rfl, hb5⟩; have HA5 := hid (tok.out.later hb5.out); have HT5 := hid (HT4.out.later hb5.out); have hcl5 := cell_keep hb5.out (cell_lt HCL4.out) HCL4.out; have HD5 := hid (cells_stay hb5.out HBI.out HD4.out); have hcb := HA5.out.bl.cell HZN.out; have hfb := HA5.out.bl.soft z; have hcl6 : (w5.setCell ⟨G, z, none⟩ (.bool true)).cell? ⟨bl, ol + j, none⟩ = some (.int .i64 (z : Int)) := (World.cell?_of_block (Below.heap_setCell _ _ _ _ (HA5.out.bl.notInts hcl5))).trans hcl5; clear hb5 tok))
              rename_i hHeld
              clear hHeld HD4 HCL4 HT4 HD5
              cases ho : out z
              case true =>
                have HO := hid ho
                rw [ho] at hcb
                clear ho
                cases bw
                all_goals
                  go_wp2
                  go_roundg (q - (j + 1))
                  case measure => omega
                  case rel => exact ⟨j + 1, todo, out, by omega, rfl, HITT.out, HY.out, rfl, HA5, HT5, hid (HW.out.skip HY.out HZ.out (.inl HO.out))⟩
              case false =>
                have HO := hid ho
                rw [ho] at hcb
                clear ho
                cases bw
                case false =>
                  go_wp2_with (at_builtin; go_must (refine wpList_append_own_at _ rfl _ _ 27 rfl w0.heap.size 3 i3t (.int .i64 0) 1 8 Try.underlying27 hti3 hz03 hz13 hz23 rfl (by decide) _ todo.length (natV todo) rfl (HA5.out.row2 rfl (below1 _ _)) ⟨w5.heap.size, 0, none⟩ 1 1 [.int .i64 z] rfl rfl (one_at _ _ _ (by simp [World.setCell])) (by intro u hu; simp at hu; subst hu; rfl) (by have := HLE.out; have := HS.out; unfold maxLen; omega) (by have := HLE.out; have := HS.out; omega) (by have := HA5.out.bel.size; simp [World.setCell]; omega) ?_); intro v9 w9 hown9 hgrow9 hnil9 hblk9
                               have HA9 := hid (HA5.out.push rfl (below1 _ _) hown9 hgrow9)
                               have HT9 := hid (HT5.out.push HA5.out rfl (below1 _ _) hgrow9 hblk9)
                               clear hown9 hgrow9 hnil9 hblk9)
                  go_roundg (q - (j + 1))
                  case measure => omega
                  case rel => exact ⟨j + 1, todo ++ [z], mark out z, by omega, rfl, by rw [List.length_append]; have := HITT.out; omega, by rw [List.getElem?_append_left HITT.out]; exact HY.out, rfl, HA9, HT9, hid (HW.out.push HY.out HZ.out HO.out (by rw [HWV.out]; rfl))⟩
                case true =>
                  obtain ⟨e, he⟩ : ∃ e, (d == (v : Int)) = e := ⟨_, rfl⟩
                  rw [he] at HWV
                  cases e
                  · go_wp2_with (at_builtin; go_must (refine wpList_append_own_at _ rfl _ _ 27 rfl w0.heap.size 3 i3t (.int .i64 0) 1 8 Try.underlying27 hti3 hz03 hz13 hz23 rfl (by decide) _ todo.length (natV todo) rfl (HA5.out.row2 rfl (below1 _ _)) ⟨w5.heap.size, 0, none⟩ 1 1 [.int .i64 z] rfl rfl (one_at _ _ _ (by simp [World.setCell])) (by intro u hu; simp at hu; subst hu; rfl) (by have := HLE.out; have := HS.out; unfold maxLen; omega) (by have := HLE.out; have := HS.out; omega) (by have := HA5.out.bel.size; simp [World.setCell]; omega) ?_); intro v9 w9 hown9 hgrow9 hnil9 hblk9
                                 have HA9 := hid (HA5.out.push rfl (below1 _ _) hown9 hgrow9)
                                 have HT9 := hid (HT5.out.push HA5.out rfl (below1 _ _) hgrow9 hblk9)
                                 clear hown9 hgrow9 hnil9 hblk9)
                    go_roundg (q - (j + 1))
                    case measure => omega
                    case rel => exact ⟨j + 1, todo ++ [z], mark out z, by omega, rfl, by rw [List.length_append]; have := HITT.out; omega, by rw [List.getElem?_append_left HITT.out]; exact HY.out, rfl, HA9, HT9, hid (HW.out.push HY.out HZ.out HO.out (by rw [HWV.out]; rfl))⟩
                  · go_wp2
                    go_roundg (q - (j + 1))
                    case measure => omega
                    case rel => exact ⟨j + 1, todo, out, by omega, rfl, HITT.out, HY.out, rfl, HA5, HT5, hid (HW.out.skip HY.out HZ.out (.inr (by rw [HWV.out]; rfl)))⟩
            · have hjq' : ¬ (j : Int) < (q : Int) := by omega
              obtain rfl : j = q := by omega
              have HW2 := hid (HW.out.next HY.out (by have := HQ.out; omega))
              go_wp2
              go_roundg (x.ins.length - (i + 1))
              case measure => have := HIX.out; omega
              case rel => exact ⟨i + 1, todo, out, rfl, by have := HITT.out; omega, rfl, HA, HT, HW2⟩
        · have hil' : ¬ (i : Int) < (l : Int) := by omega
          have HE := hid (fun y hy => HW.out.end (by have := HLN.out; omega) (y := y) hy)
          have HGL : Hid (w.heap.size ≤ G) := hid (by have := HX.out.bel.size; have := HGE.out; omega)
          have HBE := hid (after HX.out.bel HA.out.bel HX.out.bel.size)
          go_wp2
          go_ret
          exact ⟨G, out, rfl, hid HA.out.bl, hid HE.out, hid ⟨HGL.out, HBE.out⟩⟩
end Go.Proofs.Ytlbcinanpnjjjaa
