/- FlowForwards, as a call: it returns true, and leaves what was as it was. No conditions. -/
import Derived.Test.YtbmjhkimeeahhaaFmC
import Derived.Test.YtbmjhkimeeahhaaFmG
import Derived.Test.YtbmjhkimeeahhaaFlW
import Derived.Test.YtbmjhkimeeahhaaFlI
import Derived.StillTailTactics
import Derived.BigQuiet
namespace Go.Proofs.Ytbmjhkimeeahhaa
open Go.RowKit Go.Maps
set_option linter.unusedVariables false
set_option linter.unusedSimpArgs false
/-- n numbers in block g. -/
def IntF (W : World) (g n : Nat) (f : Nat → Nat) : Prop := ∃ cs : Array Value, W.heap[g]? = some (.cells cs 3 (0, 0)) ∧ cs.size = n ∧ ∀ i, i < n → cs[i]? = some (.int .i64 (f i : Int))
section
variable {W W' : World} {g n : Nat} {f f' : Nat → Nat}
theorem IntF.lt (h : IntF W g n f) : g < W.heap.size := by
  obtain ⟨cs, h1, -⟩ := h
  exact (Array.getElem?_eq_some_iff.1 h1).1
theorem IntF.cell (h : IntF W g n f) {i : Nat} (hi : i < n) : W.cell? ⟨g, i, none⟩ = some (.int .i64 (f i : Int)) := by
  obtain ⟨cs, h1, h2, h3⟩ := h
  rw [cells_at h1 i]
  exact h3 i hi
theorem IntF.soft (h : IntF W g n f) (i : Nat) : W.frozen? ⟨g, i, none⟩ = false := by
  obtain ⟨cs, h1, -⟩ := h
  exact frozen_no h1 i
theorem IntF.at (h : IntF W g n f) (hb : W'.heap[g]? = W.heap[g]?) : IntF W' g n f := by
  obtain ⟨cs, h1, h2⟩ := h
  exact ⟨cs, hb.trans h1, h2⟩
theorem IntF.put (h : IntF W g n f) (k v : Nat) (u : Int) (hu : u = (v : Int)) (he : ∀ y, y < n → f' y = if y = k then v else f y) : IntF (W.setCell ⟨g, k, none⟩ (.int .i64 u)) g n f' := by
  subst hu
  obtain ⟨cs, h1, h2, h3⟩ := h
  refine ⟨_, set_here h1 k _, by simp [h2], fun i hi => ?_⟩
  rw [Array.getElem?_setIfInBounds, he i hi]
  by_cases hik : k = i
  · subst hik
    simp [h2, hi]
  · rw [if_neg hik, h3 i hi, if_neg (fun e => hik e.symm)]
theorem IntF.made {base : Nat} (h : W.ownsRow base 3 1 (.slice (some ⟨g, 0, none⟩) n n) n (madeCells (Value.cells (.int .i64 0)) (n * 1)).toList) : IntF W g n (fun _ => 0) := by
  rcases h.2 with ⟨e0, -⟩ | ⟨g', cap, cur, e0, -, h2, hn, hc, hs, ht⟩
  · simp at e0
  · injection e0 with e1 e2 e3
    injection e1 with e1
    injection e1 with e1
    subst e1 e3
    refine ⟨cur, h2, by omega, fun i hi => ?_⟩
    have hl : cur.toList.take (n * 1) = cur.toList := List.take_of_length_le (by simp; omega)
    rw [hl] at ht
    rw [← Array.getElem?_toList, ht]
    simp [madeCells, Value.cells, hi, Nat.mod_one]
end
/-- What the law's blocks hold. -/
structure F1 (w : World) (cv : Array Value) (n Pl Gr : Nat) (m : Met) (vo : Value) (base : Nat) (O : List Nat) (f : Nat → Nat) (W : World) : Prop where
  bel : Below w.heap.size w W
  box : W.heap[w.heap.size]? = some (.cells cv 30 (0, 0))
  pl : IntF W Pl n f
  od : OwnN W base vo O
  rl : BlM W Gr n m
  lo : w.heap.size + 1 ≤ Pl
  ob : Pl < base
  gr : Pl < Gr
section
variable {w W W' : World} {cv : Array Value} {n Pl Gr base : Nat} {m mm : Met} {vo : Value} {O : List Nat} {f f' : Nat → Nat}
theorem F1.later (h : F1 w cv n Pl Gr m vo base O f W) (hb : Below W.heap.size W W') : F1 w cv n Pl Gr m vo base O f W' :=
  ⟨after h.bel hb h.bel.size, lay hb h.box, h.pl.at (hb.block _ h.pl.lt), row_at h.od (fun g q => hb.block g (row_lt h.od q).2), h.rl.later hb, h.lo, h.ob, h.gr⟩
theorem F1.put {k v : Nat} {u : Int} (h : F1 w cv n Pl Gr m vo base O f W) (hu : u = (v : Int)) (he : ∀ y, y < n → f' y = if y = k then v else f y) : F1 w cv n Pl Gr m vo base O f' (W.setCell ⟨Pl, k, none⟩ (.int .i64 u)) := by
  have hne : ∀ i, i ≠ Pl → (W.setCell ⟨Pl, k, none⟩ (.int .i64 u)).heap[i]? = W.heap[i]? := fun i hi => Below.heap_setCell _ _ _ _ hi
  have h1 := h.lo
  have h2 := h.ob
  have h3 := h.gr
  exact ⟨h.bel.setCell (p := ⟨Pl, k, none⟩) (by show w.heap.size ≤ Pl; omega) _, (hne _ (by omega)).trans h.box, h.pl.put k v u hu he, row_at h.od (fun g q => hne g (by have := (row_lt h.od q).1; omega)), h.rl.at (hne _ (by omega)), h.lo, h.ob, h.gr⟩
theorem F1.mark {k Lb : Nat} (h : F1 w cv n Pl Gr m vo base O f W) (hl : BlM W Lb n mm) (hLb : Gr < Lb) : F1 w cv n Pl Gr m vo base O f (W.setCell ⟨Lb, k, none⟩ (.bool true)) := by
  have hne : ∀ i, i ≠ Lb → (W.setCell ⟨Lb, k, none⟩ (.bool true)).heap[i]? = W.heap[i]? := fun i hi => Below.heap_setCell _ _ _ _ hi
  have h1 := h.lo
  have h3 := h.gr
  exact ⟨h.bel.setCell (p := ⟨Lb, k, none⟩) (by show w.heap.size ≤ Lb; omega) _, (hne _ (by omega)).trans h.box, h.pl.at (hne _ (by omega)), row_at h.od (fun g q => hne g (fun e => hl.not h.od (by decide) (e ▸ q))), h.rl.at (hne _ (by omega)), h.lo, h.ob, h.gr⟩
end
theorem pair_at {W : World} {base c cap : Nat} {A : Option Addr} {L : List (Nat × Nat)} (h : W.ownsRow base 48 2 (.slice A c cap) c (L.flatMap pF)) {j : Nat} {p : Nat × Nat} (hc : L.length = c) (hj : L[j]? = some p) : ∃ g, A = some ⟨g, 0, none⟩ ∧ W.cell? ⟨g, j * 2, none⟩ = some (.int .i64 (p.1 : Int)) ∧ W.cell? ⟨g, j * 2 + 1, none⟩ = some (.int .i64 (p.2 : Int)) := by
  have hl : (L.flatMap pF).length = L.length * 2 := flat_len pF_len L
  have hjl := (List.getElem?_eq_some_iff.1 hj).1
  obtain ⟨g, rfl⟩ : ∃ g, A = some ⟨g, 0, none⟩ := by
    rcases h.2 with ⟨e, -⟩ | ⟨g', cap', cur, e, -⟩
    · simp at e
      omega
    · injection e with e1
      exact ⟨g', e1⟩
  refine ⟨g, rfl, ?_, ?_⟩
  · rw [h.cellAt _ (by omega)]
    have := flat_get (f := pF) pF_len hj (j := 0) (u := .int .i64 (p.1 : Int)) rfl
    simpa using this
  · rw [h.cellAt _ (by omega)]
    exact flat_get (f := pF) pF_len hj (j := 1) (u := .int .i64 (p.2 : Int)) rfl
theorem sumP_take {L : List (Nat × Nat)} {t : Nat} {p : Nat × Nat} (h : L[t]? = some p) : sumP (L.take (t + 1)) = sumP (L.take t) + (p.2 - p.1 + 1) := by
  rw [List.take_add_one, h, sumP_app]
  simp [sumP]
theorem sumP_le (L : List (Nat × Nat)) (t : Nat) : sumP (L.take t) ≤ sumP L := by
  have h := sumP_app (L.take t) (L.drop t)
  rw [List.take_append_drop] at h
  omega
theorem wrap_sum (tot a b : Nat) (h1 : a ≤ b) (h2 : b < 150) (h3 : tot + (b - a + 1) ≤ 150) : wrap64 (wrap64 (wrap64 ((tot : Int) + (b : Int)) - (a : Int)) + 1) = ((tot + (b - a + 1) : Nat) : Int) := by
  rw [Go.IntWalk.wrap64_in ((tot : Int) + (b : Int)) ⟨by omega, by omega⟩, Go.IntWalk.wrap64_in ((tot : Int) + (b : Int) - (a : Int)) ⟨by omega, by omega⟩, Go.IntWalk.wrap64_in ((tot : Int) + (b : Int) - (a : Int) + 1) ⟨by omega, by omega⟩]
  omega
theorem below_at {n : Nat} {w W W' : World} (h : Below n w W) (e : ∃ k, W' = W.drewN k) : Below n w W' := by
  obtain ⟨k, rfl⟩ := e
  exact below_drewN h k
set_option maxRecDepth 100000 in
set_option maxHeartbeats 16000000 in
theorem forwards_law (x : CoD) (va fa ia : Option Addr) (vc fc ic : Nat) (w : World) (hC : CoM w x va fa ia) :
    Calls Try.prog 5 #[.agg (CoV x va vc fa fc ia ic)] w fun e w' => e = .returned (.bool true) ∧ Hid (Below w.heap.size w w') := by
  obtain ⟨i0t, hti, hz0, hz1, hz2⟩ := info_parts info4
  obtain ⟨i3t, hti3, hz03, hz13, hz23⟩ := info_parts info3
  have HX := hid (heap_alloc_new w (.cells (CoV x va vc fa fc ia ic) 30))
  have HB := hid (below1 w (.cells (CoV x va vc fa fc ia ic) 30))
  have hx := cells_at HX.out
  have HC := hid hC
  obtain ⟨O, hO⟩ := order_is x
  have HO := hid hO
  have HF := hid hO.facts
  clear hC hO
  go_enter Try.func5, Try.ntmps5
  go_upto_region 3 with (go_at_call 7; go_must (refine (light8 x va fa ia vc fc ic _ (HC.out.later HB.out)).mono ?_); rintro e w1 ⟨⟨l, rfl, hl⟩, hb⟩; have HB1 := hid (after HB.out hb.out HB.out.size); have HLt := hid hl; have HX1 := hid (lay hb.out HX.out); have hx1 := cells_at HX1.out; clear hb hl hx)
  · go_wp2_with (go_at_call 8; refine (alive_i _).mono ?_; rintro e w3 ⟨rfl, hb⟩; have H3 := hid (after HB1.out hb.out HB1.out.size); clear hb)
    go_ret
    exact ⟨rfl, H3⟩
  · have hn := HLt.out (by cases l <;> simp_all)
    have HN : Hid (x.ins.length ≤ 150) := hid hn
    have HM : Hid (i3t.bytes * x.ins.length ≤ 281474976710656) := hid (by rw [hz23]; omega)
    have HM3 : Hid (x.ins.length ≤ maxLen) := hid (by unfold maxLen; omega)
    have HM0 : Hid (i0t.bytes * x.ins.length ≤ 281474976710656) := hid (by rw [hz2]; omega)
    have HOF := hid (fun W hb => order_f x va fa ia vc fc ic w W O (by omega) HC.out.ins hb HO.out)
    have HRF := hid (fun W hb => reach_f x va fa ia vc fc ic w W (by omega) HC.out.ins hb)
    have HLF := hid (fun W hb => loops_f x va fa ia vc fc ic w W O (by omega) HC.out.ins hb HO.out)
    have HNX := hid (fun (k : Nat) (r : InD) (W : World) (hb : Below w.heap.size w W) (hr : x.ins[k]? = some r) => rnext8_g x k r va fa ia vc fc ic W hr (by have := (List.getElem?_eq_some_iff.1 hr).1; omega) (HC.out.ins.later in_stays hb))
    have HBF := hid (fun W hb => blocks_f x va fa ia vc fc ic w W (by omega) HC.out.ins hb)
    clear HLt hn
    have HN9 : Hid ((x.ins.length : Int) ≤ 150) := hid (by have := HN.out; omega)
    go_wp2_with (first
      | (at_make; refine wpList_make_full _ rfl _ _ 27 rfl w1.heap.size 3 i3t (.int .i64 0) 1 Try.underlying27 hti3 hz03 hz13 .i64 .i64 (x.ins.length : Int) (x.ins.length : Int) x.ins.length rfl rfl rfl rfl HM.out HM3.out (Nat.le_refl _) ?_; intro w2 hown hgrow
         have hb2 := (Below.refl w1.heap.size w1).grown hgrow (Nat.le_refl _) (by rintro k e; cases e)
         have HB2 := hid (after HB1.out hb2 HB1.out.size)
         have HP2 := hid (IntF.made hown)
         have HX2 := hid (lay hb2 HX1.out)
         have HSZ2 := hid hb2.size
         have hx2 := cells_at HX2.out
         clear hown hgrow hb2 hx1)
      | (go_at_call 18; go_must (refine (HOF.out w2 HB2.out).mono ?_); rintro e w3 ⟨vo, rfl, ho, hb⟩; have HO3 := hid ho.out; obtain ⟨Ao, co, rfl⟩ := own_slice ho.out; have HB3 := hid hb.out; have HX3 := hid (lay hb.out HX2.out); have hx3 := cells_at HX3.out; have HBw3 := hid (after HB2.out hb.out HB2.out.size); clear ho hb hx2)
      | (go_at_call 10; go_must (refine (HRF.out w3 HBw3.out).mono ?_); rintro e w4 ⟨Gr, m, rfl, hbl, hway, hg⟩; have HW := hid hway.out; have HF1 : Hid (F1 w (CoV x va vc fa fc ia ic) x.ins.length w1.heap.size Gr m (.slice Ao O.length co) w2.heap.size O (plF O 0) w4) := hid ⟨after HBw3.out hg.out.2 HBw3.out.size, lay hg.out.2 HX3.out, (HP2.out.at (HB3.out.block _ HP2.out.lt)).at (hg.out.2.block _ (Nat.lt_of_lt_of_le HP2.out.lt HB3.out.size)), row_at HO3.out (fun g q => hg.out.2.block g (row_lt HO3.out q).2), hbl.out, (Array.getElem?_eq_some_iff.1 HX1.out).1, HP2.out.lt, Nat.lt_of_lt_of_le HP2.out.lt (Nat.le_trans HB3.out.size hg.out.1)⟩; clear hbl hway hg hx3))
    obtain ⟨q, hq⟩ : ∃ q, O.length = q := ⟨_, rfl⟩
    have HQ := hid hq
    have hqn : q ≤ 150 := by have := HF.out.2.2; have := HN.out; omega
    have HMO : Hid (∀ k, k ∈ O → m k = true) := hid (fun k hk => (HW.out k (HF.out.2.1 k hk)).2 ((HO.out.ways (by have := HF.out.2.1 k hk; omega) k).1 hk))
    obtain ⟨Pl, hPl⟩ : ∃ Pl, w1.heap.size = Pl := ⟨_, rfl⟩
    obtain ⟨base, hbase⟩ : ∃ base, w2.heap.size = base := ⟨_, rfl⟩
    rw [hq, hPl, hbase] at HF1
    rw [hq, hPl]
    clear hq hPl hbase HX1 HX2 HX3 HO3 HB3 HBw3 HB2 HP2 HSZ2 HOF HRF HM HM3 HB1 HB HX
    go_loopg [7] q (fun gk p wr => ∃ i : Nat, i ≤ q ∧ gk = q - i ∧ p = .int .i64 i ∧ Hid (F1 w (CoV x va vc fa fc ia ic) x.ins.length Pl Gr m (.slice Ao q co) base O (plF O i) wr))
    case atStart => exact ⟨0, by omega, by omega, rfl, HF1⟩
    case round =>
      clear HF1
      obtain ⟨i, hi, rfl, rfl, HI⟩ := hrel
      by_cases hiq : i < q
      · have hiq' : (i : Int) < (q : Int) := by omega
        have i0 : (0 : Int) ≤ (i : Int) := by omega
        obtain ⟨k, hk⟩ := get_some HQ.out hiq
        have hkn := HF.out.2.1 k (List.mem_of_getElem? hk)
        obtain ⟨b1, rfl, hb1, -, hck⟩ := ownN_cell HI.out.od hk
        have hz : plF O i k = 0 := plF_none (fun j hj e => by have := nodup_at HF.out.1 hk e; omega)
        have hcp : wr.cell? ⟨Pl, k, none⟩ = some (.int .i64 0) := by have := HI.out.pl.cell hkn; rw [hz] at this; exact this
        have hfp := HI.out.pl.soft k
        have hcm : wr.cell? ⟨Gr, k, none⟩ = some (.bool true) := by have := HI.out.rl.cell hkn; rw [HMO.out k (List.mem_of_getElem? hk)] at this; exact this
        have k0 : (0 : Int) ≤ (k : Int) := by omega
        have kn0 : ¬ (k : Int) < 0 := by omega
        have k1 : (k : Int) < (x.ins.length : Int) := by omega
        have kn1 : ¬ (x.ins.length : Int) ≤ (k : Int) := by omega
        have n9 : (x.ins.length : Int) ≤ 150 := HN9.out
        have e1 : ((0 : Int) != 0) = false := rfl
        have e2 : ((x.ins.length : Int) != (x.ins.length : Int)) = false := by simp
        have HK := hid hk
        have HI2 := hid (HI.out.put (k := k) (v := i + 1) (u := (i : Int) + 1) (by omega) (f' := plF O (i + 1)) (fun y hy => by
          show (if O[i]? = some y then i + 1 else plF O i y) = _
          by_cases e : y = k
          · subst e; rw [if_pos hk, if_pos rfl]
          · rw [if_neg e, if_neg (fun q => e (by rw [hk] at q; injection q with q; exact q.symm))]))
        clear hk hz hb1
        go_wp2
        go_roundg (q - (i + 1))
        case measure => omega
        case rel => exact ⟨i + 1, by omega, rfl, rfl, HI2⟩
      · have hiq' : ¬ (i : Int) < (q : Int) := by omega
        obtain rfl : i = q := by omega
        have hxc := cells_at HI.out.box
        go_wp2_with (first
          | (at_make; refine wpList_make_full _ rfl _ _ 34 rfl wr.heap.size 4 i0t (.bool false) 1 Try.underlying34 hti hz0 hz1 .i64 .i64 (x.ins.length : Int) (x.ins.length : Int) x.ins.length rfl rfl rfl rfl HM0.out (by have := HN.out; unfold maxLen; omega) (Nat.le_refl _) ?_; intro w5 hown hgrow
             have hb5 := (Below.refl wr.heap.size wr).grown hgrow (Nat.le_refl _) (by rintro k e; cases e)
             have HF5 := hid (HI.out.later hb5)
             have HBL := hid (BlM.made hown)
             have hxc5 := cells_at HF5.out.box
             clear hown hgrow hb5 hxc)
          | (go_at_call 20; go_must (refine (HLF.out w5 HF5.out.bel).mono ?_); rintro e w6 ⟨vl, rfl, ho, hb⟩; have HL6 := hid ho.out; obtain ⟨Al, cl, rfl⟩ := own_slice ho.out; have HF6 := hid (HF5.out.later hb.out); have HBL6 := hid (HBL.out.later hb.out); clear ho hb hxc5))
        obtain ⟨Lb, hLb⟩ : ∃ Lb, wr.heap.size = Lb := ⟨_, rfl⟩
        obtain ⟨LL, hLL⟩ : ∃ LL, loopsL x O = LL := ⟨_, rfl⟩
        obtain ⟨ql, hql⟩ : ∃ ql, LL.length = ql := ⟨_, rfl⟩
        have HGL : Hid (Gr < Lb) := hid (by rw [← hLb]; exact HI.out.rl.lt)
        have HLB5 : Hid (Lb < w5.heap.size) := hid (by have := HBL.out.lt; omega)
        have HLLn : Hid (∀ k ∈ LL, k < x.ins.length) := hid (fun k hk => by
          rw [← hLL] at hk
          exact List.mem_range.1 (List.mem_filter.1 hk).1)
        have HLLm := hid (fun (i j k y : Nat) (h1 : O[i]? = some k) (h2 : O[j]? = some y) (h3 : y ∈ nxE x k) (h4 : j ≤ i) => (by have := loops_mem HO.out h1 h2 h3 h4; rwa [hLL] at this : y ∈ LL))
        have hqlb : ql ≤ 150 := by
          have h1 := List.length_filter_le (headM O x.ins.length (eds x.ins x.ins.length)) (List.range x.ins.length)
          have h2 : (loopsL x O).length = ql := by rw [hLL, hql]
          unfold loopsL at h2
          rw [h2] at h1
          have := HN.out
          simp at h1
          omega
        have HQL := hid hql
        rw [hLL] at HL6 ⊢
        rw [hql] at ⊢
        rw [hLb] at HBL6 ⊢
        have HBM0 : Hid (BlM w6 Lb x.ins.length (among (LL.take 0))) := hid (by rw [List.take_zero, among_nil]; exact HBL6.out)
        clear hLb hLL hql HBL HBL6 HF5 HI
        go_loopg [10] ql (fun gk p wr => ∃ j : Nat, j ≤ ql ∧ gk = ql - j ∧ p = .int .i64 j ∧ Hid (F1 w (CoV x va vc fa fc ia ic) x.ins.length Pl Gr m (.slice Ao i co) base O (plF O i) wr) ∧ Hid (BlM wr Lb x.ins.length (among (LL.take j))) ∧ Hid (OwnN wr w5.heap.size (.slice Al LL.length cl) LL))
        case atStart => exact ⟨0, by omega, by omega, rfl, HF6, HBM0, HL6⟩
        case round =>
          clear HF6 HBM0 HL6
          obtain ⟨j, hj, rfl, rfl, HI, HBM, HLR⟩ := hrel
          by_cases hjq : j < ql
          · have hjq' : (j : Int) < (ql : Int) := by omega
            have j0 : (0 : Int) ≤ (j : Int) := by omega
            obtain ⟨k, hk⟩ := get_some HQL.out hjq
            have hkn := HLLn.out k (List.mem_of_getElem? hk)
            obtain ⟨b1, rfl, hb1, hb2, hck⟩ := ownN_cell HLR.out hk
            obtain ⟨mv, hcm⟩ : ∃ mv, wr.cell? ⟨Lb, k, none⟩ = some (.bool mv) := ⟨_, HBM.out.cell hkn⟩
            have hfm := HBM.out.soft k
            have k0 : (0 : Int) ≤ (k : Int) := by omega
            have kn0 : ¬ (k : Int) < 0 := by omega
            have k1 : (k : Int) < (x.ins.length : Int) := by omega
            have kn1 : ¬ (x.ins.length : Int) ≤ (k : Int) := by omega
            have n9 : (x.ins.length : Int) ≤ 150 := HN9.out
            have HI2 := hid (HI.out.mark (k := k) HBM.out HGL.out)
            have HBM2 : Hid (BlM (wr.setCell ⟨Lb, k, none⟩ (.bool true)) Lb x.ins.length (among (LL.take (j + 1)))) := hid (by
              have e : LL.take (j + 1) = LL.take j ++ [k] := by rw [List.take_add_one, hk]; rfl
              rw [e, among_snoc]
              exact HBM.out.set k)
            have HLR2 : Hid (OwnN (wr.setCell ⟨Lb, k, none⟩ (.bool true)) w5.heap.size (.slice (some ⟨b1, 0, none⟩) LL.length cl) LL) := hid (row_at HLR.out (fun g q => Below.heap_setCell _ _ _ _ (by show g ≠ Lb; have := (row_lt HLR.out q).1; have := HLB5.out; omega)))
            clear hk hb1 hb2
            go_wp2
            go_roundg (ql - (j + 1))
            case measure => omega
            case rel => exact ⟨j + 1, by omega, rfl, rfl, HI2, HBM2, HLR2⟩
          · have hjq' : ¬ (j : Int) < (ql : Int) := by omega
            have HBA : Hid (BlM wr Lb x.ins.length (among LL)) := hid (by have h1 := HBM.out; rwa [List.take_of_length_le (by have := HQL.out; omega)] at h1)
            clear HBM HLR HQL
            go_wp2
            have HI0 := HI
            have HBA0 := HBA
            go_loopg [11] i (fun gk p wr => ∃ t : Nat, t ≤ i ∧ gk = i - t ∧ p = .int .i64 t ∧ Hid (F1 w (CoV x va vc fa fc ia ic) x.ins.length Pl Gr m (.slice Ao i co) base O (plF O i) wr) ∧ Hid (BlM wr Lb x.ins.length (among LL)))
            case atStart => exact ⟨0, by omega, by omega, rfl, HI0, HBA0⟩
            case round =>
              clear HI0 HBA0 HI HBA
              obtain ⟨t, ht, rfl, rfl, HI, HBA⟩ := hrel
              by_cases hti2 : t < i
              · have hti' : (t : Int) < (i : Int) := by omega
                have t0 : (0 : Int) ≤ (t : Int) := by omega
                have i9 : (i : Int) ≤ 9223372036854775807 := by omega
                obtain ⟨k, hk⟩ := get_some HQ.out hti2
                have hkn := HF.out.2.1 k (List.mem_of_getElem? hk)
                obtain ⟨b1, rfl, hb1, -, hck⟩ := ownN_cell HI.out.od hk
                obtain ⟨r, hr⟩ := get_some (l := x.ins) (i := k) rfl hkn
                have hxc := cells_at HI.out.box
                have HR := hid hr
                have HK := hid hk
                have HB1 := hid hb1
                clear hk hr hb1
                go_wp2
                go_still_tail 5, (by kernel_rfl)
                change wpList _ _ _ _ _ wr.drew
                have HI4 := hid (HI.out.later (below_drew1 wr))
                have HBA4 := hid (HBA.out.later (below_drew1 wr))
                obtain ⟨w7, hw7⟩ : ∃ w7, wr.drew = w7 := ⟨_, rfl⟩
                rw [hw7] at HI4 HBA4 ⊢
                clear hw7 HI HBA hck hxc
                go_wp2_with (go_at_call 21; go_must (refine (HNX.out k r _ HI4.out.bel HR.out).mono ?_); rintro e w8 ⟨v8, rfl, hi8, ho8, hb8⟩; have HI8 := hid (HI4.out.later hb8.out); have HBA8 := hid (HBA4.out.later hb8.out); have HO8 := hid ho8.out; obtain ⟨A8, c8, rfl, -⟩ := hi8.out; clear hi8 ho8 hb8)
                obtain ⟨E, hE⟩ : ∃ E, edgesL x k = E := ⟨_, rfl⟩
                have HE := hid hE
                rw [hE] at HO8 ⊢
                obtain ⟨qe, hqe⟩ : ∃ qe, E.length = qe := ⟨_, rfl⟩
                have HQE := hid hqe
                have hqe2 : qe ≤ 2 := by rw [← hqe, ← hE]; exact edges_few x k
                rw [hqe] at HO8 ⊢
                have HI8' := HI8
                have HBA8' := HBA8
                have HO8' := HO8
                clear hE hqe HI4 HBA4
                go_loopg [13] qe (fun gj p wi => ∃ j2 : Nat, j2 ≤ qe ∧ gj = qe - j2 ∧ p = .int .i64 j2 ∧ Hid (F1 w (CoV x va vc fa fc ia ic) x.ins.length Pl Gr m (.slice (some ⟨b1, 0, none⟩) i co) base O (plF O i) wi) ∧ Hid (BlM wi Lb x.ins.length (among LL)) ∧ Hid (OwnInts wi w7.heap.size (.slice A8 qe c8) E))
                case atStart => exact ⟨0, by omega, by omega, rfl, HI8', HBA8', HO8'⟩
                case round =>
                  clear HI8' HBA8' HO8' HI8 HBA8 HO8
                  obtain ⟨j2, hj2, rfl, rfl, HI, HBA, HO8⟩ := hrel
                  by_cases hjq2 : j2 < qe
                  · have hjq' : (j2 : Int) < (qe : Int) := by omega
                    have j20 : (0 : Int) ≤ (j2 : Int) := by omega
                    obtain ⟨y, hy⟩ := get_some HQE.out hjq2
                    obtain ⟨ky, rfl, hkyn, hky⟩ := edges_get (x := x) (k := k) (i := j2) (v := y) (by rw [HE.out]; exact hy)
                    have hmem := List.mem_of_getElem? hky
                    have hkO := HO.out.closed (List.mem_of_getElem? HK.out) hmem
                    obtain ⟨p, hpl, hp⟩ := List.mem_iff_getElem.1 hkO
                    have hp' : O[p]? = some ky := by rw [List.getElem?_eq_getElem hpl, hp]
                    have hpi : p < i := by rw [← HQ.out]; exact hpl
                    obtain ⟨b8, rfl, hb8, hc8⟩ := own_cell HO8.out hy
                    have hcp : wr.cell? ⟨Pl, ky, none⟩ = some (.int .i64 ((p : Int) + 1)) := by have := HI.out.pl.cell hkyn; rw [plF_some HF.out.1 hp' hpi] at this; exact this
                    have e0 : ((p : Int) + 1 == 0) = false := by simp; omega
                    have ky0 : (0 : Int) ≤ (ky : Int) := by omega
                    have ky1 : (ky : Int) < (x.ins.length : Int) := by omega
                    have n9 : (x.ins.length : Int) ≤ 150 := HN9.out
                    by_cases hle : p ≤ t
                    · have hle' : (p : Int) + 1 ≤ (t : Int) + 1 := by omega
                      have hin := HLLm.out t p k ky HK.out hp' hmem hle
                      have hcl : wr.cell? ⟨Lb, ky, none⟩ = some (.bool true) := by have := HBA.out.cell hkyn; rw [show among LL ky = true by simp [among]; exact hin] at this; exact this
                      clear hy hky hmem hkO hpl hp hp' hb8 hin
                      go_wp2
                      go_roundg (qe - (j2 + 1))
                      case measure => omega
                      case rel => exact ⟨j2 + 1, by omega, rfl, rfl, HI, HBA, HO8⟩
                    · have hle' : ¬ (p : Int) + 1 ≤ (t : Int) + 1 := by omega
                      clear hy hky hmem hkO hpl hp hp' hb8
                      go_wp2
                      go_roundg (qe - (j2 + 1))
                      case measure => omega
                      case rel => exact ⟨j2 + 1, by omega, rfl, rfl, HI, HBA, HO8⟩
                  · have hjq' : ¬ (j2 : Int) < (qe : Int) := by omega
                    go_wp2
                    go_roundg (i - (t + 1))
                    case measure => omega
                    case rel => exact ⟨t + 1, by omega, rfl, rfl, HI, HBA⟩
              · have hti' : ¬ (t : Int) < (i : Int) := by omega
                have hxc := cells_at HI.out.box
                go_wp2_with (go_at_call 22; go_must (refine (HBF.out _ HI.out.bel).mono ?_); rintro e w9 ⟨m2, vb, rfl, hm2, hob, hb9⟩; have HB9 := hid (after HI.out.bel hb9.out HI.out.bel.size); have HOB := hid hob.out; have HM2 := hid hm2.out; obtain ⟨Ab, cb, rfl⟩ := own_slice hob.out; clear hob hb9 hm2 hxc)
                obtain ⟨bb, hbb⟩ : ∃ bb, wr.heap.size = bb := ⟨_, rfl⟩
                obtain ⟨L2, hL2⟩ : ∃ L2, blkL m2 (begK x m2 x.ins.length) x.ins.length = L2 := ⟨_, rfl⟩
                obtain ⟨q2, hq2⟩ : ∃ q2, L2.length = q2 := ⟨_, rfl⟩
                have hq2b : q2 ≤ 150 := by
                  have h1 := blk_len m2 (begK x m2 x.ins.length) x.ins.length
                  rw [hL2, hq2] at h1
                  have := HN.out
                  omega
                have HBI : Hid (BInv m2 x.ins.length L2) := hid (hL2 ▸ blk_inv HM2.out _ (Nat.le_refl _))
                have HSM : Hid (sumP L2 = i) := hid (by rw [HBI.out.sum, cnt_order HO.out HM2.out, HQ.out])
                have HQ2 := hid hq2
                have HOB' : Hid (w9.ownsRow bb 48 2 (.slice Ab q2 cb) q2 (L2.flatMap pF)) := hid (by have := HOB.out; unfold OwnP at this; rwa [hL2, hq2, hbb] at this)
                rw [hL2] at ⊢
                rw [hq2] at ⊢
                clear HOB hbb hL2 hq2 HM2
                go_loopg [14, 16] q2 (fun gk v14 v16 wi => ∃ t2 tot : Nat, t2 ≤ q2 ∧ gk = q2 - t2 ∧ v14 = .int .i64 tot ∧ v16 = .int .i64 t2 ∧ Hid (tot = sumP (L2.take t2)) ∧ Hid (Below w.heap.size w wi) ∧ Hid (wi.ownsRow bb 48 2 (.slice Ab q2 cb) q2 (L2.flatMap pF)))
                case atStart => exact ⟨0, 0, by omega, by omega, rfl, rfl, hid (by simp [sumP]), HB9, HOB'⟩
                case round =>
                  clear HB9 HOB'
                  obtain ⟨t2, tot, ht2, rfl, rfl, rfl, HT, HB, HOB⟩ := hrel
                  by_cases hlt2 : t2 < q2
                  · have hlt2' : (t2 : Int) < (q2 : Int) := by omega
                    have t20 : (0 : Int) ≤ (t2 : Int) := by omega
                    have q29 : (q2 : Int) ≤ 150 := by omega
                    obtain ⟨⟨a, b⟩, hp⟩ := get_some HQ2.out hlt2
                    have hab := HBI.out.up _ (List.mem_of_getElem? hp)
                    obtain ⟨g, rfl, hc1, hc2⟩ := pair_at HOB.out HQ2.out hp
                    simp only at hab hc1 hc2
                    have hs := sumP_take hp
                    have hle := sumP_le L2 (t2 + 1)
                    have HT2 : Hid (tot + (b - a + 1) = sumP (L2.take (t2 + 1))) := hid (by rw [hs, HT.out])
                    have hbn : tot + (b - a + 1) ≤ 150 := by rw [HT2.out]; have := HSM.out; omega
                    have hb150 : b < 150 := by have := HN.out; omega
                    have e1 : ((b : Int) < (a : Int)) = False := by simp; omega
                    have e2 : (b < a) = False := by simp; omega
                    have hv := wrap_sum tot a b hab.1 hb150 hbn
                    have HP := hid hp
                    have HV := hid hv
                    clear hab hs hle hb150 hv
                    by_cases ht0 : t2 = 0
                    · subst ht0
                      have hc1' : wr.cell? ⟨g, 0, none⟩ = some (.int .i64 (a : Int)) := by simpa using hc1
                      have hc2' : wr.cell? ⟨g, 1, none⟩ = some (.int .i64 (b : Int)) := by simpa using hc2
                      clear hc1 hc2 hp
                      go_wp2
                      go_quiet (fail)
                      go_wp2
                      go_quiet (fail)
                      go_wp2
                      go_roundg (q2 - (0 + 1))
                      case measure => omega
                      case rel => exact ⟨1, tot + (b - a + 1), by omega, rfl, congrArg (Value.int .i64) HV.out, rfl, HT2, hid (below_drewN HB.out _), hid (row_at HOB.out (fun _ _ => rfl))⟩
                    · have g0 : ((0 : Int) < (t2 : Int)) = True := by simp; omega
                      have g1 : (0 < t2) = True := by simp; omega
                      obtain ⟨⟨a0, b0⟩, hp0⟩ := get_some (l := L2) (i := t2 - 1) HQ2.out (by omega)
                      have hlt3 := HBI.out.apart (t2 - 1) _ _ hp0 (by rw [show t2 - 1 + 1 = t2 by omega]; exact hp)
                      obtain ⟨g1, hg1, -, hc3⟩ := pair_at HOB.out HQ2.out hp0
                      injection hg1 with hg1
                      injection hg1 with hg1
                      subst hg1
                      simp only at hlt3 hc3
                      have e3 : ((a : Int) ≤ (b0 : Int)) = False := by simp; omega
                      have e4 : (a ≤ b0) = False := by simp; omega
                      obtain ⟨s, hs⟩ : ∃ s, t2 - 1 = s := ⟨_, rfl⟩
                      have hcs : (t2 : Int) - 1 = (s : Int) := by omega
                      rw [hs] at hc3
                      have s0 : (0 : Int) ≤ (s : Int) := by omega
                      have s1 : (s : Int) < (q2 : Int) := by omega
                      have ws : IntKind.i64.wrap ((t2 : Int) - 1) = (s : Int) := by rw [IntKind.wrap_i64]; omega
                      clear hp hp0 hlt3 hs ht0
                      go_wp2
                      go_quiet (fail)
                      go_wp2
                      go_quiet (fail)
                      go_wp2
                      go_roundg (q2 - (t2 + 1))
                      case measure => omega
                      case rel => exact ⟨t2 + 1, tot + (b - a + 1), by omega, rfl, congrArg (Value.int .i64) HV.out, rfl, HT2, hid (below_drewN HB.out _), hid (row_at HOB.out (fun _ _ => rfl))⟩
                  · have hlt2' : ¬ (t2 : Int) < (q2 : Int) := by omega
                    obtain rfl : t2 = q2 := by omega
                    have HTI : Hid (tot = i) := hid (by rw [HT.out, List.take_of_length_le (by have := HQ2.out; omega), HSM.out])
                    obtain rfl : tot = i := HTI.out
                    clear HTI
                    have ee : ((tot : Int) == (tot : Int)) = true := by simp
                    go_wp2_with (go_at_call 8; refine (alive_i _).mono ?_; rintro e w11 ⟨rfl, hb⟩; have H11 := hid (after HB.out hb.out HB.out.size); clear hb)
                    go_ret
                    exact ⟨rfl, H11⟩
end Go.Proofs.Ytbmjhkimeeahhaa
