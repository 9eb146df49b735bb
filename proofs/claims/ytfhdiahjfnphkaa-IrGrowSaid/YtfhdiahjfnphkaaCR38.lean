/- Right. Conditions: strings no longer than the greatest length. -/
import Derived.Test.YtfhdiahjfnphkaaCR37
import Derived.Test.YtfhdiahjfnphkaaCR28
import Derived.Test.YtfhdiahjfnphkaaCR34
import Derived.Test.YtfhdiahjfnphkaaCR35
import Derived.Test.YtfhdiahjfnphkaaCR36
namespace Go.Proofs.Ytfhdiahjfnphkaa
open Go.RowKit Go.Maps Go.Shelf
set_option linter.unusedVariables false
set_option linter.unusedSimpArgs false
attribute [local go_sem] Oper.semAt_some
set_option maxRecDepth 100000 in
set_option maxHeartbeats 16000000 in
theorem right_g (ss : List StD) (cs : List CoD) (sa ca : Option Addr) (sc cc : Nat) (w : World) (h1 : RowM 4 StAt w sa ss) (h2 : RowM 8 CoAt w ca cs) (hok : OkM ss cs) :
    Calls Try.prog 16 #[.agg (modV sa ca ss.length cs.length sc cc)] w fun e w' => e = .returned (.int .i64 (rightF ss cs)) ∧ Hid (Below w.heap.size w w') := by
  have hl1 := h1.1
  have hl2 := h2.1
  have HB := hid (below2 w (.cells (modV sa ca ss.length cs.length sc cc) 25) (.cells #[.int .i64 0] 41))
  have HX := hid (boxes w (modV sa ca ss.length cs.length sc cc) 25 #[.int .i64 0] 41)
  have HB3 := hid (below2 w (.cells (modV sa ca ss.length cs.length sc cc) 25))
  have H1 := hid h1
  have H2 := hid h2
  have HOk := hid hok
  obtain ⟨Z, hZ⟩ : ∃ Z, rightF ss cs = Z := ⟨_, rfl⟩
  rw [hZ]
  have HZ := hid hZ
  clear h1 h2 hok hZ
  by_cases g1 : (30 : Int) < (ss.length : Int)
  · go_enter Try.func16, Try.ntmps16
    go_wp2
    exact bodyPost_ret (v := .int .i64 2) (by simp [results, Try.results16, go_sem]) rfl ⟨by rw [show Z = 2 by rw [← HZ.out, rightF, if_pos (.inl (by omega))]], hid (HB3.out _)⟩
  by_cases g2 : (60 : Int) < (cs.length : Int)
  · go_enter Try.func16, Try.ntmps16
    go_wp2
    exact bodyPost_ret (v := .int .i64 2) (by simp [results, Try.results16, go_sem]) rfl ⟨by rw [show Z = 2 by rw [← HZ.out, rightF, if_pos (.inr (by omega))]], hid (HB3.out _)⟩
  have HZ1 : Hid (Z = if twB ss cs then 6 else if unB ss cs then 5 else if firstC ss cs cs = 0 then mainF cs else firstC ss cs cs) := hid (by rw [← HZ.out, rightF, if_neg (by omega)])
  obtain ⟨tw, htw⟩ : ∃ b, twB ss cs = b := ⟨_, rfl⟩
  have HTW := hid htw
  clear htw HZ
  cases tw
  case true =>
    go_enter Try.func16, Try.ntmps16
    go_wp2_with (first
      | (go_at_call 34; refine (twice_i ss cs sa ca sc cc true _ (H1.out.later st_stays HB.out) (H2.out.later co_stays HB.out) HOk.out HTW.out).mono ?_; rintro e w1 ⟨rfl, hb1⟩; have HB1 := hid (after HB.out hb1.out HB.out.size); have hz := frozen_no (lay hb1.out HX.out.2) 0; have HT2 := hid (lay hb1.out HX.out.2); have hy := cells_at HT2.out; clear hb1))
    exact bodyPost_ret (v := .int .i64 6) (by simp [results, Try.results16, go_sem, one_cell HT2.out]) rfl ⟨by rw [show Z = 6 by rw [HZ1.out, HTW.out]; rfl], hid (HB1.out.setCell (by show w.heap.size ≤ w.heap.size + 1; omega) _)⟩
  have HZ2 : Hid (Z = if unB ss cs then 5 else if firstC ss cs cs = 0 then mainF cs else firstC ss cs cs) := hid (by rw [HZ1.out, HTW.out]; rfl)
  have HND : Hid (dup (keysOf (namesL ss)) = false) := hid (by
    have h := HTW.out
    rw [twB, Bool.or_eq_false_iff, Bool.or_eq_false_iff] at h
    exact h.1.2)
  clear HZ1
  have hmm := @run_makeMap Try.prog
  refine (callsIn_wide (n := 10)).1 ?_
  refine callsIn_of_wp_marks Try.func16 rfl trivial ?_ rfl
  simp only [Try.ntmps16, List.size_toArray, List.length_cons, List.length_nil, Nat.reduceAdd, Nat.reduceSub, Array.replicate_succ, Array.replicate_zero, List.push_toArray, List.append_toArray, List.nil_append, List.cons_append]
  gi_wp2_with (refine ⟨trivial, ?_⟩; gi_at_call 34; refine (callsIn_wide.2 (twice_i ss cs sa ca sc cc false _ (H1.out.later st_stays HB.out) (H2.out.later co_stays HB.out) HOk.out HTW.out)).mono ?_; rintro e w3 ⟨rfl, hb3⟩; have H3 := hid (old_block hb3.out (Array.getElem?_eq_some_iff.1 HX.out.1).1 HX.out.1); have hc3 := cells_at H3.out; have hc4 := cells_at3 H3.out)
  have HB2 := hid (after HB.out hb3.out HB.out.size)
  have HN := hid (show w.heap.size + 1 < w3.heap.size from by have := hb3.out.size; simp at this; omega)
  have HR := hid (RG.start w ss cs sa ca sc cc w3 HB2.out HN.out H3.out (old_block hb3.out (Array.getElem?_eq_some_iff.1 HX.out.2).1 HX.out.2))
  obtain ⟨W4, hW4⟩ : ∃ W4, (((w3.alloc (.map #[] 0)).alloc (.cells (jV sa ca ss.length cs.length sc cc w3.heap.size (.string ⟨#[]⟩) (.int .i64 0) (.slice none 0 0) (.bool false) (.string ⟨#[]⟩) (.int .i64 0) (.slice none 0 0) (.slice none 0 0)) 70)).alloc (.cells #[.pointer (some ⟨w3.heap.size + 1, 0, none⟩)] 67)) = W4 := ⟨_, rfl⟩
  rw [hW4] at HR ⊢
  clear hW4 hc3 hc4 H3 hb3 HX HB HB2
  obtain ⟨B, hB⟩ : ∃ B, w3.heap.size = B := ⟨_, rfl⟩
  rw [hB] at HR HN ⊢
  clear hB hmm
  have hc := cells_at HR.out.t1
  gi_loopw [32] (fun p wr => ∃ k : Nat, k ≤ ss.length ∧ p = .int .i64 k ∧ Hid (RG w ss cs sa ca sc cc B k wr)) (fun p wr => ss.length - (intOf p).toNat)
  case atStart => exact ⟨0, by omega, rfl, HR⟩
  case round =>
    clear HR hc
    obtain ⟨k, hk, rfl, HR⟩ := hrel
    by_cases hlt : k < ss.length
    · have hlt' : (k : Int) < (ss.length : Int) := by omega
      obtain ⟨x, hx⟩ : ∃ x, ss[k]? = some x := ⟨_, List.getElem?_eq_getElem hlt⟩
      obtain ⟨b, o, rfl, hb1, fa, fc, hc1, -⟩ := (H1.out.later st_stays HR.out.below).2 k x hx
      have d0 := hc1 0 _ rfl
      have d1 := hc1 1 _ rfl
      have d2 := hc1 2 _ rfl
      have d3 := hc1 3 _ rfl
      simp only [Nat.add_zero] at d0
      have HR1 := hid (HR.out.later (below1 wr (.cells (StV x fa fc) 47)))
      have HNb := hid (heap_alloc_new wr (.cells (StV x fa fc) 47))
      have HSz := hid ((HOk.out.1 x (List.mem_of_getElem? hx)).1)
      have HLx := hid (mapN_succ (l := namesL ss) (k := k) (s := x.nm) (by rw [namesL, List.getElem?_map, hx]; rfl))
      have hkm : k ≤ 9223372036854775807 := by omega
      clear hx hc1 hb1 HR
      gi_wp2
      obtain ⟨W1, hW1⟩ : ∃ W1, wr.alloc (.cells (StV x fa fc) 47) = W1 := ⟨_, rfl⟩
      obtain ⟨X, hX⟩ : ∃ X, wr.heap.size = X := ⟨_, rfl⟩
      rw [hW1] at HR1 HNb ⊢
      rw [hX] at HNb ⊢
      clear hW1 hX d0 d1 d2 d3
      obtain ⟨w5, hrun, hown, hgrow⟩ := HR1.out.drew.m.update (string_keyed Try.underlying9) Try.underlying68 (by unfold maxLen; omega) (key := .string x.nm) (val := .int .i64 k) (WideMaps.keyOf_string_mk Try.underlying9 HSz.out) (plainElem_int Try.underlying3 (lit_wf k hkm))
      rw [← HLx.out] at hown
      have HPut := hid (HR1.out.drew.put hgrow hown)
      have hp : W1.cell? ⟨B + 1 + 1, 0, none⟩ = some (.pointer (some ⟨B + 1, 0, none⟩)) := cells_at HR1.out.p 0
      obtain ⟨v3, v4, v5, v6, v7, v8, v9, v10, hj⟩ := HR1.out.j
      have hj2 := cells_at hj 2
      have hx0 := cells_at HNb.out 0
      clear hown hgrow hj
      apply wpIn_at
      · gi_region
        all_goals exact ⟨rfl, rfl, rfl⟩
      gi_wp2
      go_roundw
      case rel => exact ⟨k + 1, by omega, rfl, HPut⟩
      case measure => simp [intOf]; omega
    · have hlt' : ¬ (k : Int) < (ss.length : Int) := by omega
      obtain rfl : k = ss.length := by omega
      have hc := cells_at HR.out.t1
      gi_wp2_with (refine ⟨trivial, ?_⟩; gi_at_call 35; refine (callsIn_wide.2 (types_fg _ rfl _)).mono ?_; rintro e w' ⟨rfl, rfl⟩)
      have HR2 := hid (HR.out.later (below1 _ (.cells (modV sa ca ss.length cs.length sc cc) 25)))
      have hM : (wr.alloc (.cells (modV sa ca ss.length cs.length sc cc) 25)).heap[wr.heap.size]? = some (.cells (modV sa ca ss.length cs.length sc cc) 25 (0, 0)) := heap_alloc_new wr _
      have hbig : B + 3 ≤ (wr.alloc (.cells (modV sa ca ss.length cs.length sc cc) 25)).heap.size := HR2.out.size
      obtain ⟨Q, hQ⟩ : ∃ Q, wr.heap.size = Q := ⟨_, rfl⟩
      rw [hQ] at hM ⊢
      clear hQ hc
      obtain ⟨W0, hW0⟩ : ∃ W0, wr.alloc (.cells (modV sa ca ss.length cs.length sc cc) 25) = W0 := ⟨_, rfl⟩
      rw [hW0] at HR2 hM hbig ⊢
      clear hW0 HR
      refine wpIn_rangeFunc_ownH rfl (by decide) (gf := 49) (lb := #[.pointer (some ⟨Q, 0, none⟩)]) rfl trivial (enters_of Try.func49 (by kernel_rfl) rfl)
        (types_o (10 - 1) (by decide) ss cs _ _ rfl rfl sa ca sc cc Q W0 (H1.out.later st_stays HR2.out.below) (H2.out.later co_stays HR2.out.below) hM) (fun h k => h.trans k) KS.put (Below.refl _ _) (fun _ => rfl)
        (fun pre W => RG w ss cs sa ca sc cc B ss.length W ∧ ∀ t ∈ pre, badB ss t.1 = false)
        (fun c pre W => c = .ret ∧ (∃ t ∈ pre, badB ss t.1 = true) ∧ Below w.heap.size w W ∧ W.heap[w.heap.size + 1]? = some (.cells #[.int .i64 5] 41 (0, 0)))
        (fun s A A' row hs hg hr => ⟨RG.own _ hbig [] A A' row hs.1 hg hr, hs.2⟩)
        (fun c s A A' row hs hg hr => ⟨hs.1, hs.2.1, hs.2.2.1.grown hg hs.2.2.1.size (fun i e => by have := (hr i e).1; have := HR2.out.low; omega), (hg.block _ (Array.getElem?_eq_some_iff.1 hs.2.2.2).1 (fun e => by have := (hr _ e.symm).1; have := HR2.out.low; omega)).trans hs.2.2.2⟩)
        ⟨HR2.out, fun t h => by cases h⟩
        (fun x a' W => ∃ Bx, B + 3 ≤ Bx ∧ W.heap[Bx]? = some (.cells #[.bool x.1.p, .string x.1.name] 31 (0, 0)) ∧ a' = { tmps := #[Value.agg (modV sa ca ss.length cs.length sc cc), Value.pointer (some { block := w.heap.size, off := 0 }), Value.pointer (some { block := w.heap.size + 1, off := 0 }), Value.pointer (some { block := B + 1 + 1, off := 0 }), u4, u5, Value.pointer (some ⟨Bx, 0, none⟩), undef, undef, undef, undef, undef, undef, Value.pointer (some { block := w.heap.size, off := 0 }), Value.slice sa ss.length sc, Value.int IntKind.i64 ↑ss.length, Value.bool false, Value.bool false, Value.pointer (some { block := w.heap.size, off := 1 }), Value.slice ca cs.length cc, Value.int IntKind.i64 ↑cs.length, Value.bool false, Value.bool false, Value.agg #[Value.slice sa ss.length sc, Value.slice ca cs.length cc], Value.bool false, Value.agg #[Value.slice sa ss.length sc, Value.slice ca cs.length cc], Value.map (some B), Value.agg #[Value.slice sa ss.length sc, Value.slice ca cs.length cc, Value.map (some B), Value.string ⟨#[]⟩, Value.int IntKind.i64 0, Value.slice none 0 0, Value.bool false, Value.string ⟨#[]⟩, Value.int IntKind.i64 0, Value.slice none 0 0, Value.slice none 0 0], Value.pointer (some { block := B + 1, off := 0 }), Value.pointer (some { block := w.heap.size, off := 0 }), Value.slice sa ss.length sc, Value.int IntKind.i64 ↑ss.length, Value.int IntKind.i64 ↑ss.length, Value.bool false, u34, u35, u36, u37, u38, u39, u40, u41, u42, u43, u44, Value.agg #[Value.slice sa ss.length sc, Value.slice ca cs.length cc], Value.func (Fn.func 49) #[] #[Value.pointer (some { block := Q, off := 0 })], Value.agg #[Value.bool x.1.p, Value.string x.1.name], undef, undef, undef, undef, undef, undef, undef, undef, undef, undef, undef, undef, undef, undef, undef, undef, undef, undef, undef, undef, undef, undef, undef, undef, undef, undef, undef, undef, undef, undef, undef, undef, undef, undef, undef, undef, undef, undef, undef, undef, undef, undef, undef, undef, undef, undef, undef, undef, undef, undef, undef, undef, undef, undef, undef, undef, undef, undef, undef, undef, undef, undef, undef], defers := [] })
        (fun x a' _ X Y row hs hg hr => by obtain ⟨Bx, h1, h2, h3⟩ := hs; exact ⟨Bx, h1, (hg.block _ (Array.getElem?_eq_some_iff.1 h2).1 (fun e => by obtain ⟨_, o, ho, hoc⟩ := hr _ e.symm; rw [h2] at ho; cases ho; cases hoc)).trans h2, h3⟩)
        ?assign ?body ?done ?stop
      case assign =>
        rintro l pre x W K ⟨hr1, hb1⟩ hK
        gi_wp2
        exact hK _ _ ((KeepsOthers.alloc _ _).from _) (KS.of_below (below1 _ _)) ⟨hr1.later (below1 _ _), hb1⟩ ⟨W.heap.size, hr1.size, heap_alloc_new _ _, rfl⟩
      case body =>
        rintro l pre x a' W hl ⟨r, hr⟩ ⟨hr1, hb1⟩ ⟨Bx, hBx, hX, rfl⟩ hlt
        have hls : Try.prog.follows .lateStores = true := by kernel_rfl
        have hp : W.cell? ⟨B + 1 + 1, 0, none⟩ = some (.pointer (some ⟨B + 1, 0, none⟩)) := cells_at hr1.p 0
        obtain ⟨v3, v4, v5, v6, v7, v8, v9, v10, hj⟩ := hr1.j
        have hj2 := cells_at hj 2
        have hx := cells_at hX
        obtain ⟨⟨tp, tn⟩, htm⟩ := x
        have hsz := ty_size HOk.out htm
        obtain ⟨v, ps, hlk, -⟩ := hr1.drew.m.look_ok (string_keyed Try.underlying9) Try.underlying68 (Try.zeroValue3 W.drew) (plainElem_int Try.underlying3 (by decide)) (WideMaps.keyOf_string_mk Try.underlying9 hsz)
        rw [key_has] at hlk
        obtain ⟨q, hq⟩ : ∃ q, decide (0 ≤ idxL (stN tn) ss 0) = q := ⟨_, rfl⟩
        rw [hq] at hlk
        obtain ⟨e, he⟩ : ∃ e, (tn.toList == []) = e := ⟨_, rfl⟩
        have HBad : Hid (badB ss ⟨tp, tn⟩ = (tp && !q || !tp && !e)) := hid (by
          have hd : decide (idxL (stN tn) ss 0 < 0) = !q := by
            rw [← hq]
            by_cases h : 0 ≤ idxL (stN tn) ss 0
            · rw [decide_eq_true h, decide_eq_false (by omega)]; rfl
            · rw [decide_eq_false h, decide_eq_true (by omega)]; rfl
          simp only [badB]
          rw [he, hd])
        have HQq := hid hq
        have hz := frozen_no hr1.t2 0
        have HR1 := hid hr1
        have HB1 := hid hb1
        clear hr1 hb1 hX hr hl hq hj hsz
        have HTM := hid htm
        gi_wp2
        apply wpIn_at
        · gi_region
          all_goals exact ⟨rfl, rfl, rfl⟩
        clear hlk
        have hzd := frozen_no HR1.out.drew.t2 0
        have hyd := cells_at HR1.out.drew.t2 0
        cases tp <;> cases q <;> cases e
        all_goals gi_wp2
        all_goals first
          | exact ⟨(KeepsOthers.drew _).from _, ⟨Nat.le_refl _, fun _ _ _ _ h => h⟩, HR1.out.drew, fun t ht => by
              rcases List.mem_append.1 ht with h | h
              · exact HB1.out t h
              · rw [List.mem_singleton] at h
                rw [h]
                exact HBad.out⟩
          | exact ⟨((KeepsOthers.drew _).trans (KeepsOthers.setCell _ _ _)).from _, rfl, ⟨_, List.mem_append_right _ (List.mem_singleton.2 rfl), HBad.out⟩, HR1.out.below.drew.setCell (by show w.heap.size ≤ w.heap.size + 1; omega) _, set_here HR1.out.drew.t2 0 _⟩
      case done =>
        rintro D xs W hD hxs ⟨hr1, hb1⟩ hK
        have hun : unB ss cs = false := by
          rw [← unB_all, ← hxs]
          refine List.any_eq_false.2 fun t ht => ?_
          obtain ⟨y, hy, rfl⟩ := List.mem_map.1 ht
          simpa using hb1 y hy
        have HUN := hid hun
        have HZ3 : Hid (Z = if firstC ss cs cs = 0 then mainF cs else firstC ss cs cs) := hid (by rw [HZ2.out, hun]; rfl)
        have hDB : B + 3 ≤ D := Nat.le_trans hbig hD
        have HDB := hid hDB
        have HR3 := hid hr1
        have HK := hid hK
        have hc := cells_at hr1.t1
        clear hb1 hxs hr1 hK hun hDB hD hM hbig
        gi_wp2
        clear hc
        gi_loopw [77] (fun p W5 => ∃ k : Nat, k ≤ cs.length ∧ p = .int .i64 k ∧ Hid (RG w ss cs sa ca sc cc B ss.length W5) ∧ Hid (W5.heap[D]? = some (.deferred (some []))) ∧ Hid (∀ (i : Nat) u, i < k → cs[i]? = some u → codF ss cs u = 0)) (fun p W5 => cs.length - (intOf p).toNat)
        case atStart => exact ⟨0, by omega, rfl, HR3, HK, hid (fun i u hi => absurd hi (by omega))⟩
        case round =>
          clear HR3 HK
          obtain ⟨k, hk, rfl, HR3, HK, HA⟩ := hrel
          by_cases hlk : k < cs.length
          · have hlk' : (k : Int) < (cs.length : Int) := by omega
            obtain ⟨c, hcx⟩ : ∃ c, cs[k]? = some c := ⟨_, List.getElem?_eq_getElem hlk⟩
            obtain ⟨bc, oc, rfl, hbc, va, vc, fa, fc, ia, ic, hcc, hcm⟩ := H2.out.2 k c hcx
            have d0 : wr.cell? ⟨bc, oc + k * 8, none⟩ = some (.string c.nm) := cell_keep HR3.out.below hbc (hcc 0 _ rfl)
            have d1 : wr.cell? ⟨bc, oc + k * 8 + 1, none⟩ = some (.int .i64 c.pr) := cell_keep HR3.out.below hbc (hcc 1 _ rfl)
            have d2 : wr.cell? ⟨bc, oc + k * 8 + 2, none⟩ = some (.slice va c.vs.length vc) := cell_keep HR3.out.below hbc (hcc 2 _ rfl)
            have d3 : wr.cell? ⟨bc, oc + k * 8 + 3, none⟩ = some (.bool c.rt.t.p) := cell_keep HR3.out.below hbc (hcc 3 _ rfl)
            have d4 : wr.cell? ⟨bc, oc + k * 8 + 4, none⟩ = some (.string c.rt.t.name) := cell_keep HR3.out.below hbc (hcc 4 _ rfl)
            have d5 : wr.cell? ⟨bc, oc + k * 8 + 5, none⟩ = some (.int .i64 c.rt.cls) := cell_keep HR3.out.below hbc (hcc 5 _ rfl)
            have d6 : wr.cell? ⟨bc, oc + k * 8 + 6, none⟩ = some (.slice fa c.fr.length fc) := cell_keep HR3.out.below hbc (hcc 6 _ rfl)
            have d7 : wr.cell? ⟨bc, oc + k * 8 + 7, none⟩ = some (.slice ia c.ins.length ic) := cell_keep HR3.out.below hbc (hcc 7 _ rfl)
            have HR4 := hid (HR3.out.later (below1 wr (.cells (CoV c va vc fa fc ia ic) 37)))
            have HCI := hid hcx
            have HDlt := hid ((Array.getElem?_eq_some_iff.1 HK.out).1)
            have HKD : Hid ((wr.alloc (.cells (CoV c va vc fa fc ia ic) 37)).heap[D]? = some (.deferred (some []))) := hid (old_block (below1 wr (.cells (CoV c va vc fa fc ia ic) 37)) HDlt.out HK.out)
            have HKO : Hid (KO ⟨ss, cs, c, sa, some ⟨bc, oc, none⟩, va, fa, ia, sc, cc, vc, fc, ic, B, ss.length, mapN (namesL ss) ss.length⟩) := hid ⟨by simp [namesL], HND.out, unB_vars HUN.out (List.mem_of_getElem? hcx), fun u hu => (HOk.out.1 u hu).1⟩
            obtain ⟨z, hz⟩ : ∃ z, codF ss cs c = z := ⟨_, rfl⟩
            have HZZ := hid hz
            have HCG : Hid (Calls Try.prog 36 #[.pointer (some ⟨B + 1, 0, none⟩), .agg (CoV c va vc fa fc ia ic)] (wr.alloc (.cells (CoV c va vc fa fc ia ic) 37)) fun e w' => e = .returned (.int .i64 z) ∧ Hid (Kept8 (B + 1) (wr.alloc (.cells (CoV c va vc fa fc ia ic) 37)) w') ∧ Hid (∃ u3 u4 u5 u6 u7 u8 u9 u10, w'.heap[B + 1]? = some (.cells (jV sa (some ⟨bc, oc, none⟩) ss.length cs.length sc cc B u3 u4 u5 u6 u7 u8 u9 u10) 70 (0, 0)))) := hid (by
              rw [← hz]
              obtain ⟨v3, v4, v5, v6, v7, v8, v9, v10, hj⟩ := HR4.out.j
              exact code_g ⟨ss, cs, c, sa, some ⟨bc, oc, none⟩, va, fa, ia, sc, cc, vc, fc, ic, B, ss.length, mapN (namesL ss) ss.length⟩ (B + 1) w (wr.alloc (.cells (CoV c va vc fa fc ia ic) 37)) v3 v4 v5 v6 v7 v8 v9 v10 HKO.out H1.out H2.out hcm HR4.out.below (by have := HR4.out.low; show w.heap.size ≤ B + 1; omega) hj HR4.out.m (by show B ≠ B + 1; omega) (by have := HR4.out.size; show B < _; omega))
            have hp : (wr.alloc (.cells (CoV c va vc fa fc ia ic) 37)).cell? ⟨B + 1 + 1, 0, none⟩ = some (.pointer (some ⟨B + 1, 0, none⟩)) := cells_at HR4.out.p 0
            have HDN : Hid (w.heap.size + 1 < D) := hid (by have := HDB.out; have := HR3.out.low; omega)
            clear hcx hcc hcm hbc hz HR3 HK
            by_cases z0 : z = 0
            · gi_wp2_with (refine ⟨trivial, ?_⟩; gi_at_call 36; refine (callsIn_wide.2 HCG.out).mono ?_; rintro e W6 ⟨rfl, hk6, hj6⟩; have HR6 := hid (HR4.out.judged hk6.out hj6.out); have HK6 := hid ((hk6.out.block D (by have := HDB.out; omega) (by have := HDlt.out; simp; omega)).trans HKD.out); clear hk6 hj6)
              go_roundw
              case rel => exact ⟨k + 1, by omega, rfl, HR6, HK6, hid (fun j u hj hu => by
                by_cases hjk : j < k
                · exact HA.out j u hjk hu
                · obtain rfl : j = k := by omega
                  rw [HCI.out] at hu
                  cases hu
                  exact HZZ.out.trans z0)⟩
              case measure => simp [intOf]; omega
            · have HZF : Hid (Z = z) := hid (by
                have h' : ¬ codF ss cs c = 0 := by rw [HZZ.out]; exact z0
                rw [HZ3.out, firstC_at HCI.out HA.out h', HZZ.out, if_neg z0])
              gi_wp2_with (refine ⟨trivial, ?_⟩; gi_at_call 36; refine (callsIn_wide.2 HCG.out).mono ?_; rintro e W6 ⟨rfl, hk6, hj6⟩; have HR6 := hid (HR4.out.judged hk6.out hj6.out); have HK6 := hid ((hk6.out.block D (by have := HDB.out; omega) (by have := HDlt.out; simp; omega)).trans HKD.out); have hz6 := frozen_no HR6.out.t2 0; have hy6 := cells_at HR6.out.t2 0; clear hk6 hj6)
              refine leave_r HDN.out HK6.out HR6.out.t2 HR6.out.below rfl (fun W' hb => ⟨by rw [HZF.out], hid hb⟩)
          · have hlk' : ¬ (k : Int) < (cs.length : Int) := by omega
            obtain rfl : k = cs.length := by omega
            have HFN := hid (firstC_none (ss := ss) (cs := cs) (l := cs) (fun j u hj hu => HA.out j u (by omega) hu))
            have HZM : Hid (Z = mainF cs) := hid (by rw [HZ3.out, if_pos HFN.out])
            have ht := cells_at HR3.out.t1
            have hmain : ∃ x, idxL (coN mainB) cs 0 = x := ⟨_, rfl⟩
            obtain ⟨x, hx⟩ := hmain
            have HXI := hid hx
            have HF := hid (func_co (.slice sa ss.length sc) cs ca cc mainB wr (H2.out.later co_stays HR3.out.below) ⟨_, _, _, rfl⟩)
            rw [hx] at HF
            have HDN : Hid (w.heap.size + 1 < D) := hid (by have := HDB.out; have := HR3.out.low; omega)
            clear hx
            by_cases x0 : x < 0
            · have HZ9 : Hid (Z = 9) := hid (by rw [HZM.out, mainF, HXI.out, if_pos x0])
              gi_wp2_with (refine ⟨trivial, ?_⟩; gi_at_call 12; refine (callsIn_wide.2 HF.out).mono ?_; rintro e W7 ⟨rfl, hb7⟩; have HR7 := hid (HR3.out.later hb7.out); have HK7 := hid (old_block hb7.out (Array.getElem?_eq_some_iff.1 HK.out).1 HK.out); have hz7 := frozen_no HR7.out.t2 0; have hy7 := cells_at HR7.out.t2 0; clear hb7)
              refine leave_r HDN.out HK7.out HR7.out.t2 HR7.out.below rfl (fun W' hb => ⟨by rw [HZ9.out], hid hb⟩)
            · obtain ⟨kx, rfl⟩ : ∃ k : Nat, x = k := ⟨x.toNat, by omega⟩
              obtain ⟨kx', c, hcx, -, hkx⟩ := idx_get (q := coN mainB) (l := cs) (k := 0) (by omega) (by rw [HXI.out]; omega)
              obtain rfl : kx' = kx := by rw [HXI.out] at hkx; omega
              obtain ⟨bc, oc, rfl, hbc, va, vc, fa, fc, ia, ic, hcc, hcm⟩ := (H2.out.later co_stays HR3.out.below).2 kx' c hcx
              have HCC := hid (fun (W : World) (hb : Below wr.heap.size wr W) => And.intro (cell_keep hb hbc (hcc 1 (Value.int .i64 c.pr) rfl)) (cell_keep hb hbc (hcc 3 (Value.bool c.rt.t.p) rfl)))
              have k1 : (kx' : Int) < (cs.length : Int) := by have := (List.getElem?_eq_some_iff.1 hcx).1; omega
              have k0 : (0 : Int) ≤ (kx' : Int) := by omega
              have HZ9 : Hid (Z = if c.pr = 0 ∧ c.rt.t.p = false then 0 else 9) := hid (by rw [HZM.out, mainF, HXI.out, if_neg x0, Int.toNat_natCast, hcx])
              obtain ⟨tp, htp⟩ : ∃ b, c.rt.t.p = b := ⟨_, rfl⟩
              rw [htp] at HZ9 HCC
              clear hcx hcc hcm hbc
              by_cases p0 : c.pr = 0
              · have p0' : (c.pr != 0) = false := by simpa using p0
                cases tp
                · have HZE : Hid (Z = 0) := hid (by rw [HZ9.out]; simp [p0])
                  gi_wp2_with (refine ⟨trivial, ?_⟩; gi_at_call 12; refine (callsIn_wide.2 HF.out).mono ?_; rintro e W7 ⟨rfl, hb7⟩; have HR7 := hid (HR3.out.later hb7.out); have HK7 := hid (old_block hb7.out (Array.getElem?_eq_some_iff.1 HK.out).1 HK.out); have ht7 := cells_at HR7.out.t1; have hc7 := (HCC.out _ hb7.out).1; have hc8 := (HCC.out _ hb7.out).2; have hz7 := frozen_no HR7.out.t2 0; have hy7 := cells_at HR7.out.t2 0; clear hb7)
                  refine leave_r HDN.out HK7.out HR7.out.t2 HR7.out.below rfl (fun W' hb => ⟨by rw [HZE.out], hid hb⟩)
                · have HZE : Hid (Z = 9) := hid (by rw [HZ9.out]; simp [p0])
                  gi_wp2_with (refine ⟨trivial, ?_⟩; gi_at_call 12; refine (callsIn_wide.2 HF.out).mono ?_; rintro e W7 ⟨rfl, hb7⟩; have HR7 := hid (HR3.out.later hb7.out); have HK7 := hid (old_block hb7.out (Array.getElem?_eq_some_iff.1 HK.out).1 HK.out); have ht7 := cells_at HR7.out.t1; have hc7 := (HCC.out _ hb7.out).1; have hc8 := (HCC.out _ hb7.out).2; have hz7 := frozen_no HR7.out.t2 0; have hy7 := cells_at HR7.out.t2 0; clear hb7)
                  refine leave_r HDN.out HK7.out HR7.out.t2 HR7.out.below rfl (fun W' hb => ⟨by rw [HZE.out], hid hb⟩)
              · have p0' : (c.pr != 0) = true := by simpa using p0
                have HZE : Hid (Z = 9) := hid (by rw [HZ9.out]; simp [p0])
                clear HZ9
                gi_wp2_with (refine ⟨trivial, ?_⟩; gi_at_call 12; refine (callsIn_wide.2 HF.out).mono ?_; rintro e W7 ⟨rfl, hb7⟩; have HR7 := hid (HR3.out.later hb7.out); have HK7 := hid (old_block hb7.out (Array.getElem?_eq_some_iff.1 HK.out).1 HK.out); have ht7 := cells_at HR7.out.t1; have hc7 := (HCC.out _ hb7.out).1; have hc8 := (HCC.out _ hb7.out).2; have hz7 := frozen_no HR7.out.t2 0; have hy7 := cells_at HR7.out.t2 0; clear hb7)
                refine leave_r HDN.out HK7.out HR7.out.t2 HR7.out.below rfl (fun W' hb => ⟨by rw [HZE.out], hid hb⟩)
      case stop =>
        rintro D c pre W hD hpre ⟨rfl, ⟨x, hx, hbad⟩, hb, h5⟩ hK
        have hun : unB ss cs = true := by
          rw [← unB_all]
          exact List.any_eq_true.2 ⟨x.1, x.2, hbad⟩
        have HZ5 : Hid (Z = 5) := hid (by rw [HZ2.out, hun]; rfl)
        gi_wp2
        refine leave_s (S := D) (b := w.heap.size + 1) (v := .int .i64 5) hK rfl h5 (by have := HR2.out.low; omega) ?_
        exact ⟨by rw [HZ5.out], hid (below_put hb _ (by have := HR2.out.low; have := HR2.out.size; omega))⟩
end Go.Proofs.Ytfhdiahjfnphkaa
