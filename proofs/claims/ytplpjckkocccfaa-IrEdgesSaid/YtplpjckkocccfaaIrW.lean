/- IrEdges, the first half: the edges by the reference are laid down. No conditions. -/
import Derived.Test.YtplpjckkocccfaaIrV
import Derived.Test.YtplpjckkocccfaaIrJ
import Derived.Maps.OwnIn
namespace Go.Proofs.Ytplpjckkocccfaa
open Go.RowKit Go.Maps Go.Shelf
set_option linter.unusedVariables false
set_option linter.unusedSimpArgs false
attribute [local go_sem] Oper.semAt_some
theorem leave_e {n S b : Nat} {Q : Ending → World → Prop} {W : World} {tm : Array Value} {v : Value} (hD : W.heap[S]? = some (.deferred (some []))) (h4 : tm[4]?.getD undef = .pointer (some ⟨b, 0, none⟩))
    (hb : W.heap[b]? = some (.cells #[v] 4 (0, 0))) (e : b ≠ S) (hQ : Q (.returned v) (W.putObj S (.deferred none))) :
    bodyPostM Fence.wide n Try.prog Try.f4 Q Exit.ret { tmps := tm, defers := [{ target := .collected S, args := #[] }] } W :=
  ⟨by simp, .inl ⟨_, _, rfl, run_takeDeferred hD, _, res_e h4 ((World.putObj_heap_other e).trans hb), hQ⟩⟩
theorem EP.end_ {w W W' : World} {stop : Int} {fb Nb cnt D : Nat} {vf vt : Value} {L : List (Int × Int)} (h : EP w W stop fb Nb vf vt L cnt) (hD : Nb + 2 ≤ D) (hK : W.heap[D]? = some (.deferred (some []))) (hb : Below W.heap.size W W') :
    (W'.setCell ⟨w.heap.size + 1 + 1, 0, none⟩ (.bool true)).heap[D]? = some (.deferred (some [])) ∧ (W'.setCell ⟨w.heap.size + 1 + 1, 0, none⟩ (.bool true)).heap[w.heap.size + 1 + 1]? = some (.cells #[.bool true] 4 (0, 0)) ∧ w.heap.size + 1 + 1 ≠ D ∧
      Below w.heap.size w ((W'.setCell ⟨w.heap.size + 1 + 1, 0, none⟩ (.bool true)).putObj D (.deferred none)) := by
  have h1 := h.lo
  have h2 := h.lo2
  have hr := old_block hb (Array.getElem?_eq_some_iff.1 h.r).1 h.r
  refine ⟨(Below.heap_setCell _ _ _ _ (by show D ≠ w.heap.size + 1 + 1; omega)).trans (old_block hb (Array.getElem?_eq_some_iff.1 hK).1 hK), ?_, by omega, ?_⟩
  · simp [World.setCell, Array.getElem?_modify, hr]
  · exact below_put ((after h.below hb h.below.size).setCell (by show w.heap.size ≤ w.heap.size + 1 + 1; omega) _) _ (by omega)
set_option maxRecDepth 100000 in
set_option maxHeartbeats 8000000 in
theorem edges_law (nm : ByteArray) (c1 : Int) (c3 : Bool) (c4 : ByteArray) (c5 : Int) (va : Option Addr) (nv cv : Nat) (fa : Option Addr) (nf cf : Nat) (A : Option Addr) (n cap : Nat) (rs : List IR) (stop : Int) (w : World)
    (hI : InsN w.heap.size w A rs) (hn : rs.length = n) :
    Calls Try.prog 4 #[.agg (codeO nm c1 c3 c4 c5 va nv cv fa nf cf A n cap), .int .i64 stop] w fun e w' => e = .returned (.bool true) ∧ Hid (Below w.heap.size w w') := by
  have HN := hid hn
  have HI := hid hI
  clear hn hI
  have HS := hid (B3.start w (codeO nm c1 c3 c4 c5 va nv cv fa nf cf A n cap) stop)
  refine (callsIn_wide (n := 10)).1 ?_
  refine callsIn_of_wp_marks Try.func4 rfl trivial ?_ rfl
  simp only [Try.ntmps4, List.size_toArray, List.length_cons, List.length_nil, Nat.reduceAdd, Nat.reduceSub, Array.replicate_succ, Array.replicate_zero, List.push_toArray, List.append_toArray, List.nil_append, List.cons_append]
  gi_wp2_with (first
    | (refine ⟨trivial, ?_⟩; gi_at_call 5; refine (callsIn_wide.2 (alive_i _)).mono ?_; rintro e w1 ⟨rfl, hb⟩; have H1 := hid (HS.out.later hb.out); have hc1 := cells_at H1.out.c; clear HS hb)
    | (refine ⟨trivial, ?_⟩; gi_at_call 15; have hB1 := below1 w1 (.cells (codeO nm c1 c3 c4 c5 va nv cv fa nf cf A n cap) 42); refine (callsIn_wide.2 (light_i nm c1 c3 c4 c5 va nv cv fa nf cf A n cap rs w1.heap.size _ (heap_alloc_new _ _) ((HI.out.at (Nat.le_trans H1.out.below.size hB1.size) (after H1.out.below hB1 H1.out.below.size).block).insL) HN.out)).mono ?_; rintro e w2 ⟨⟨l, rfl, hl⟩, hb2⟩; have HLt := hid hl; have H2 := hid ((H1.out.later hB1).later hb2.out); clear hB1 hb2 hl hc1))
  all_goals clear H1
  · have hr2 := frozen_no H2.out.r 0
    have hr3 := cells_at H2.out.r
    gi_wp2_with (refine ⟨trivial, ?_⟩; gi_at_call 5; refine (callsIn_wide.2 (alive_i _)).mono ?_; rintro e w3 ⟨rfl, hb⟩; have H3 := hid (H2.out.later hb.out); clear hb; have hr4 := frozen_no H3.out.r 0; have hr5 := cells_at H3.out.r)
    have e := H3.out.set true
    exact ⟨_, res_e (b := w.heap.size + 1 + 1) (v := .bool true) rfl e.2, rfl, hid e.1⟩
  · have hn4 : n ≤ 400 := HLt.out (by cases l <;> simp_all)
    have HE0 := hid (ES.start H2.out)
    have hN2 : w.heap.size ≤ w2.heap.size := H2.out.below.size
    obtain ⟨fb, hfb⟩ : ∃ fb, w2.heap.size = fb := ⟨_, rfl⟩
    obtain ⟨W0, hW0⟩ : ∃ W0, (w2.alloc (.cells #[n0] 22)).alloc (.cells #[n0] 22) = W0 := ⟨_, rfl⟩
    rw [hW0] at HE0 ⊢
    rw [hfb] at HE0 hN2 ⊢
    clear hW0 hfb H2 HLt
    gi_loopw [7] (fun p wr => ∃ (k : Nat) (vf vt : Value), k ≤ n ∧ p = .int .i64 k ∧ Hid (ES w wr (codeO nm c1 c3 c4 c5 va nv cv fa nf cf A n cap) stop fb vf vt ((eds rs k).map Prod.fst) ((eds rs k).map Prod.snd) none [])) (fun p wr => n - (intOf p).toNat)
    case atStart => exact ⟨0, _, _, by omega, rfl, HE0⟩
    case round =>
      obtain ⟨k, vf, vt, hkn, rfl, HE⟩ := hrel
      clear HE0
      have hc := cells_at HE.out.c
      by_cases hlt : k < n
      · have hlt' : (k : Int) < (n : Int) := by omega
        obtain ⟨r, hr⟩ : ∃ r, rs[k]? = some r := ⟨_, List.getElem?_eq_getElem (by rw [HN.out]; exact hlt)⟩
        obtain ⟨b, o, rfl, hbN, hi⟩ := HI.out.at HE.out.below.size HE.out.below.block k r hr
        have e0 := hi.c0
        have e1 := hi.c1
        have e2 := hi.c2
        have e3 := hi.c3
        have e4 := hi.c4
        have e5 := hi.c5
        have e6 := hi.c6
        have e7 := hi.c7
        have e8 := hi.c8
        have e9 := hi.c9
        have e10 := hi.c10
        have e11 := hi.c11
        have e12 := hi.c12
        have HR := hid hr
        clear hi hr
        gi_wp2_with (refine ⟨trivial, ?_⟩; gi_at_call 12; refine (callsIn_wide.2 (rnext_n r.op r.d r.a r.b r.tt r.el (k : Int) _ _ _ _ _ _ _ _ (by omega) (by omega))).mono ?_; rintro e W2 ⟨v, rfl, HV, HB⟩; obtain ⟨ra, rc, rfl, hrow⟩ := HV.out)
        have HE2 := hid (HE.out.setRow HB.out hrow)
        have HT := hid (fun (j : Nat) (x : Int) (h : (nxt r.op (k : Int) r.tt r.el)[j]? = some x) => row_get h)
        have HLen : Hid ((rowE k r).length = (nxt r.op (k : Int) r.tt r.el).length) := hid (by simp [rowE])
        clear hrow HV HB HE hc e0 e1 e2 e3 e4 e5 e6 e7 e8 e9 e10 e11 e12
        obtain ⟨xs, hxs⟩ : ∃ xs, nxt r.op (k : Int) r.tt r.el = xs := ⟨_, rfl⟩
        obtain ⟨q, hq⟩ : ∃ q, xs.length = q := ⟨_, rfl⟩
        have hq2 : q ≤ 2 := by rw [← hq, ← hxs]; exact nxt_two _ _ _ _
        rw [hxs] at HE2 HT HLen ⊢
        rw [hq] at HLen ⊢
        have HQ := hid hq
        clear hxs hq
        have HE3 : Hid (ES w W2 (codeO nm c1 c3 c4 c5 va nv cv fa nf cf (some ⟨b, o, none⟩) n cap) stop fb vf vt ((eds rs k ++ (rowE k r).take 0).map Prod.fst) ((eds rs k ++ (rowE k r).take 0).map Prod.snd) ra xs) := hid (by simpa using HE2.out)
        clear HE2
        gi_loopw [9] (fun p wr2 => ∃ (j : Nat) (vf vt : Value), j ≤ q ∧ p = .int .i64 j ∧ Hid (ES w wr2 (codeO nm c1 c3 c4 c5 va nv cv fa nf cf (some ⟨b, o, none⟩) n cap) stop fb vf vt ((eds rs k ++ (rowE k r).take j).map Prod.fst) ((eds rs k ++ (rowE k r).take j).map Prod.snd) ra xs)) (fun p wr2 => q - (intOf p).toNat)
        case atStart => exact ⟨0, _, _, by omega, rfl, HE3⟩
        case round =>
          obtain ⟨j, vf, vt, hjq, rfl, HE⟩ := hrel
          clear HE3
          by_cases hlj : j < q
          · have hlj' : (j : Int) < (q : Int) := by omega
            obtain ⟨x, hx⟩ : ∃ x, xs[j]? = some x := ⟨_, List.getElem?_eq_getElem (by rw [HQ.out]; exact hlj)⟩
            obtain ⟨rb, rfl, hr1, hr2, hr3, hr4, hr5⟩ := HE.out.row (by rintro rfl; simp at hx)
            have hX := HT.out j x hx
            have hf := cells_at HE.out.f
            have HLL := hid (show (eds rs k ++ (rowE k r).take j).length ≤ 2000 from by have := part_len rs k j r; omega)
            obtain ⟨lf, hlf⟩ : ∃ lf, (eds rs k ++ (rowE k r).take j).map Prod.fst = lf := ⟨_, rfl⟩
            obtain ⟨lt, hltt⟩ : ∃ lt, (eds rs k ++ (rowE k r).take j).map Prod.snd = lt := ⟨_, rfl⟩
            have HLF := hid (show lf.length ≤ 2000 from by rw [← hlf, List.length_map]; exact HLL.out)
            have HLT := hid (show lt.length ≤ 2000 from by rw [← hltt, List.length_map]; exact HLL.out)
            have HLF1 := hid hlf
            have HLT1 := hid hltt
            rw [hlf, hltt] at HE
            clear HLL hlf hltt
            have HE1 := hid (HE.out.later (below1 wr (.cells #[.int .i64 (k : Int)] 3)))
            have G1 : True := trivial
            obtain ⟨i0t, hti, hz0, hz1, hz2⟩ := info_parts info3
            gi_wp2_with (first
              | (gi_at_builtin; have hh := G1; clear G1; go_must (refine wpListIn_append_own_at _ rfl _ _ 22 rfl (fb + 2) 3 i0t (.int .i64 0) 1 8 Try.underlying22 hti hz0 hz1 hz2 rfl (by decide) vf lf.length (vals lf) rfl HE1.out.rf _ 1 1 [.int .i64 (k : Int)] rfl rfl (one_at' _ _ _ rfl) (by intro u hu; simp at hu; subst hu; rfl) (by have := HLF.out; unfold maxLen; omega) (by have := HLF.out; omega) (by have := HE1.out.size; simpa using this) ?_)
                 intro v' w3 hown hgrow hnil hblk
                 obtain ⟨A3, c3', rfl⟩ := own_form' hown
                 have q := HE1.out.pushF (k : Int) _ hown hgrow hblk
                 have HF2 := hid q.1
                 have HE2 := hid q.2
                 have hf2 := cells_at HF2.out
                 have hf3 := frozen_no HF2.out 0
                 clear q hown hgrow hnil hblk))
            obtain ⟨W3, hW3⟩ : ∃ W3, w3.setCell ⟨fb, 0, none⟩ (.slice A3 (lf.length + 1) c3') = W3 := ⟨_, rfl⟩
            rw [hW3] at HE2 ⊢
            clear hW3 hf2 hf3 HF2 HE1 HE hf hr1 hr2 hr3 hr4 hr5 hh
            obtain ⟨rb', e, hr1, hr2, hr3, hr4, hr5⟩ := HE2.out.row (by rintro rfl; simp at hx)
            cases e
            have hc := hr5 j x hx
            have ht := cells_at HE2.out.t
            have HE3 := hid ((HE2.out.later (below1 W3 (.cells #[.int .i64 x] 3))).later (below_drew1 _))
            have hc2 : W3.drew.cell? ⟨rb, j, none⟩ = some (.int .i64 x) := hc
            have ht2 : ∀ i, W3.drew.cell? ⟨fb + 1, i, none⟩ = (#[vt] : Array Value)[i]? := ht
            have ht3 := cells_at HE3.out.t
            clear hr1 hr2 hr3 hr4 hr5
            refine wpIn_onlyN (wpIn_wide.2 ?_)
            go_region_law (refine step_append_at rfl (.tmp 46) (.tmp 51) 22 rfl (fb + 2) 3 i0t (.int .i64 0) 1 8 Try.underlying22 hti hz0 hz1 hz2 rfl (by decide) vt lt.length (vals lt) rfl HE3.out.rt _ 1 1 [.int .i64 x] rfl rfl (one_at' _ _ _ rfl) (by intro u hu; simp at hu; subst hu; rfl) (by have := HLT.out; unfold maxLen; omega) (by have := HLT.out; omega) (by have := HE3.out.size; simpa using this) ?_
                           intro v' w4 hown hgrow hblk
                           obtain ⟨A4, c4', rfl⟩ := own_form' hown
                           have q := HE3.out.pushT x _ hown hgrow hblk
                           have HF4 := hid q.1
                           have HE4 := hid q.2
                           have hf2 := cells_at HF4.out
                           have hf3 := frozen_no HF4.out 0
                           clear q hown hgrow hblk)
            all_goals
              refine onlyN_norm ?_
              gi_wp2
              have hHE : ES w (w4.setCell ⟨fb + 1, 0, none⟩ (.slice A4 (lt.length + 1) c4')) (codeO nm c1 c3 c4 c5 va nv cv fa nf cf (some ⟨b, o, none⟩) n cap) stop fb (.slice A3 (lf.length + 1) c3') (.slice A4 (lt.length + 1) c4') ((eds rs k ++ (rowE k r).take (j + 1)).map Prod.fst) ((eds rs k ++ (rowE k r).take (j + 1)).map Prod.snd) (some ⟨rb, 0, none⟩) xs := by
                have q1 : (eds rs k ++ (rowE k r).take (j + 1)).map Prod.fst = lf ++ [(k : Int)] := by rw [hX, ← List.append_assoc, List.map_append, HLF1.out]; rfl
                have q2 : (eds rs k ++ (rowE k r).take (j + 1)).map Prod.snd = lt ++ [x] := by rw [hX, ← List.append_assoc, List.map_append, HLT1.out]; rfl
                rw [q1, q2]
                exact HE4.out
              refine ⟨⟨j + 1, _, _, by omega, rfl, hid hHE⟩, ?_⟩
              simp [intOf]
              omega
          · have hlj' : ¬ (j : Int) < (q : Int) := by omega
            have hHE := HE.out.xs0
            rw [List.take_of_length_le (by rw [HLen.out]; omega), ← eds_succ HR.out] at hHE
            have HE5 := hid hHE
            clear hHE HE
            gi_wp2
            go_roundw
            case rel => exact ⟨k + 1, by omega, rfl, _, _, HE5⟩
            case measure => simp [intOf]; omega
      · have hlt' : ¬ (k : Int) < (n : Int) := by omega
        obtain rfl : k = n := by omega
        have hc1 := fun o => cells_at1 HE.out.c o
        gi_wp2_with (refine ⟨trivial, ?_⟩; gi_at_call 16; refine (callsIn_wide.2 (edgesf_i _ rfl _)).mono ?_; rintro e w9 ⟨rfl, rfl⟩)
        have hB9 := below2 wr (.cells #[.int .i64 0] 3) (.cells (codeO nm c1 c3 c4 c5 va nv cv fa nf cf A k cap) 42)
        have hN9 := (Below.heap_alloc (wr.alloc (.cells #[.int .i64 0] 3)) (.cells (codeO nm c1 c3 c4 c5 va nv cv fa nf cf A k cap) 42) _ (by simp)).trans (heap_alloc_new wr (.cells #[.int .i64 0] 3))
        have HP0 := hid (EP.start HE.out hB9 hN9)
        have hM := heap_alloc_new (wr.alloc (.cells #[.int .i64 0] 3)) (.cells (codeO nm c1 c3 c4 c5 va nv cv fa nf cf A k cap) 42)
        have hI9 := HI.out.at (W' := (wr.alloc (.cells #[.int .i64 0] 3)).alloc (.cells (codeO nm c1 c3 c4 c5 va nv cv fa nf cf A k cap) 42)) (Nat.le_trans HE.out.below.size hB9.size) (after HE.out.below hB9 HE.out.below.size).block
        obtain ⟨Nb, hNb⟩ : ∃ Nb, wr.heap.size = Nb := ⟨_, rfl⟩
        have hs9 : ((wr.alloc (.cells #[.int .i64 0] 3)).alloc (.cells (codeO nm c1 c3 c4 c5 va nv cv fa nf cf A k cap) 42)).heap.size = Nb + 2 := by simp [hNb]
        have hNw : w.heap.size ≤ Nb := by rw [← hNb]; exact HE.out.below.size
        have hIx : Nb < ((wr.alloc (.cells #[.int .i64 0] 3)).alloc (.cells (codeO nm c1 c3 c4 c5 va nv cv fa nf cf A k cap) 42)).heap.size := by omega
        have hseq := edges_s 9 (by decide) w.heap.size Nb (wr.alloc (.cells #[.int .i64 0] 3)).heap.size nm c1 c3 c4 c5 va nv cv fa nf cf A k cap rs _ hM hI9 HN.out hn4 hIx hNw
        obtain ⟨L, hL⟩ : ∃ L, eds rs k = L := ⟨_, rfl⟩
        obtain ⟨W0, hW0⟩ : ∃ W0, (wr.alloc (.cells #[.int .i64 0] 3)).alloc (.cells (codeO nm c1 c3 c4 c5 va nv cv fa nf cf A k cap) 42) = W0 := ⟨_, rfl⟩
        have hLL : L.length ≤ 2000 := by have := eds_len rs k; rw [hL] at this; omega
        simp only [World.size_alloc] at hseq
        rw [hW0] at HP0 hs9 hseq ⊢
        rw [hNb] at HP0 hseq ⊢
        rw [hL] at HP0 hseq
        clear hW0 hNb hL hIx hI9 hM hN9 hB9 hc1 hc HE
        obtain ⟨fA, fC, e, -⟩ := HP0.out.rf
        rw [List.length_map] at e
        subst e
        obtain ⟨tA, tC, e, -⟩ := HP0.out.rt
        rw [List.length_map] at e
        subst e
        refine wpIn_rangeFunc_ownH rfl (by decide) (gf := 23) (lb := #[.pointer (some ⟨Nb + 1, 0, none⟩)]) rfl trivial (enters_of Try.func23 (by kernel_rfl) rfl)
          hseq (fun h k => h.trans k) (KE.put (by omega)) (Below.refl _ _) (fun _ => rfl)
          (fun pre W => EP w W stop fb Nb (.slice fA L.length fC) (.slice tA L.length tC) L pre.length ∧ pre <+: L ∧ ¬ (0 < stop ∧ stop ≤ pre.length))
          (fun c pre W => c = .ret ∧ ¬ pre <+: L ∨ c = .exit 4 ∧ EP w W stop fb Nb (.slice fA L.length fC) (.slice tA L.length tC) L pre.length ∧ stop = pre.length ∧ 0 < pre.length)
          (fun pre A B row hs hg hr => ⟨hs.1.own (by omega) hg hr, hs.2⟩)
          (fun c pre A B row hs hg hr => hs.imp id fun h => ⟨h.1, h.2.1.own (by omega) hg hr, h.2.2⟩)
          ⟨HP0.out, List.nil_prefix, by simp only [List.length_nil]; omega⟩
          (fun (x : Int × Int) (a' : Act) (_ : World) => a' = { tmps := #[Value.agg (codeO nm c1 c3 c4 c5 va nv cv fa nf cf A k cap), Value.int IntKind.i64 stop, Value.pointer (some { block := w.heap.size, off := 0 }), Value.pointer (some { block := w.heap.size + 1, off := 0 }), Value.pointer (some { block := w.heap.size + 1 + 1, off := 0 }), Value.pointer (some { block := fb, off := 0 }), Value.pointer (some { block := fb + 1, off := 0 }), Value.int IntKind.i64 ↑k, u8, u9, Value.pointer (some { block := Nb, off := 0 }), Value.int IntKind.i64 x.fst, Value.int IntKind.i64 x.snd, undef, Value.bool true, Value.bool false, Value.agg #[Value.string nm, Value.int IntKind.i64 c1, Value.slice va nv cv, Value.bool c3, Value.string c4, Value.int IntKind.i64 c5, Value.slice fa nf cf, Value.slice A k cap], Value.slice (some { block := w1.heap.size, off := 0 }) 1 1, Value.agg #[Value.slice none 0 0, Value.slice (some { block := w1.heap.size, off := 0 }) 1 1], Value.bool l, Value.bool false, undef, Value.int IntKind.i64 ↑k, Value.pointer (some { block := w.heap.size, off := 7 }), Value.slice A k cap, Value.int IntKind.i64 ↑k, Value.bool false, u27, u28, u29, u30, u31, u32, u33, u34, u35, u36, u37, u38, u39, u40, u41, u42, u43, u44, u45, u46, u47, u48, u49, u50, u51, u52, Value.agg #[Value.string nm, Value.int IntKind.i64 c1, Value.slice va nv cv, Value.bool c3, Value.string c4, Value.int IntKind.i64 c5, Value.slice fa nf cf, Value.slice A k cap], Value.func (Fn.func 23) #[] #[Value.pointer (some { block := Nb + 1, off := 0 })], Value.int IntKind.i64 x.fst, Value.int IntKind.i64 x.snd, undef, undef, undef, undef, undef, undef, undef, undef, undef, undef, undef, undef, undef, undef, undef, undef, undef, undef, undef, undef, undef, undef, undef, undef, undef, undef, undef, undef, undef, undef, undef, undef, undef, undef, undef, undef, undef, undef, undef, undef, undef], defers := [] })
          (fun _ _ _ _ _ _ h _ _ => h)
          ?assign ?body ?done ?stop
        case assign =>
          rintro l' pre x W K hI' hK
          gi_wp2
          exact hK _ _ (KeepsFrom.refl _ _) (KE.refl _ _ _) hI' rfl
        case body =>
          rintro l' pre x a' W hl ⟨r', hr'⟩ ⟨hp, hpre, hst⟩ rfl hlt3
          have hs9' := cells_at hp.s
          have hr9 := cells_at hp.r
          have hrf := frozen_no hp.r 0
          have hf9 := cells_at hp.f
          have ht9 := cells_at hp.t
          have hn9 := cells_at hp.nb
          have hnf := frozen_no hp.nb 0
          obtain ⟨y, hy⟩ : ∃ y, L[pre.length]? = some y := ⟨_, List.getElem?_eq_getElem hlt3⟩
          obtain ⟨b1, rfl, hc1⟩ := hp.rf.get (j := pre.length) (x := y.1) (by rw [List.getElem?_map, hy]; rfl)
          obtain ⟨b2, rfl, hc2⟩ := hp.rt.get (j := pre.length) (x := y.2) (by rw [List.getElem?_map, hy]; rfl)
          have HP := hid hp
          have HPre := hid hpre
          have HSt := hid hst
          have HY := hid hy
          clear hp hpre hst hy hr' hl
          have hlt4 : ¬ (L.length : Int) ≤ (pre.length : Int) := by omega
          have hlt5 : (pre.length : Int) < (L.length : Int) := by omega
          cases e1 : (x.1 != y.1)
          case true =>
            gi_wp2
            exact ⟨(KeepsOthers.setCell _ _ _).from _, .inl ⟨rfl, fun hq => by have := pre_at hq; rw [HY.out] at this; cases this; simp at e1⟩⟩
          case false =>
            cases e2 : (x.2 != y.2)
            case true =>
              gi_wp2
              exact ⟨(KeepsOthers.setCell _ _ _).from _, .inl ⟨rfl, fun hq => by have := pre_at hq; rw [HY.out] at this; cases this; simp at e2⟩⟩
            case false =>
              have hxy : x = y := by
                obtain ⟨x1, x2⟩ := x
                obtain ⟨y1, y2⟩ := y
                simp at e1 e2
                rw [e1, e2]
              subst hxy
              have HPX := hid (pre_snoc HPre.out HY.out)
              have HE9 := hid (HP.out.count ((pre.length : Int) + 1) (by omega))
              have hs10 := cells_at HE9.out.s
              have hn10 := cells_at HE9.out.nb
              cases e3 : (((pre.length : Int) + 1) == stop)
              case true =>
                gi_wp2
                exact ⟨(KeepsOthers.setCell _ _ _).from _, .inr ⟨rfl, by rw [List.length_append]; exact HE9.out, by simp at e3; rw [← e3]; simp, by simp⟩⟩
              case false =>
                gi_wp2
                exact ⟨(KeepsOthers.setCell _ _ _).from _, KE.setNb _ _ hNw, by rw [List.length_append]; exact HE9.out, HPX.out, fun h0 => by have := HSt.out; simp at e3; simp; omega⟩
        case done =>
          rintro D xs W hD hS ⟨hp, hpre, hst⟩ hK
          subst hS
          have hs9' := cells_at hp.s
          have hr9 := cells_at hp.r
          have hrf := frozen_no hp.r 0
          have hf9 := cells_at hp.f
          have hn9 := cells_at hp.nb
          have HP := hid hp
          have HK := hid hK
          clear hp hpre hK
          by_cases h0 : 0 < stop
          · have h1 : ¬ stop < (xs.length : Int) := by omega
            gi_wp2_with (refine ⟨trivial, ?_⟩; gi_at_call 5; refine (callsIn_wide.2 (alive_i _)).mono ?_; rintro e w7 ⟨rfl, hb7⟩; have hr7 := cells_at (old_block hb7.out (Array.getElem?_eq_some_iff.1 HP.out.r).1 HP.out.r); have hrf7 := frozen_no (old_block hb7.out (Array.getElem?_eq_some_iff.1 HP.out.r).1 HP.out.r) 0)
            have e := HP.out.end_ (by omega) HK.out hb7.out
            exact leave_e (S := D) (b := w.heap.size + 1 + 1) (v := .bool true) e.1 rfl e.2.1 e.2.2.1 ⟨rfl, hid e.2.2.2⟩
          · gi_wp2_with (refine ⟨trivial, ?_⟩; gi_at_call 5; refine (callsIn_wide.2 (alive_i _)).mono ?_; rintro e w7 ⟨rfl, hb7⟩; have hr7 := cells_at (old_block hb7.out (Array.getElem?_eq_some_iff.1 HP.out.r).1 HP.out.r); have hrf7 := frozen_no (old_block hb7.out (Array.getElem?_eq_some_iff.1 HP.out.r).1 HP.out.r) 0)
            have e := HP.out.end_ (by omega) HK.out hb7.out
            exact leave_e (S := D) (b := w.heap.size + 1 + 1) (v := .bool true) e.1 rfl e.2.1 e.2.2.1 ⟨rfl, hid e.2.2.2⟩
        case stop =>
          rintro D c pre W hD hS hix hK
          rcases hix with ⟨rfl, hno⟩ | ⟨rfl, hp, hst, hpos⟩
          · exact absurd hS hno
          · have hs9' := cells_at hp.s
            have hr9 := cells_at hp.r
            have hrf := frozen_no hp.r 0
            have hf9 := cells_at hp.f
            have hn9 := cells_at hp.nb
            have hle := hS.length_le
            have HP := hid hp
            have HK := hid hK
            have h0 : 0 < stop := by omega
            clear hp hK hS
            by_cases h1 : stop < (L.length : Int)
            · have h2 : ((pre.length : Int) == stop) = true := by simp; omega
              gi_wp2_with (refine ⟨trivial, ?_⟩; gi_at_call 5; refine (callsIn_wide.2 (alive_i _)).mono ?_; rintro e w7 ⟨rfl, hb7⟩; have hr7 := cells_at (old_block hb7.out (Array.getElem?_eq_some_iff.1 HP.out.r).1 HP.out.r); have hrf7 := frozen_no (old_block hb7.out (Array.getElem?_eq_some_iff.1 HP.out.r).1 HP.out.r) 0)
              have e := HP.out.end_ (by omega) HK.out hb7.out
              exact leave_e (S := D) (b := w.heap.size + 1 + 1) (v := .bool true) e.1 rfl e.2.1 e.2.2.1 ⟨rfl, hid e.2.2.2⟩
            · have h2 : ((pre.length : Int) == (L.length : Int)) = true := by simp; omega
              gi_wp2_with (refine ⟨trivial, ?_⟩; gi_at_call 5; refine (callsIn_wide.2 (alive_i _)).mono ?_; rintro e w7 ⟨rfl, hb7⟩; have hr7 := cells_at (old_block hb7.out (Array.getElem?_eq_some_iff.1 HP.out.r).1 HP.out.r); have hrf7 := frozen_no (old_block hb7.out (Array.getElem?_eq_some_iff.1 HP.out.r).1 HP.out.r) 0)
              have e := HP.out.end_ (by omega) HK.out hb7.out
              exact leave_e (S := D) (b := w.heap.size + 1 + 1) (v := .bool true) e.1 rfl e.2.1 e.2.2.1 ⟨rfl, hid e.2.2.2⟩
end Go.Proofs.Ytplpjckkocccfaa
