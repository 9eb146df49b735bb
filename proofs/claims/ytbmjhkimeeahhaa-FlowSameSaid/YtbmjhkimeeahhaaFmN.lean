/- FlowSame, as a call: it returns true, and leaves what was as it was. No conditions. -/
import Derived.Test.YtbmjhkimeeahhaaFmM
import Derived.BigQuiet
namespace Go.Proofs.Ytbmjhkimeeahhaa
open Go.RowKit Go.Maps Go.Shelf
set_option linter.unusedVariables false
set_option linter.unusedSimpArgs false
attribute [local go_sem] Oper.semAt_some
theorem res6 {x : Array Value} {b : Nat} {W : World} {v : Value} (h6 : x[2]?.getD undef = .pointer (some ⟨b, 0, none⟩)) (hb : W.heap[b]? = some (.cells #[v] 4 (0, 0))) :
    (results Try.f6 x).run Try.prog W = .ok v W := by
  have c0 : W.cell? ⟨b, 0, none⟩ = some v := cells_at hb 0
  simp [results, Try.results6, go_sem, h6, c0]
theorem leave6 {n S b : Nat} {Q : Ending → World → Prop} {W : World} {tm : Array Value} {v : Value} (hD : W.heap[S]? = some (.deferred (some []))) (h4 : tm[2]?.getD undef = .pointer (some ⟨b, 0, none⟩))
    (hb : W.heap[b]? = some (.cells #[v] 4 (0, 0))) (e : b ≠ S) (hQ : Q (.returned v) (W.putObj S (.deferred none))) :
    bodyPostM Fence.wide n Try.prog Try.f6 Q Exit.ret { tmps := tm, defers := [{ target := .collected S, args := #[] }] } W :=
  ⟨by simp, .inl ⟨_, _, rfl, run_takeDeferred hD, _, res6 h4 ((World.putObj_heap_other e).trans hb), hQ⟩⟩
theorem has_same (x : CoD) {i j : Nat} (hi : i < x.ins.length) (hj : j < x.ins.length) : (edgesL x i).any (fun y => decide (y = (j : Int))) = (behE (eds x.ins x.ins.length) j).any (fun y => decide (y = (i : Int))) := by
  rw [Bool.eq_iff_iff, List.any_eq_true, List.any_eq_true]
  obtain ⟨r, hr⟩ := get_some (l := x.ins) (i := i) rfl hi
  constructor
  · rintro ⟨y, hy, e⟩
    obtain rfl : y = (j : Int) := of_decide_eq_true e
    unfold edgesL at hy
    rw [hr] at hy
    refine ⟨(i : Int), ?_, by simp⟩
    unfold behE
    exact List.mem_map.2 ⟨((i : Int), (j : Int)), List.mem_filter.2 ⟨eds_mem hi hr (List.mem_filter.1 hy).1, by simp⟩, rfl⟩
  · rintro ⟨y, hy, e⟩
    obtain rfl : y = (i : Int) := of_decide_eq_true e
    unfold behE at hy
    obtain ⟨p, hp, e1⟩ := List.mem_map.1 hy
    obtain ⟨hp, e2⟩ := List.mem_filter.1 hp
    obtain ⟨i', r', hi', hr', ha, hb⟩ := eds_first (Nat.le_refl _) hp
    have e2 : p.2 = (j : Int) := of_decide_eq_true e2
    obtain rfl : i' = i := by omega
    rw [hr] at hr'
    cases hr'
    refine ⟨(j : Int), ?_, by simp⟩
    unfold edgesL
    rw [hr]
    exact List.mem_filter.2 ⟨e2 ▸ hb, inN_t (by omega) (by omega)⟩
/-- The law's two first boxes: the code, the answer. -/
structure SB (w : World) (cv : Array Value) (W : World) : Prop where
  bel : Below w.heap.size w W
  c : W.heap[w.heap.size]? = some (.cells cv 30 (0, 0))
  r : W.heap[w.heap.size + 1]? = some (.cells #[.bool false] 4 (0, 0))
section
variable {w W W' : World} {cv : Array Value}
theorem SB.start (w : World) (cv : Array Value) : SB w cv ((w.alloc (.cells cv 30)).alloc (.cells #[.bool false] 4)) := by
  have h := boxes' w cv 30 #[.bool false] 4
  exact ⟨below2 w _ _, h.1, h.2⟩
theorem SB.later (h : SB w cv W) (hb : Below W.heap.size W W') : SB w cv W' := ⟨after h.bel hb h.bel.size, lay hb h.c, lay hb h.r⟩
theorem SB.low {S : Nat} (h : SB w cv W) (hb : Below S W W') (hS : w.heap.size + 1 < S) : SB w cv W' := ⟨h.bel.trans (hb.mono (by omega)), (hb.block _ (by omega)).trans h.c, (hb.block _ hS).trans h.r⟩
theorem SB.set (h : SB w cv W) (b : Bool) : Below w.heap.size w (W.setCell ⟨w.heap.size + 1, 0, none⟩ (.bool b)) ∧ (W.setCell ⟨w.heap.size + 1, 0, none⟩ (.bool b)).heap[w.heap.size + 1]? = some (.cells #[.bool b] 4 (0, 0)) :=
  ⟨h.bel.setCell (by show w.heap.size ≤ w.heap.size + 1; omega) _, by simp [World.setCell, Array.getElem?_modify, h.r]⟩
end
theorem FromIs.nodup {x : CoD} {k : Int} {s : List Nat} (h : FromIs x k s) : s.Nodup := by
  rcases h with ⟨-, rfl⟩ | ⟨a, l, h0, h1, m, hK⟩
  · simp
  · exact hK.fresh.2
/-- And n, what was met, its block. -/
structure SR (w : World) (cv : Array Value) (N M V n : Nat) (m : Met) (W : World) : Prop where
  sb : SB w cv W
  bl : BlM W M n m
  nb : W.heap[N]? = some (.cells #[.int .i64 (n : Int)] 3 (0, 0))
  vb : W.heap[V]? = some (.cells #[.slice (some ⟨M, 0, none⟩) n n] 34 (0, 0))
section
variable {w W W' : World} {cv : Array Value} {N M V n S : Nat} {m : Met}
theorem SR.later (h : SR w cv N M V n m W) (hb : Below W.heap.size W W') : SR w cv N M V n m W' := ⟨h.sb.later hb, h.bl.later hb, lay hb h.nb, lay hb h.vb⟩
theorem SR.low (h : SR w cv N M V n m W) (hb : Below S W W') (h1 : w.heap.size + 1 < S) (h2 : N < S) (h3 : M < S) (h4 : V < S) : SR w cv N M V n m W' :=
  ⟨h.sb.low hb h1, h.bl.at (hb.block _ h3), (hb.block _ h2).trans h.nb, (hb.block _ h4).trans h.vb⟩
theorem SR.put {k : Nat} (h : SR w cv N M V n m W) (h1 : w.heap.size + 1 < M) (h2 : N ≠ M) (h3 : V ≠ M) : SR w cv N M V n (mark m k) (W.setCell ⟨M, k, none⟩ (.bool true)) := by
  have hne : ∀ i, i ≠ M → (W.setCell ⟨M, k, none⟩ (.bool true)).heap[i]? = W.heap[i]? := fun i hi => Below.heap_setCell _ _ _ _ hi
  exact ⟨⟨h.sb.bel.setCell (p := ⟨M, k, none⟩) (by show w.heap.size ≤ M; omega) _, (hne _ (by omega)).trans h.sb.c, (hne _ (by omega)).trans h.sb.r⟩, h.bl.set k, (hne _ h2).trans h.nb, (hne _ h3).trans h.vb⟩
end
/-- And the lists, and what the range left. -/
structure ST (w : World) (cv : Array Value) (N M V n : Nat) (m : Met) (T ba : Nat) (vs : Nat → Value) (F : Nat → List Int) (c S : Nat) (W : World) : Prop where
  sr : SR w cv N M V n m W
  tab : Tab W T ba n vs F c
  k : W.heap[S]? = some (.deferred (some []))
theorem ST.later {w W W' : World} {cv : Array Value} {N M V n T ba c S : Nat} {m : Met} {vs : Nat → Value} {F : Nat → List Int} (h : ST w cv N M V n m T ba vs F c S W) (hb : Below W.heap.size W W') : ST w cv N M V n m T ba vs F c S W' :=
  ⟨h.sr.later hb, h.tab.later hb, (hb.block _ (Array.getElem?_eq_some_iff.1 h.k).1).trans h.k⟩
theorem ST.held {w W : World} {cv : Array Value} {N M V n T ba c S : Nat} {m : Met} {vs : Nat → Value} {F : Nat → List Int} (h : ST w cv N M V n m T ba vs F c S W) :
    (∀ i, W.cell? ⟨w.heap.size, i, none⟩ = cv[i]?) ∧ W.cell? ⟨V, 0, none⟩ = some (.slice (some ⟨M, 0, none⟩) n n) ∧ W.cell? ⟨N, 0, none⟩ = some (.int .i64 (n : Int)) :=
  ⟨fun i => cells_at h.sr.sb.c i, cells_at h.sr.vb 0, cells_at h.sr.nb 0⟩
theorem SB.end_ {w W : World} {cv : Array Value} {S : Nat} (h : SB w cv W) (hS : w.heap.size + 1 < S) (hK : W.heap[S]? = some (.deferred (some []))) :
    (W.setCell ⟨w.heap.size + 1, 0, none⟩ (.bool true)).heap[S]? = some (.deferred (some [])) ∧ (W.setCell ⟨w.heap.size + 1, 0, none⟩ (.bool true)).heap[w.heap.size + 1]? = some (.cells #[.bool true] 4 (0, 0)) ∧ w.heap.size + 1 ≠ S ∧
      Below w.heap.size w ((W.setCell ⟨w.heap.size + 1, 0, none⟩ (.bool true)).putObj S (.deferred none)) :=
  ⟨(Below.heap_setCell _ _ _ _ (by show S ≠ w.heap.size + 1; omega)).trans hK, (h.set true).2, by omega, (h.set true).1.trans (below_put _ (by omega))⟩
theorem truths_two {x : CoD} {G M n : Nat} {m m2 : Met} {W : World} (hn : n < 1000000) (h1 : BlM W M n m) (hw1 : ∀ k, k < n → (m k = true ↔ Way (nxE x) 0 k)) (h2 : BlM W G n m2) (hw2 : ∀ k, k < n → (m2 k = true ↔ Way (nxE x) 0 k)) :
    Calls Try.prog 9 #[.slice (some ⟨M, 0, none⟩) n n, .slice (some ⟨G, 0, none⟩) n n] W fun e w' => e = .returned (.bool true) ∧ Hid (Below W.heap.size W w') :=
  truths_same hn h1 hw1 ⟨by simp, h2.list (by omega), fun i hi => by
    rw [← hw2 i hi]
    simp [hi]⟩
set_option maxRecDepth 100000 in
set_option maxHeartbeats 16000000 in
theorem same_law (x : CoD) (va fa ia : Option Addr) (vc fc ic : Nat) (w : World) (hC : CoM w x va fa ia) :
    Calls Try.prog 6 #[.agg (CoV x va vc fa fc ia ic)] w fun e w' => e = .returned (.bool true) ∧ Hid (Below w.heap.size w w') := by
  obtain ⟨i0t, hti, hz0, hz1, hz2⟩ := info_parts info4
  have HS := hid (SB.start w (CoV x va vc fa fc ia ic))
  have HC := hid hC
  obtain ⟨L, hL⟩ := from_is x 0
  have HL := hid hL
  clear hC hL
  refine (callsIn_wide (n := 10)).1 ?_
  refine callsIn_of_wp_marks Try.func6 rfl trivial ?_ rfl
  simp only [Try.ntmps6, List.size_toArray, List.length_cons, List.length_nil, Nat.reduceAdd, Nat.reduceSub, Array.replicate_succ, Array.replicate_zero, List.push_toArray, List.append_toArray, List.nil_append, List.cons_append]
  refine wpIn_wide.2 ?_
  go_upto_region 5 with (first
    | (go_at_call 8; refine (alive_i _).mono ?_; rintro e w1 ⟨rfl, hb⟩; have H1 := hid (HS.out.later hb.out); have hc1 := cells_at H1.out.c; clear HS hb)
    | (go_at_call 7; go_must (refine (light8 x va fa ia vc fc ic _ (HC.out.later H1.out.bel)).mono ?_); rintro e w2 ⟨⟨l, rfl, hl⟩, hb⟩; have H2 := hid (H1.out.later hb.out); have HLt := hid hl; have hxc := cells_at H2.out.c; have hr2 := frozen_no H2.out.r 0; have hr3 := cells_at H2.out.r; clear hb hl hc1))
  all_goals clear H1
  · go_wp2
    have e := H2.out.set true
    exact ⟨_, res6 (b := w.heap.size + 1) (v := .bool true) rfl e.2, rfl, hid e.1⟩
  · have hn := HLt.out (by cases l <;> simp_all)
    have HN : Hid (x.ins.length ≤ 150) := hid hn
    have HM : Hid (i0t.bytes * x.ins.length ≤ 281474976710656) := hid (by rw [hz2]; omega)
    have HM3 : Hid (x.ins.length ≤ maxLen) := hid (by unfold maxLen; omega)
    clear HLt hn hr2 hr3
    have H3 := hid (H2.out.later (below1 w2 (.cells #[.int .i64 (x.ins.length : Int)] 3)))
    have HNB := hid (heap_alloc_new w2 (.cells #[.int .i64 (x.ins.length : Int)] 3))
    have hnb := cells_at HNB.out
    go_wp2_with (first
      | (at_make; refine wpList_make_full _ rfl _ _ 34 rfl (w2.heap.size + 1) 4 i0t (.bool false) 1 Try.underlying34 hti hz0 hz1 .i64 .i64 (x.ins.length : Int) (x.ins.length : Int) x.ins.length rfl rfl rfl rfl HM.out HM3.out (by simp) ?_; intro w3 hown hgrow
         have HB3 := hid ((Below.refl _ _).grown hgrow (Nat.le_refl _) (by rintro k e; cases e))
         have HBL := hid (BlM.made hown)
         have H4 := hid (H3.out.later HB3.out)
         have HNB4 := hid (lay HB3.out HNB.out)
         have hxc4 := cells_at (lay (below1 w3 (.cells #[.slice (some ⟨w2.heap.size + 1, 0, none⟩) x.ins.length x.ins.length] 34)) H4.out.c)
         clear hown hgrow hxc hnb)
      | (go_at_call 16; refine (from_f _ rfl 0 _).mono ?_; rintro e w4 ⟨rfl, rfl⟩))
    have hbl0 := HBL.out
    rw [World.size_alloc] at hbl0
    have hsz1 : w2.heap.size + 1 < w3.heap.size := hbl0.lt
    have hb3 := below3a w3 (.cells #[.slice (some ⟨w2.heap.size + 1, 0, none⟩) x.ins.length x.ins.length] 34) (.cells (CoV x va vc fa fc ia ic) 30) (.cells #[.int .i64 0] 3)
    have hch := chain3 w3 #[.slice (some ⟨w2.heap.size + 1, 0, none⟩) x.ins.length x.ins.length] (CoV x va vc fa fc ia ic) #[.int .i64 0] 34 30 3
    have hcb := box3b w3 (CoV x va vc fa fc ia ic) 30 (.cells #[.slice (some ⟨w2.heap.size + 1, 0, none⟩) x.ins.length x.ins.length] 34) (.cells #[.int .i64 0] 3)
    have hsz3 : (((w3.alloc (.cells #[.slice (some ⟨w2.heap.size + 1, 0, none⟩) x.ins.length x.ins.length] 34)).alloc (.cells (CoV x va vc fa fc ia ic) 30)).alloc (.cells #[.int .i64 0] 3)).heap.size = w3.heap.size + 3 := by simp
    have hSR0 : SR w (CoV x va vc fa fc ia ic) w2.heap.size (w2.heap.size + 1) w3.heap.size x.ins.length (among []) (((w3.alloc (.cells #[.slice (some ⟨w2.heap.size + 1, 0, none⟩) x.ins.length x.ins.length] 34)).alloc (.cells (CoV x va vc fa fc ia ic) 30)).alloc (.cells #[.int .i64 0] 3)) :=
      ⟨H4.out.later hb3, by rw [among_nil]; exact hbl0.later hb3, lay hb3 HNB4.out, hch.1⟩
    obtain ⟨W0, hW0⟩ : ∃ W0, ((w3.alloc (.cells #[.slice (some ⟨w2.heap.size + 1, 0, none⟩) x.ins.length x.ins.length] 34)).alloc (.cells #[.string x.nm, .int .i64 x.pr, .slice va x.vs.length vc, .bool x.rt.t.p, .string x.rt.t.name, .int .i64 x.rt.cls, .slice fa x.fr.length fc, .slice ia x.ins.length ic] 30)).alloc (.cells #[.int .i64 0] 3) = W0 := ⟨_, rfl⟩
    rw [hW0] at hSR0 hch hcb hsz3 ⊢
    have hw2 := (Array.getElem?_eq_some_iff.1 H2.out.r).1
    have hO0 : Below w.heap.size w W0 := hSR0.sb.bel
    have hcb' : W0.heap[w3.heap.size + 1]? = some (.cells (CoV x va vc fa fc ia ic) 30 (0, 0)) := hcb
    have hseq := from_s 9 (by decide) x va fa ia vc fc ic w W0 0 (w3.heap.size + 1) (w3.heap.size + 1 + 1) (w2.heap.size + 1) L (by have := HN.out; omega) HC.out.ins (by omega) (by omega) hO0 hcb' hch.2.2 HL.out
    obtain ⟨N, hNe⟩ : ∃ N, w2.heap.size = N := ⟨_, rfl⟩
    obtain ⟨V, hVe⟩ : ∃ V, w3.heap.size = V := ⟨_, rfl⟩
    rw [hNe, hVe] at hSR0 hseq hsz1 ⊢
    rw [hNe] at hw2
    rw [hVe] at hsz3
    obtain ⟨M, hMe⟩ : ∃ M, N + 1 = M := ⟨_, rfl⟩
    rw [hMe] at hSR0 hseq hsz1 ⊢
    have HSZ : Hid (W0.heap.size = V + 3 ∧ w.heap.size + 1 < N ∧ N < M ∧ M < V) := hid ⟨hsz3, hw2, by omega, hsz1⟩
    have HSR0 := hid hSR0
    have HRF := hid (fun W hb => reach_f x va fa ia vc fc ic w W (by have := HN.out; omega) HC.out.ins hb)
    have HBF := hid (fun W hb => behind_f x va fa ia vc fc ic w W (by have := HN.out; omega) HC.out.ins hb)
    have HNX := hid (fun (k : Nat) (r : InD) (W : World) (hb : Below w.heap.size w W) (hr : x.ins[k]? = some r) => rnext8_g x k r va fa ia vc fc ic W hr (by have := (List.getElem?_eq_some_iff.1 hr).1; have := HN.out; omega) (HC.out.ins.later in_stays hb))
    clear hbl0 hch hcb hcb' hsz3 hO0 hb3 hW0 hMe hNe hVe HBL hxc4 HNB HNB4 H2 H3 H4 HB3 hw2 hSR0 hsz1 HM HM3
    refine (wpIn_wide (n := 10)).1 ?_
    refine range_low 10 (by decide) (gf := 28) (lb := #[.pointer (some ⟨V + 1, 0, none⟩), .pointer (some ⟨V + 1 + 1, 0, none⟩)]) rfl (enters_of Try.func28 (by kernel_rfl) rfl) hseq (by have := HSZ.out; omega) (fun _ => rfl)
      (fun pre W => SR w (CoV x va vc fa fc ia ic) N M V x.ins.length (among pre) W) (fun _ _ _ => False)
      (fun pre A B h hb => h.low hb (by have := HSZ.out; omega) (by have := HSZ.out; omega) (by have := HSZ.out; omega) (by have := HSZ.out; omega)) (fun _ _ _ _ h _ => h)
      HSR0.out
      (fun k => { tmps := #[Value.agg (CoV x va vc fa fc ia ic), Value.pointer (some ⟨w.heap.size, 0, none⟩), Value.pointer (some ⟨w.heap.size + 1, 0, none⟩), Value.pointer (some ⟨N, 0, none⟩), Value.pointer (some ⟨V, 0, none⟩), Value.int .i64 (k : Int), undef, undef, undef, undef, Value.bool true, Value.bool false, Value.agg #[.string x.nm, .int .i64 x.pr, .slice va x.vs.length vc, .bool x.rt.t.p, .string x.rt.t.name, .int .i64 x.rt.cls, .slice fa x.fr.length fc, .slice ia x.ins.length ic], Value.bool l, Value.bool false, Value.pointer (some ⟨w.heap.size, 7, none⟩), Value.slice ia x.ins.length ic, Value.int .i64 (x.ins.length : Int), Value.int .i64 (x.ins.length : Int), Value.slice (some ⟨M, 0, none⟩) x.ins.length x.ins.length, Value.agg #[.string x.nm, .int .i64 x.pr, .slice va x.vs.length vc, .bool x.rt.t.p, .string x.rt.t.name, .int .i64 x.rt.cls, .slice fa x.fr.length fc, .slice ia x.ins.length ic], Value.func (.func 28) #[] #[.pointer (some ⟨V + 1, 0, none⟩), .pointer (some ⟨V + 1 + 1, 0, none⟩)], Value.int .i64 (k : Int), undef, undef, undef, undef, undef, undef, undef, undef, undef, undef, undef, undef, undef, undef, undef, undef, undef, undef, undef, undef, undef, undef, undef, undef, undef, undef, undef, undef, undef, undef, undef, undef, undef, undef, undef, undef, undef, undef, undef, undef, undef, undef, undef, undef, undef, undef, undef, undef, undef, undef, undef, undef], defers := [] })
      ?assign ?body ?done ?stop
    case assign =>
      intro l k W K hK
      gi_wp2
      exact hK
    case body =>
      rintro lr pre k W hpre hsz h
      have hkn : k < x.ins.length := HL.out.lt k (hpre.subset (by simp))
      have k0 : (0 : Int) ≤ (k : Int) := by omega
      have kn0 : ¬ (k : Int) < 0 := by omega
      have k1 : (k : Int) < (x.ins.length : Int) := by omega
      have kn1 : ¬ (x.ins.length : Int) ≤ (k : Int) := by omega
      have n9 : (x.ins.length : Int) ≤ 150 := by have := HN.out; omega
      have hcn := cells_at h.nb
      have hcv := cells_at h.vb
      have hcm : W.cell? ⟨M, k, none⟩ = some (.bool false) := by
        have h1 := h.bl.cell hkn
        rw [show among pre k = false from by
          have h2 := (FromIs.nodup HL.out).sublist hpre.sublist
          simp only [among]
          rw [List.nodup_append] at h2
          simpa using fun q => h2.2.2 k q k (by simp) rfl] at h1
        exact h1
      have hfm := h.bl.soft k
      have H := hid h
      clear h hpre
      gi_wp2
      have h1 := HSZ.out
      exact ⟨⟨rfl, rfl, rfl, by simp [World.setCell], fun i hi hne => Below.heap_setCell _ _ _ _ (fun e => hne (by rw [e]))⟩, by show SR _ _ _ _ _ _ (among (pre ++ [k])) _; rw [among_snoc]; exact H.out.put (k := k) (by omega) (by omega) (by omega)⟩
    case done =>
      rintro W h hK
      have hc0 := cells_at h.sb.c
      have H := hid h
      have HK := hid hK
      clear h hK HSR0 hseq
      go_wp2_with (go_at_call 13; go_must (refine (HBF.out _ H.out.sb.bel).mono ?_); rintro e v3 ⟨T, ba, vsa, rfl, ht, hb⟩; have H2 := hid (H.out.later hb.out.2.2); have HTA := hid ht.out; have HK2 := hid ((hb.out.2.2.block _ (Array.getElem?_eq_some_iff.1 HK.out).1).trans HK.out); clear hb ht)
      have HP0 := hid ((⟨H2.out, HTA.out, HK2.out⟩ : ST w (CoV x va vc fa fc ia ic) N M V x.ins.length (among L) T ba vsa (behE (eds x.ins x.ins.length)) (2 * x.ins.length) W0.heap.size v3).later (below_drew1 v3))
      have hheld := (⟨H2.out, HTA.out, HK2.out⟩ : ST w (CoV x va vc fa fc ia ic) N M V x.ins.length (among L) T ba vsa (behE (eds x.ins x.ins.length)) (2 * x.ins.length) W0.heap.size v3).held
      have HWL : Hid (∀ k, k < x.ins.length → (among L k = true ↔ Way (nxE x) 0 k)) := hid (fun k hk => by
        rw [← FromIs.ways HL.out (by omega) k]
        simp [among])
      have HNM : Hid (x.ins.length < 1000000) := hid (by have := HN.out; omega)
      clear H H2 HTA HK HK2 hc0
      have hnn : ((x.ins.length : Int) != (x.ins.length : Int)) = false := by simp
      have T1 : True := trivial
      go_region_held3 (fun W => (∀ i, W.cell? ⟨w.heap.size, i, none⟩ = (CoV x va vc fa fc ia ic)[i]?) ∧ W.cell? ⟨V, 0, none⟩ = some (.slice (some ⟨M, 0, none⟩) x.ins.length x.ins.length) ∧ W.cell? ⟨N, 0, none⟩ = some (.int .i64 (x.ins.length : Int)))
        (first | exact HP0.out.held | exact HP1.out.held | exact HP2.out.held)
        (first
        | (go_at_call 10; have tok := HP0; clear HP0; go_must (refine (HRF.out _ tok.out.sr.sb.bel).mono ?_); rintro e v4 ⟨G, m, rfl, hbl, hm, hb⟩; have HP1 := hid (tok.out.later hb.out.2); have HG := hid hbl.out; have HGM := hid hm.out; clear hb tok hbl hm)
        | (go_at_call 9; have tok := HP1; clear HP1; go_must (refine (truths_two HNM.out tok.out.sr.bl HWL.out HG.out HGM.out).mono ?_); rintro e v5 ⟨rfl, hb⟩; have HP2 := hid (tok.out.later hb.out); clear hb tok))
      all_goals
        have HQ0 := HP2
        clear HG HGM HP2 hheld
        go_wp2
        go_loopg [7] x.ins.length (fun gk p wr => ∃ i : Nat, i ≤ x.ins.length ∧ gk = x.ins.length - i ∧ p = .int .i64 i ∧ Hid (ST w (CoV x va vc fa fc ia ic) N M V x.ins.length (among L) T ba vsa (behE (eds x.ins x.ins.length)) (2 * x.ins.length) W0.heap.size wr))
        case atStart => exact ⟨0, by omega, by omega, rfl, HQ0⟩
        case round =>
          clear HQ0
          obtain ⟨i, hi, rfl, rfl, HQ⟩ := hrel
          have hc0 := cells_at HQ.out.sr.sb.c
          have hcn := cells_at HQ.out.sr.nb
          have n9 : (x.ins.length : Int) ≤ 150 := by have := HN.out; omega
          by_cases hin : i < x.ins.length
          · have hin' : (i : Int) < (x.ins.length : Int) := by omega
            have i0 : (0 : Int) ≤ (i : Int) := by omega
            obtain ⟨r, hr⟩ := get_some (l := x.ins) (i := i) rfl hin
            have HR := hid hr
            have HIN := hid hin
            clear hr
            go_wp2_with (go_at_call 21; go_must (refine (HNX.out i r _ HQ.out.sr.sb.bel HR.out).mono ?_); rintro e w8 ⟨v8, rfl, hi8, ho8, hb8⟩; have HQ8 := hid (HQ.out.later hb8.out); obtain ⟨A8, c8, rfl, hA8⟩ := hi8.out; have HA8 := hid hA8; clear hi8 ho8 hb8 hc0 hcn hA8)
            clear HQ
            obtain ⟨E, hE⟩ : ∃ E, edgesL x i = E := ⟨_, rfl⟩
            have HE := hid hE
            rw [hE] at HA8 ⊢
            obtain ⟨qe, hqe⟩ : ∃ qe, E.length = qe := ⟨_, rfl⟩
            have HQE := hid hqe
            rw [hqe]
            clear hE hqe
            go_loopg [9] x.ins.length (fun gk p wr => ∃ j : Nat, j ≤ x.ins.length ∧ gk = x.ins.length - j ∧ p = .int .i64 j ∧ Hid (ST w (CoV x va vc fa fc ia ic) N M V x.ins.length (among L) T ba vsa (behE (eds x.ins x.ins.length)) (2 * x.ins.length) W0.heap.size wr) ∧ Hid (IntsM wr A8 E))
            case atStart => exact ⟨0, by omega, by omega, rfl, HQ8, HA8⟩
            case round =>
              clear HQ8 HA8
              obtain ⟨j, hj, rfl, rfl, HQ, HA8⟩ := hrel
              have hcn := cells_at HQ.out.sr.nb
              by_cases hjn : j < x.ins.length
              · have hjn' : (j : Int) < (x.ins.length : Int) := by omega
                have j0 : (0 : Int) ≤ (j : Int) := by omega
                obtain ⟨A2, cap2, e2, hI2⟩ := HQ.out.tab.ints hjn (by have := HN.out; omega)
                have hct := HQ.out.tab.cell hjn
                rw [e2] at hct
                have hsm := has_same x HIN.out hjn
                rw [HE.out] at hsm
                have hh1 := fun n => has_i E A8 c8 (j : Int) (wr.drewN n) (HA8.out.later int_stays (below_drewN (Below.refl _ _) n))
                have hh2 := fun n => has_i (behE (eds x.ins x.ins.length) j) A2 cap2 (i : Int) (wr.drewN n) (hI2.later int_stays (below_drewN (Below.refl _ _) n))
                obtain ⟨bb, hbb⟩ : ∃ bb, E.any (fun y => decide (y = (j : Int))) = bb := ⟨_, rfl⟩
                obtain ⟨qb, hqb⟩ : ∃ qb, (behE (eds x.ins x.ins.length) j).length = qb := ⟨_, rfl⟩
                have HH1 : Hid (∀ n, Calls Try.prog 23 #[.slice A8 qe c8, .int .i64 (j : Int)] (wr.drewN n) fun e w'' => e = .returned (.bool bb) ∧ ∃ n, w'' = wr.drewN n) := hid (fun n => by
                  have h := hh1 n
                  rw [hbb, HQE.out] at h
                  exact h.mono (fun e w' q => ⟨q.1, n, q.2⟩))
                have HH2 : Hid (∀ n, Calls Try.prog 23 #[.slice A2 qb cap2, .int .i64 (i : Int)] (wr.drewN n) fun e w'' => e = .returned (.bool bb) ∧ ∃ n, w'' = wr.drewN n) := hid (fun n => by
                  have h := hh2 n
                  rw [← hsm, hbb, hqb] at h
                  exact h.mono (fun e w' q => ⟨q.1, n, q.2⟩))
                rw [hqb] at hct
                clear hI2 hsm hbb hqb hh1 hh2 e2
                go_wp2
                go_quiet (first | (with_reducible exact HH1.out _) | (with_reducible exact HH2.out _))
                go_wp2
                go_roundg (x.ins.length - (j + 1))
                case measure => omega
                case rel => exact ⟨j + 1, by omega, rfl, rfl, hid (HQ.out.later (below_drewN (Below.refl _ _) _)), hid (HA8.out.later int_stays (below_drewN (Below.refl _ _) _))⟩
              · have hjn' : ¬ (j : Int) < (x.ins.length : Int) := by omega
                go_wp2
                go_roundg (x.ins.length - (i + 1))
                case measure => omega
                case rel => exact ⟨i + 1, by omega, rfl, rfl, HQ⟩
          · have hin' : ¬ (i : Int) < (x.ins.length : Int) := by omega
            have hrc := cells_at HQ.out.sr.sb.r
            have hrf := frozen_no HQ.out.sr.sb.r 0
            go_wp2
            have e := HQ.out.sr.sb.end_ (by have := HSZ.out; omega) HQ.out.k
            exact leave6 (S := W0.heap.size) (b := w.heap.size + 1) (v := .bool true) e.1 rfl e.2.1 e.2.2.1 ⟨rfl, hid e.2.2.2⟩
    case stop =>
      rintro c pre W _ h _
      exact h.elim
end Go.Proofs.Ytbmjhkimeeahhaa
