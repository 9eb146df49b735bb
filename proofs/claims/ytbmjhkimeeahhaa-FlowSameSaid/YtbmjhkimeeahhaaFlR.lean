/- Reach, by the program. Condition: fewer than a million instructions. -/
import Derived.Test.YtbmjhkimeeahhaaFlQ
namespace Go.Proofs.Ytbmjhkimeeahhaa
open Go.RowKit Go.Maps Go.Shelf
set_option linter.unusedVariables false
set_option linter.unusedSimpArgs false
attribute [local go_sem] Oper.semAt_some
def ReachP (x : CoD) (w : World) (e : Ending) (w' : World) : Prop :=
  ∃ G m, e = .returned (.slice (some ⟨G, 0, none⟩) x.ins.length x.ins.length) ∧ Hid (BlM w' G x.ins.length m) ∧ Hid (∀ k, k < x.ins.length → (m k = true ↔ Way (nxE x) 0 k)) ∧ Hid (w.heap.size ≤ G ∧ Below w.heap.size w w')
/-- What is among these. -/
def among (l : List Nat) : Met := fun k => l.contains k
theorem among_nil : among [] = fun _ => false := by funext k; rfl
theorem among_snoc (l : List Nat) (k : Nat) : among (l ++ [k]) = mark (among l) k := by
  funext y
  simp only [among, mark, List.contains_append, List.contains_cons]
  cases (y == k) <;> cases List.contains l y <;> rfl
theorem FromIs.ways {x : CoD} {s : List Nat} (h : FromIs x 0 s) (hn : 0 < x.ins.length) (k : Nat) : k ∈ s ↔ Way (nxE x) 0 k := by
  rcases h with ⟨h, -⟩ | ⟨a, l, h0, h1, m, hK⟩
  · rw [inN_t (by omega) (by omega)] at h; cases h
  · obtain rfl : a = 0 := by omega
    exact walk_ways hK k
theorem FromIs.lt {x : CoD} {k : Int} {s : List Nat} (h : FromIs x k s) : ∀ y ∈ s, y < x.ins.length := by
  rcases h with ⟨-, rfl⟩ | ⟨a, l, h0, h1, hw⟩
  · exact fun y hy => by cases hy
  · exact hw.lt h1
set_option maxRecDepth 100000 in
set_option maxHeartbeats 8000000 in
theorem reach_f (x : CoD) (va fa ia : Option Addr) (vc fc ic : Nat) (w0 w : World) (hs : x.ins.length < 1000000) (hC : RowM 13 InAt w0 ia x.ins) (hold : Below w0.heap.size w0 w) :
    Calls Try.prog 10 #[.agg (CoV x va vc fa fc ia ic)] w (ReachP x w) := by
  obtain ⟨i0t, hti, hz0, hz1, hz2⟩ := info_parts info4
  obtain ⟨L, hL⟩ := from_is x 0
  have HB := hid (below1 w (.cells (CoV x va vc fa fc ia ic) 30))
  have HX := hid (heap_alloc_new w (.cells (CoV x va vc fa fc ia ic) 30))
  have hx := fun i => cells_at HX.out i
  have b2 : i0t.bytes * x.ins.length ≤ 281474976710656 := by rw [hz2]; omega
  have b3 : x.ins.length ≤ maxLen := by unfold maxLen; omega
  have HM := hid b2
  have HM3 := hid b3
  have HS := hid hs
  have HC := hid hC
  have HO := hid hold
  have HL := hid hL
  clear b2 b3 hs hC hold hL
  refine (callsIn_wide (n := 10)).1 ?_
  refine callsIn_of_wp_marks Try.func10 rfl trivial ?_ rfl
  simp only [Try.ntmps10, List.size_toArray, List.length_cons, List.length_nil, Nat.reduceAdd, Nat.reduceSub, Array.replicate_succ, Array.replicate_zero, List.push_toArray, List.append_toArray, List.nil_append, List.cons_append]
  refine wpIn_wide.2 ?_
  go_wp2_with (first
    | (at_make; refine wpList_make_full _ rfl _ _ 34 rfl (w.heap.size + 1) 4 i0t (.bool false) 1 Try.underlying34 hti hz0 hz1 .i64 .i64 (x.ins.length : Int) (x.ins.length : Int) x.ins.length rfl rfl rfl rfl HM.out HM3.out (by simp) ?_; intro w1 hown hgrow
       have HB1 := hid ((Below.refl _ _).grown hgrow (Nat.le_refl _) (by rintro k e; cases e))
       have HBL := hid (BlM.made hown)
       have HX1 := hid (lay HB1.out HX.out)
       have hx1 := cells_at (lay (below1 w1 (.cells #[.slice (some ⟨w.heap.size + 1, 0, none⟩) x.ins.length x.ins.length] 34)) HX1.out)
       clear hown hgrow hx)
    | (go_at_call 16; refine (from_f _ rfl 0 _).mono ?_; rintro e w2 ⟨rfl, rfl⟩))
  have hbl0 := HBL.out
  rw [World.size_alloc] at hbl0
  have hsz1 : w.heap.size + 1 < w1.heap.size := hbl0.lt
  have hb3 := below3a w1 (.cells #[.slice (some ⟨w.heap.size + 1, 0, none⟩) x.ins.length x.ins.length] 34) (.cells (CoV x va vc fa fc ia ic) 30) (.cells #[.int .i64 0] 3)
  have hch := chain3 w1 #[.slice (some ⟨w.heap.size + 1, 0, none⟩) x.ins.length x.ins.length] (CoV x va vc fa fc ia ic) #[.int .i64 0] 34 30 3
  have hcb := box3b w1 (CoV x va vc fa fc ia ic) 30 (.cells #[.slice (some ⟨w.heap.size + 1, 0, none⟩) x.ins.length x.ins.length] 34) (.cells #[.int .i64 0] 3)
  have hsz3 : (((w1.alloc (.cells #[.slice (some ⟨w.heap.size + 1, 0, none⟩) x.ins.length x.ins.length] 34)).alloc (.cells (CoV x va vc fa fc ia ic) 30)).alloc (.cells #[.int .i64 0] 3)).heap.size = w1.heap.size + 3 := by simp
  have hBL3 := hbl0.later hb3
  obtain ⟨W0, hW0⟩ : ∃ W0, ((w1.alloc (.cells #[.slice (some ⟨w.heap.size + 1, 0, none⟩) x.ins.length x.ins.length] 34)).alloc (.cells #[.string x.nm, .int .i64 x.pr, .slice va x.vs.length vc, .bool x.rt.t.p, .string x.rt.t.name, .int .i64 x.rt.cls, .slice fa x.fr.length fc, .slice ia x.ins.length ic] 30)).alloc (.cells #[.int .i64 0] 3) = W0 := ⟨_, rfl⟩
  rw [hW0] at hb3 hch hcb hsz3 hBL3 ⊢
  have hB0 : Below w.heap.size w W0 := (HB.out.trans (HB1.out.mono (by simp))).trans (hb3.mono (by omega))
  have hO0 : Below w0.heap.size w0 W0 := HO.out.trans (hB0.mono HO.out.size)
  have hcb' : W0.heap[w1.heap.size + 1]? = some (.cells (CoV x va vc fa fc ia ic) 30 (0, 0)) := hcb
  have hseq := from_s 9 (by decide) x va fa ia vc fc ic w0 W0 0 (w1.heap.size + 1) (w1.heap.size + 1 + 1) (w.heap.size + 1) L HS.out HC.out (by have := HO.out.size; omega) (by omega) hO0 hcb' hch.2.2 HL.out
  obtain ⟨q1, hq1⟩ : ∃ q, w1.heap.size = q := ⟨_, rfl⟩
  have HCH := hid hch.1
  have HSZ := hid hsz3
  rw [hq1] at HCH HSZ hseq hsz1 ⊢
  have HB0 := hid hB0
  have HBL3 := hid hBL3
  clear hbl0 hch hcb hcb' hsz3 hB0 hO0 hb3 hBL3 hW0 hq1 HBL HX1 hx1 HX HB HB1
  refine (wpIn_wide (n := 10)).1 ?_
  refine range_low 10 (by decide) (gf := 28) (lb := #[.pointer (some ⟨q1 + 1, 0, none⟩), .pointer (some ⟨q1 + 1 + 1, 0, none⟩)]) rfl (enters_of Try.func28 (by kernel_rfl) rfl) hseq (by have := HSZ.out; omega) (fun _ => rfl)
    (fun pre W => BlM W (w.heap.size + 1) x.ins.length (among pre) ∧ W.heap[q1]? = some (.cells #[.slice (some ⟨w.heap.size + 1, 0, none⟩) x.ins.length x.ins.length] 34 (0, 0)) ∧ Below w.heap.size w W) (fun _ _ _ => False)
    (fun pre A B h hb => ⟨h.1.at (hb.block _ (by have := HSZ.out; omega)), (hb.block _ (by have := HSZ.out; omega)).trans h.2.1, h.2.2.trans (hb.mono (by have := HSZ.out; omega))⟩) (fun _ _ _ _ h _ => h)
    ⟨by rw [among_nil]; exact HBL3.out, HCH.out, HB0.out⟩
    (fun k => { tmps := #[Value.agg (CoV x va vc fa fc ia ic), Value.pointer (some ⟨w.heap.size, 0, none⟩), Value.slice none 0 0, Value.pointer (some ⟨q1, 0, none⟩), Value.int .i64 (k : Int), Value.pointer (some ⟨w.heap.size, 7, none⟩), Value.slice ia x.ins.length ic, Value.int .i64 (x.ins.length : Int), Value.slice (some ⟨w.heap.size + 1, 0, none⟩) x.ins.length x.ins.length, Value.agg #[.string x.nm, .int .i64 x.pr, .slice va x.vs.length vc, .bool x.rt.t.p, .string x.rt.t.name, .int .i64 x.rt.cls, .slice fa x.fr.length fc, .slice ia x.ins.length ic], Value.func (.func 28) #[] #[.pointer (some ⟨q1 + 1, 0, none⟩), .pointer (some ⟨q1 + 1 + 1, 0, none⟩)], Value.int .i64 (k : Int), undef, undef, undef, undef], defers := [] })
    ?assign ?body ?done ?stop
  case assign =>
    intro l k W K hK
    gi_wp2
    exact hK
  case body =>
    rintro l pre k W hpre hsz ⟨hbl, hv, hb⟩
    have hkn : k < x.ins.length := by
      have h1 := HL.out.lt k (hpre.subset (by simp))
      exact h1
    have k0 : (0 : Int) ≤ (k : Int) := by omega
    have k1 : (k : Int) < (x.ins.length : Int) := by omega
    have hc1 := cells_at hv
    have hcm := hbl.cell hkn
    have hfm := hbl.soft k
    have HBL := hid (hbl.set k)
    have HV := hid hv
    have HB := hid hb
    clear hbl hv hb hpre
    gi_wp2
    exact ⟨⟨rfl, rfl, rfl, by simp [World.setCell], fun i hi hne => Below.heap_setCell _ _ _ _ (fun e => hne (by rw [e]))⟩, by rw [among_snoc]; exact HBL.out, (Below.heap_setCell _ _ _ _ (by show q1 ≠ w.heap.size + 1; omega)).trans HV.out, HB.out.setCell (p := ⟨w.heap.size + 1, k, none⟩) (by show w.heap.size ≤ w.heap.size + 1; omega) _⟩
  case done =>
    rintro W ⟨hbl, hv, hb⟩ hK
    have hc1 := cells_at hv
    have HBL := hid hbl
    have HB := hid hb
    have HK := hid hK
    clear hbl hb hv hK
    go_wp2
    refine ⟨by simp, .inl ⟨_, _, rfl, run_takeDeferred HK.out, ?_⟩⟩
    have hne : w.heap.size + 1 ≠ W0.heap.size := by have := HSZ.out; omega
    refine ⟨_, results_tmp rfl _ _ _, ⟨w.heap.size + 1, among L, rfl, hid ?_, hid ?_, hid ⟨by omega, HB.out.trans (below_put _ (by have := HB0.out.size; omega))⟩⟩⟩
    · exact HBL.out.at (World.putObj_heap_other hne)
    · intro k hk
      rw [← HL.out.ways (by omega) k]
      simp [among]
  case stop =>
    rintro c pre W _ h _
    exact h.elim
end Go.Proofs.Ytbmjhkimeeahhaa
