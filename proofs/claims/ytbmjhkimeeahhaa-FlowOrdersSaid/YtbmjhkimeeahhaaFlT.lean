/- From and Order, by the reference. Condition: fewer than a million instructions. -/
import Derived.Test.YtbmjhkimeeahhaaFlS
import Derived.Deep.RegionWith
namespace Go.Proofs.Ytbmjhkimeeahhaa
open Go.RowKit Go.Maps
set_option linter.unusedVariables false
set_option linter.unusedSimpArgs false
theorem nil_list (w W : World) (h : Below w.heap.size w W) : ListPost w [] (.returned (.slice none 0 0)) W := ⟨_, rfl, hid (World.ownsRow_nil _ _ _ _), hid h⟩
set_option maxRecDepth 100000 in
set_option maxHeartbeats 8000000 in
theorem rfrom_f (x : CoD) (va fa ia : Option Addr) (vc fc ic : Nat) (w0 w : World) (k : Int) (L : List Nat) (hs : x.ins.length < 1000000) (hC : RowM 13 InAt w0 ia x.ins) (hold : Below w0.heap.size w0 w) (hL : FromIs x k L) :
    Calls Try.prog 15 #[.agg (CoV x va vc fa fc ia ic), .int .i64 k] w (ListPost w L) := by
  have HB := hid (below1 w (.cells (CoV x va vc fa fc ia ic) 30))
  have HX := hid (heap_alloc_new w (.cells (CoV x va vc fa fc ia ic) 30))
  have hx := fun i => cells_at HX.out i
  rcases hL with ⟨hk, rfl⟩ | ⟨a, l, rfl, ha, hw⟩
  · by_cases h0 : k < 0
    · clear hk hold hC hs
      go_enter Try.func15, Try.ntmps15
      go_wp2
      go_ret
      exact nil_list _ _ HB.out
    · have h1 : (x.ins.length : Int) ≤ k := by
        by_cases h1 : (x.ins.length : Int) ≤ k
        · exact h1
        · rw [inN_t h0 h1] at hk; cases hk
      clear hk hold hC hs
      go_enter Try.func15, Try.ntmps15
      go_wp2
      go_ret
      exact nil_list _ _ HB.out
  · have h0 : ¬ (a : Int) < 0 := by omega
    have h1 : ¬ (x.ins.length : Int) ≤ (a : Int) := by omega
    have hlen := hw.len ha
    obtain ⟨m, hK⟩ := hw
    obtain ⟨i0t, hti, hz0, hz1, hz2⟩ := info_parts info4
    have hm0 : ((w.alloc (.cells (CoV x va vc fa fc ia ic) 30)).drew).heap.size = w.heap.size + 1 := by show (w.alloc (.cells (CoV x va vc fa fc ia ic) 30)).heap.size = w.heap.size + 1; simp
    obtain ⟨w5, hrun, hown, hgrow⟩ := run_make_full (P := Try.prog) ((w.alloc (.cells (CoV x va vc fa fc ia ic) 30)).drew) (w.heap.size + 1) 34 4 i0t (.bool false) 1 Try.underlying34 hti hz0 hz1 .i64 .i64 x.ins.length (by rw [hz2]; omega) (by unfold maxLen; omega) (by rw [hm0]; omega)
    rw [hm0] at hrun hown
    have HB5 : Hid (Below (w.heap.size + 1) ((w.alloc (.cells (CoV x va vc fa fc ia ic) 30)).drew) w5) := hid ((Below.refl _ _).grown hgrow (by rw [hm0]; exact Nat.le_refl _) (by rintro k e; cases e))
    have hbl5 := BlM.made hown
    have hstart : ∃ l1 s1, l = l1 ++ [a] ∧ L = a :: s1 ∧ Kids (nxE x) (nxE x a) (mark (fun _ => false) a) l1 s1 m := by
      cases hK with
      | skip h _ => cases h
      | go h h1 h2 =>
        cases h2
        exact ⟨_, _, rfl, by simp, h1⟩
    obtain ⟨l1, s1, rfl, rfl, hK1⟩ := hstart
    have hd : Below w.heap.size w ((w.alloc (.cells (CoV x va vc fa fc ia ic) 30)).drew) := ⟨HB.out.os, HB.out.tape, HB.out.output, HB.out.size, HB.out.block⟩
    have hB6 : Below w.heap.size w w5 := hd.trans (HB5.out.mono (show w.heap.size ≤ w.heap.size + 1 by omega))
    have hcall := rwalk_f x va fa ia vc fc ic w0 hs hC _ a (w.heap.size + 1) (fun _ => false) m l1 s1 w5 rfl ha hK1 (by simp at hlen; omega) (by simp at hlen; omega) (by have := hold.size; omega) (hold.trans (hB6.mono hold.size)) hbl5
    have HCall := hid hcall
    have HX5 := hid (old_block HB5.out (by omega) (show ((w.alloc (.cells (CoV x va vc fa fc ia ic) 30)).drew).heap[w.heap.size]? = _ from HX.out))
    have hx5 := fun i => cells_at HX5.out i
    have HB6 := hid hB6
    have HSZ := hid hbl5.lt
    clear hlen hK hK1 hcall hB6 hbl5 hown hgrow HB5 hold hC hs hm0
    go_enter Try.func15, Try.ntmps15
    go_wp2
    go_region_with (go_at_call 27; go_must (refine HCall.out.mono ?_); rintro e w6 ⟨v1, v2, rfl, h1, h2, h3, h4⟩; have H2 := hid h2.out; have H4 := hid h4.out; clear h1 h2 h3 h4)
    all_goals
      go_wp2
      go_ret
      exact ⟨_, rfl, hid (row_low H2.out (Nat.le_of_lt (Nat.lt_of_le_of_lt (Nat.le_succ _) HSZ.out))), hid (HB6.out.grown H4.out HB6.out.size (fun k e => by cases e; omega))⟩
set_option maxRecDepth 100000 in
set_option maxHeartbeats 8000000 in
theorem rorder_f (x : CoD) (va fa ia : Option Addr) (vc fc ic : Nat) (w0 w : World) (L : List Nat) (hs : x.ins.length < 1000000) (hC : RowM 13 InAt w0 ia x.ins) (hold : Below w0.heap.size w0 w) (hL : OrderIs x L) :
    Calls Try.prog 19 #[.agg (CoV x va vc fa fc ia ic)] w (ListPost w L) := by
  have HB := hid (below1 w (.cells (CoV x va vc fa fc ia ic) 30))
  have HX := hid (heap_alloc_new w (.cells (CoV x va vc fa fc ia ic) 30))
  have hx := fun i => cells_at HX.out i
  rcases hL with ⟨h0, rfl⟩ | ⟨ha, l, s, hw, rfl⟩
  · have e0 : ((x.ins.length : Int) == 0) = true := by simp; exact List.length_eq_zero_iff.1 h0
    clear h0 hold hC hs
    go_enter Try.func19, Try.ntmps19
    go_wp2
    go_ret
    exact nil_list _ _ HB.out
  · have e0 : ((x.ins.length : Int) == 0) = false := by
      cases e : ((x.ins.length : Int) == 0)
      · rfl
      · simp at e; rw [e] at ha; simp at ha
    have a1 : (0 : Int) < (x.ins.length : Int) := by omega
    have hlen := hw.len ha
    obtain ⟨m, hK⟩ := hw
    obtain ⟨i0t, hti, hz0, hz1, hz2⟩ := info_parts info4
    obtain ⟨i3t, hti3, hz03, hz13, hz23⟩ := info_parts info3
    have hm0 : ((w.alloc (.cells (CoV x va vc fa fc ia ic) 30)).drew).heap.size = w.heap.size + 1 := by show (w.alloc (.cells (CoV x va vc fa fc ia ic) 30)).heap.size = w.heap.size + 1; simp
    obtain ⟨w5, hrun, hown, hgrow⟩ := run_make_full (P := Try.prog) ((w.alloc (.cells (CoV x va vc fa fc ia ic) 30)).drew) (w.heap.size + 1) 34 4 i0t (.bool false) 1 Try.underlying34 hti hz0 hz1 .i64 .i64 x.ins.length (by rw [hz2]; omega) (by unfold maxLen; omega) (by rw [hm0]; omega)
    rw [hm0] at hrun hown
    have HB5 : Hid (Below (w.heap.size + 1) ((w.alloc (.cells (CoV x va vc fa fc ia ic) 30)).drew) w5) := hid ((Below.refl _ _).grown hgrow (by rw [hm0]; exact Nat.le_refl _) (by rintro k e; cases e))
    have hbl5 := BlM.made hown
    have hstart : ∃ l1 s1, l = l1 ++ [0] ∧ s = 0 :: s1 ∧ Kids (nxE x) (nxE x 0) (mark (fun _ => false) 0) l1 s1 m := by
      cases hK with
      | skip h _ => cases h
      | go h h1 h2 =>
        cases h2
        exact ⟨_, _, rfl, by simp, h1⟩
    obtain ⟨l1, s1, hl1, rfl, hK1⟩ := hstart
    have hd : Below w.heap.size w ((w.alloc (.cells (CoV x va vc fa fc ia ic) 30)).drew) := ⟨HB.out.os, HB.out.tape, HB.out.output, HB.out.size, HB.out.block⟩
    have hB6 : Below w.heap.size w w5 := hd.trans (HB5.out.mono (show w.heap.size ≤ w.heap.size + 1 by omega))
    have hl2 : l1.length < 1000000 := by have := hlen.2; rw [hl1] at this; simp at this hlen; omega
    have hs2 : s1.length < 1000000 := by simp at hlen; omega
    have hl3 : l.length < 1000000 := by omega
    have HCall : Hid (Calls Try.prog 27 #[.agg (CoV x va vc fa fc ia ic), .int .i64 0, .slice (some ⟨w.heap.size + 1, 0, none⟩) x.ins.length x.ins.length] w5 (WalkP x w5 (w.heap.size + 1) 0 l1 s1 m)) :=
      hid (rwalk_f x va fa ia vc fc ic w0 hs hC _ 0 (w.heap.size + 1) (fun _ => false) m l1 s1 w5 rfl ha hK1 hl2 hs2 (by have := hold.size; omega) (hold.trans (hB6.mono hold.size)) hbl5)
    have HX5 := hid (old_block HB5.out (by omega) (show ((w.alloc (.cells (CoV x va vc fa fc ia ic) 30)).drew).heap[w.heap.size]? = _ from HX.out))
    have hx5 := fun i => cells_at HX5.out i
    have HB6 := hid hB6
    have HSZ := hid hbl5.lt
    have HL1 := hid hl1
    clear hlen hK hK1 hB6 hbl5 hown hgrow HB5 hold hC hs hm0 hl1 hl2 hs2
    go_enter Try.func19, Try.ntmps19
    go_wp2
    go_region_with (go_at_call 27; go_must (refine HCall.out.mono ?_); rintro e w6 ⟨v1, v2, rfl, h1, h2, h3, h4⟩; have H1 := hid h1.out; have H4 := hid h4.out; clear h1 h2 h3 h4)
    all_goals
      have HI6 := hid (HB6.out.grown H4.out HB6.out.size (fun k e => by cases e; omega))
      have HO1 : Hid (OwnN w6 (w.heap.size + 1) v1 l) := hid (by rw [HL1.out]; exact row_low H1.out (Nat.le_of_lt HSZ.out))
      obtain ⟨g1, c1, rfl, hb1, hlt1, hcell1⟩ := own_cells HO1.out (by rw [HL1.out]; simp)
      obtain ⟨q, hq⟩ : ∃ q, l.length = q := ⟨_, rfl⟩
      have HQ := hid hq
      rw [hq] at hl3 HO1 ⊢
      clear hq hcell1 H1 hx5 hx
      go_wp2
      have HW0 := hid (Below.refl w6.heap.size w6)
      have HR0 : Hid (w6.ownsRow w6.heap.size 3 1 (.slice none 0 0) 0 (natV (l.reverse.take 0))) := hid (World.ownsRow_nil _ _ _ _)
      go_loopg [6, 7] q (fun gk u6 u7 wr => ∃ k : Nat, k ≤ q ∧ gk = q - k ∧ u7 = .int .i64 ((q : Int) - 1 - k) ∧ Hid (Below w6.heap.size w6 wr) ∧ Hid (wr.ownsRow w6.heap.size 3 1 u6 k (natV (l.reverse.take k))))
      case atStart => exact ⟨0, by omega, by omega, by simp, HW0, HR0⟩
      case round =>
        clear HW0 HR0
        obtain ⟨k, hk, rfl, rfl, HW, HR⟩ := hrel
        obtain ⟨A6, c6, rfl⟩ := own_slice HR.out
        by_cases hlt : k < q
        · obtain ⟨j, hj⟩ : ∃ j : Nat, (q : Int) - 1 - k = j := ⟨q - 1 - k, by omega⟩
          have j0 : (0 : Int) ≤ (j : Int) := by omega
          have j1 : (j : Int) < (q : Int) := by omega
          have jq : j + 1 + k = q := by omega
          obtain ⟨y, hy⟩ := get_some HQ.out (show j < q by omega)
          have hcy : wr.cell? ⟨g1, j, none⟩ = some (.int .i64 (y : Int)) := by
            have h1 := HO1.out.cells (g := g1) rfl j _ (nat_get hy)
            have h2 : w6.cell? ⟨g1, j, none⟩ = some (.int .i64 (y : Int)) := by
              unfold Addr.add at h1
              split at h1
              · rename_i hj0; rw [hj0]; exact h1
              · simpa using h1
            exact cell_keep HW.out hlt1 h2
          have HT : Hid (l.reverse.take (k + 1) = l.reverse.take k ++ [y]) := hid (by
            rw [List.take_add_one, List.getElem?_reverse (by have := HQ.out; omega), HQ.out, show q - 1 - k = j by omega, hy]
            rfl)
          have HJQ := hid jq
          rw [hj]
          clear hy hj jq
          go_wp2_with (at_builtin; go_must (refine wpList_append_own_at _ rfl _ _ 27 rfl w6.heap.size 3 i3t (.int .i64 0) 1 8 Try.underlying27 hti3 hz03 hz13 hz23 rfl (by decide) _ k (natV (l.reverse.take k)) rfl (HR.out.alloc _) ⟨wr.heap.size, 0, none⟩ 1 1 [.int .i64 (y : Int)] rfl rfl (one_at _ _ _ rfl) (by intro u hu; simp at hu; subst hu; rfl) (by unfold maxLen; omega) (by omega) (by have := HW.out.size; simp; omega) ?_); intro v9 w9 hown9 hgrow9 hnil9 hblk9
                       have HO9 : Hid (w9.ownsRow w6.heap.size 3 1 v9 (k + 1) (natV (l.reverse.take (k + 1)))) := hid (by rw [HT.out, show natV (l.reverse.take k ++ [y]) = natV (l.reverse.take k) ++ [.int .i64 (y : Int)] by simp [natV]]; exact hown9)
                       have HW9 := hid ((HW.out.alloc HW.out.size _).grown hgrow9 (by have := HW.out.size; simp; omega) (fun g q => (row_lt HR.out q).1))
                       clear hown9 hgrow9 hnil9 hblk9)
          go_roundg (q - (k + 1))
          case measure => omega
          case rel => exact ⟨k + 1, by omega, rfl, by have := HJQ.out; congr 1; omega, HW9, HO9⟩
        · have hlt' : ¬ (0 : Int) ≤ (q : Int) - 1 - k := by omega
          obtain rfl : k = q := by omega
          have HF : Hid (OwnN wr w.heap.size (.slice A6 k c6) l.reverse) := hid (by
            have h1 := HR.out
            rw [List.take_of_length_le (by have := HQ.out; simp; omega)] at h1
            have h2 := row_low h1 (HI6.out.size)
            show wr.ownsRow w.heap.size 3 1 _ l.reverse.length (natV l.reverse)
            rw [List.length_reverse, HQ.out]
            exact h2)
          go_wp2
          go_ret
          exact ⟨_, rfl, HF, hid (HI6.out.trans (HW.out.mono HI6.out.size))⟩
end Go.Proofs.Ytbmjhkimeeahhaa
