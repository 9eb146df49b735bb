/- A formula copied, and turned to the program's. Conditions: at most 200000 clauses of at most 200000 numbers. -/
import Derived.Test.YtkmcdbkdlalhdaaCnfI
namespace Go.Proofs.Ytkmcdbkdlalhdaa
open Go.RowKit Go.Maps Go.Lib Go.Sort
set_option linter.unusedVariables false
set_option linter.unusedSimpArgs false
theorem own_i (N : Int) (A : Option Addr) (n cap : Nat) (w : World) : Calls Try.prog 10 #[form N A n cap] w fun e w' => e = .returned (form N A n cap) ∧ Hid (Below w.heap.size w w') := by
  have HB := hid (below2 w)
  go_enter Try.func10, Try.ntmps10
  go_wp2
  refine bodyPost_ret (v := form N A n cap) (res29 Try.results10 rfl (by rw [← World.size_alloc w (.cells #[.int .i64 N, .slice A n cap] 24)]; exact heap_alloc_new _ _)) rfl ⟨rfl, HB.out _ _⟩
set_option maxRecDepth 100000 in
set_option maxHeartbeats 1000000 in
theorem copied_i (N : Int) (ls : List (List Int)) (A : Option Addr) (n cap B : Nat) (w : World) (hB : B ≤ w.heap.size) (h : Lists w B A n ls) (hl : n ≤ 200000) (hs : Short ls) :
    Calls Try.prog 33 #[form N A n cap] w fun e w' => ∃ A' c', e = .returned (form N A' n c') ∧ Hid (OwnL w' w.heap.size A' n c' ls) ∧ Hid (Below w.heap.size w w') := by
  obtain ⟨i0t, hti, hz0, hz1, hz2⟩ := info_parts info40
  have HB2 := hid (below2 w (formO N A n cap 29) (.cells #[.int .i64 0, .slice none 0 0] 29))
  have HX0 : Hid (((w.alloc (formO N A n cap 29)).alloc (.cells #[.int .i64 0, .slice none 0 0] 29)).heap[w.heap.size]? = some (formO N A n cap 29)) := hid (old_block (below1 _ _) (by simp) (heap_alloc_new w _))
  have HY0 : Hid (((w.alloc (formO N A n cap 29)).alloc (.cells #[.int .i64 0, .slice none 0 0] 29)).heap[w.heap.size + 1]? = some (.cells #[.int .i64 0, .slice none 0 0] 29 (0, 0))) := hid (by rw [← World.size_alloc w (formO N A n cap 29)]; exact heap_alloc_new _ _)
  have HL0 := hid (h.below (HB2.out.mono hB))
  have HN := hid h.len
  have HS := hid hs
  have hb2 : i0t.bytes * n ≤ 281474976710656 := by rw [hz2]; omega
  have hb3 : n ≤ maxLen := by unfold maxLen; omega
  have HM := hid hb2
  have HM3 := hid hb3
  clear h hs hb2 hb3
  go_enter Try.func33, Try.ntmps33
  go_wp2_with (first
    | (at_make; refine wpList_make_own _ rfl _ _ 22 rfl w.heap.size 40 i0t (.slice none 0 0) 1 Try.underlying22 hti hz0 hz1 .i64 .i64 (n : Int) n rfl rfl rfl HM.out HM3.out HB2.out.size ?_; intro w1 hown hgrow
       have HX1 := hid ((hgrow.block w.heap.size (by simp <;> omega) (by simp)).trans HX0.out)
       have HY1 := hid ((hgrow.block (w.heap.size + 1) (by simp <;> omega) (by simp)).trans HY0.out)
       have HB1 := hid (HB2.out.grown hgrow HB2.out.size (by rintro k e; cases e))
       have HO1 := hid (OwnL.new hown)
       have HL1 := hid (HL0.out.below (Below.mono ((Below.refl _ _).grown hgrow (Nat.le_refl _) (by rintro k e; cases e)) (Nat.le_trans hB HB2.out.size)))
       have hx1 := cells_at HX1.out
       clear hown hgrow))
  clear hx1 HX0 HY0 HL0 HB2
  go_loopg [3, 13] n (fun gk v3 v5 wr => ∃ k : Nat, k ≤ n ∧ gk = n - k ∧ v5 = .int .i64 k ∧ ∃ A' c', v3 = .slice A' k c' ∧ Hid (OwnL wr w.heap.size A' k c' (ls.take k)) ∧ Hid (Below w.heap.size w wr) ∧ Hid (wr.heap[w.heap.size]? = some (formO N A n cap 29)) ∧ Hid (wr.heap[w.heap.size + 1]? = some (.cells #[.int .i64 0, .slice none 0 0] 29 (0, 0))) ∧ Hid (Lists wr B A n ls))
  case atStart => exact ⟨0, by omega, rfl, rfl, _, _, rfl, hid (by simpa using HO1.out), HB1, HX1, HY1, HL1⟩
  case round =>
    obtain ⟨k, hk, rfl, rfl, A1, c1, rfl, HO, HB, HX, HY, HL⟩ := hrel
    by_cases hlt : k < n
    · have hlt' : (k : Int) < (n : Int) := by omega
      obtain ⟨b, off, xs, A', c', rfl, hb, hx, hc, -, -, hi⟩ := HL.out.at_ hlt
      have HX2 := hid hx
      have HI := hid hi
      have HLen := hid (HS.out _ _ hx)
      clear hx hi
      obtain ⟨m, HXL⟩ : ∃ m, Hid (xs.length = m) := ⟨_, hid rfl⟩
      rw [HXL.out] at hc HI HLen
      go_wp2_with (first
        | (go_at_call 37; go_must (refine (clone_i xs A' m c' B _ HI.out HLen.out).mono ?_); rintro e w2 ⟨A2, c2, rfl, HO2, HB2⟩
           obtain ⟨vs, q1, q2⟩ := push_facts (HO.out.below HB2.out) (HO2.out.low HB.out.size) (.cells #[.slice A2 m c2] 40)
           have HQ1 := hid q1
           have HQ2 := hid q2
           have HBB := hid (after HB.out HB2.out HB.out.size)
           clear q1 q2)
        | (at_builtin; go_must (refine wpList_append_own_at _ rfl _ _ 22 rfl w.heap.size 40 i0t (.slice none 0 0) 1 24 Try.underlying22 hti hz0 hz1 hz2 rfl (by decide) (.slice A1 k c1) k vs rfl HQ1.out _ 1 1 [.slice A2 m c2] rfl rfl (cell_one_new _ _ _) (one_slice _ _ _) (by unfold maxLen; omega) (by omega) (by have := HBB.out.size; simp <;> omega) ?_)
           intro v' w3 hown hgrow hnil hblk
           obtain ⟨A3, c3, rfl, hl3, hb3, hk3⟩ := HQ2.out _ _ hown hgrow
           have HO3 := hid hl3
           have HB3 := hid (HBB.out.trans (hb3 HBB.out.size))
           have HX3 := hid (hk3 w.heap.size 29 _ (by decide) (old_block HB2.out (Array.getElem?_eq_some_iff.1 HX.out).1 HX.out))
           have HY3 := hid (hk3 (w.heap.size + 1) 29 _ (by decide) (old_block HB2.out (Array.getElem?_eq_some_iff.1 HY.out).1 HY.out))
           have HL3 := hid (HL.out.below ((HB2.out.mono (Nat.le_trans hB HB.out.size)).trans ((hb3 HBB.out.size).mono hB)))
           clear hown hgrow hnil hblk hl3 hb3 hk3))
      go_roundg (n - (k + 1))
      case measure => omega
      case rel => exact ⟨k + 1, by omega, rfl, rfl, _, _, rfl, hid (by rw [← take_push HX2.out]; exact HO3.out), HB3, HX3, HY3, HL3⟩
    · have hlt' : ¬ (k : Int) < (n : Int) := by omega
      obtain rfl : k = n := by omega
      have hx1 := cells_at HX.out
      have hy1 := cells_at HY.out
      have hf1 := frozen_no HY.out
      go_wp2
      have HR := put2_heap (.int .i64 N) (.slice A1 k c1) HY.out
      refine bodyPost_ret (v := form N A1 k c1) (res29 Try.results33 rfl HR) rfl ⟨A1, c1, rfl, hid ?_, hid (put2_below _ _ HB.out (by omega))⟩
      have := HO.out.put2 HY.out (by decide) (by decide) (.int .i64 N) (.slice A1 k c1)
      rwa [List.take_of_length_le (by have := HN.out; omega)] at this
end Go.Proofs.Ytkmcdbkdlalhdaa
