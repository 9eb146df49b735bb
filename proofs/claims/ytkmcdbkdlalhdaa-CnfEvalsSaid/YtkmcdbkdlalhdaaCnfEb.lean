/- What is left of a formula given a literal, by the reference. Conditions: at most 100000 clauses of at most 100000 numbers. -/
import Derived.Test.YtkmcdbkdlalhdaaCnfEa
import Derived.Test.YtkmcdbkdlalhdaaCnfY
namespace Go.Proofs.Ytkmcdbkdlalhdaa
open Go.RowKit Go.Maps Go.Lib Go.Sort
set_option linter.unusedVariables false
set_option linter.unusedSimpArgs false
theorem wo_in {xs : List Int} {v y : Int} {k : Nat} (h : xs[k]? = some y) (e : (y == v) = true) : wo (xs.take (k + 1)) v = wo (xs.take k) v := by
  rw [← take_push h]; unfold wo; rw [List.filter_append]; simp [e]
theorem wo_out {xs : List Int} {v y : Int} {k : Nat} (h : xs[k]? = some y) (e : (y == v) = false) : wo (xs.take (k + 1)) v = wo (xs.take k) v ++ [y] := by
  rw [← take_push h]; unfold wo; rw [List.filter_append]; simp [e]
/-- What a call of the reference's Given leaves. -/
def RGPost (w : World) (N : Int) (ls : List (List Int)) (e : Ending) (w' : World) : Prop := ∃ A' n' c', e = .returned (form N A' n' c') ∧ Hid (Lists w' w'.heap.size A' n' ls) ∧ Hid (Below w.heap.size w w')
set_option maxRecDepth 100000 in
set_option maxHeartbeats 8000000 in
theorem rgiven_yes (N x : Int) (ls : List (List Int)) (A : Option Addr) (n cap B : Nat) (w : World) (hB : B ≤ w.heap.size) (h : Lists w B A n ls) (hl : n ≤ 100000) (hs : Short ls) (hr : rightF N ls = true) (hx : lit N x = true) :
    Calls Try.prog 16 #[form N A n cap, .int .i64 x] w (RGPost w N (givL x ls)) := by
  obtain ⟨i0t, hti, hz0, hz1, hz2⟩ := info_parts info40
  have HB2 := hid (below2 w (formO N A n cap 24) (.cells #[.int .i64 0, .slice none 0 0] 24))
  have HX0 : Hid (((w.alloc (formO N A n cap 24)).alloc (.cells #[.int .i64 0, .slice none 0 0] 24)).heap[w.heap.size]? = some (formO N A n cap 24)) := hid (old_block (below1 _ _) (by simp) (heap_alloc_new w _))
  have HY0 : Hid (((w.alloc (formO N A n cap 24)).alloc (.cells #[.int .i64 0, .slice none 0 0] 24)).heap[w.heap.size + 1]? = some (.cells #[.int .i64 0, .slice none 0 0] 24 (0, 0))) := hid (by rw [← World.size_alloc w (formO N A n cap 24)]; exact heap_alloc_new _ _)
  have HL0 := hid (h.below (HB2.out.mono hB))
  have HR11 := hid (rright_i N ls A n cap B ((w.alloc (formO N A n cap 24)).alloc (.cells #[.int .i64 0, .slice none 0 0] 24)) (Nat.le_trans hB HB2.out.size) HL0.out (by omega) hs)
  rw [hr] at HR11
  have h0 := (right_lit hr).1
  have HLx := hid (fun W => literal_r N x W true h0.1 (by omega) hx)
  have hwx : IntKind.i64.wrap (-x) = -x := by
    obtain ⟨q0, q1, q2⟩ : x ≠ 0 ∧ -N ≤ x ∧ x ≤ N := by simpa [lit] using hx
    rw [IntKind.wrap_i64]; omega
  have HN := hid h.len
  have HS := hid hs
  obtain ⟨Q, HQ⟩ : ∃ Q : Ending → World → Prop, Hid (Q = RGPost w N (givL x ls)) := ⟨_, hid rfl⟩
  rw [← HQ.out]
  clear h hr hx h0 hs
  go_enter Try.func16, Try.ntmps16
  go_wp2_with (first
    | (go_at_call 11; go_must (refine HR11.out.mono ?_); rintro e w1 ⟨rfl, HB3⟩; have HX1 := hid (old_block HB3.out (by simp <;> omega) HX0.out); have hx1 := cells_at HX1.out; have HY1 := hid (old_block HB3.out (by simp <;> omega) HY0.out); have HL1 := hid (HL0.out.below (HB3.out.mono (Nat.le_trans hB HB2.out.size))); have HBB := hid (after HB2.out HB3.out HB2.out.size)
       have HSz : Hid (w.heap.size + 1 < w1.heap.size) := hid (Nat.lt_of_lt_of_le (by simp <;> omega) HB3.out.size)
       have hx1b := fun o => cells_at (old_block (below1 w1 o) (Array.getElem?_eq_some_iff.1 HX1.out).1 HX1.out))
    | (go_at_call 30; go_must (refine (HLx.out _).mono ?_); rintro e w2 ⟨rfl, hw2⟩; obtain rfl := hw2.symm; clear hw2))
  have HG0 : Hid (GivIn w (w1.alloc (.cells #[.int .i64 N, .slice none 0 0] 24)) w1.heap.size 0 24 N A n cap B ls none 0 0 []) := hid (by
    have b1 := below1 w1 (.cells #[.int .i64 N, .slice none 0 0] 24)
    exact ⟨HBB.out.trans (b1.mono HBB.out.size), old_block b1 (Array.getElem?_eq_some_iff.1 HX1.out).1 HX1.out, old_block b1 (Array.getElem?_eq_some_iff.1 HY1.out).1 HY1.out, HL1.out.below (b1.mono (Nat.le_trans hB HBB.out.size)), ⟨heap_alloc_new _ _, HBB.out.size, OwnL.nil _ _⟩⟩)
  clear hx1 hx1b HX1 HY1 HL1 HX0 HY0 HL0 HB2
  go_loopg [6] n (fun gk v5 wr => ∃ k : Nat, k ≤ n ∧ gk = n - k ∧ v5 = .int .i64 k ∧ ∃ A3 n3 c3, n3 ≤ k ∧ Hid (GivIn w wr w1.heap.size 0 24 N A n cap B ls A3 n3 c3 (givL x (ls.take k))))
  case atStart => exact ⟨0, by omega, rfl, rfl, _, _, _, Nat.le_refl _, HG0⟩
  case round =>
    obtain ⟨k, hk, rfl, rfl, A3, n3, c3, hn3, HG⟩ := hrel
    obtain ⟨W0, rfl⟩ : ∃ W0, W0 = wr := ⟨_, rfl⟩
    have hg0 := cells_at HG.out.left.box
    have hb0 := cells_at HG.out.box
    by_cases hlt : k < n
    · have hlt' : (k : Int) < (n : Int) := by omega
      obtain ⟨b, off, xs, A', c', rfl, hb, hx, hc, -, -, hi⟩ := HG.out.ls.at_ hlt
      have HX := hid hx
      have HI := hid hi
      obtain ⟨l, HXL⟩ : ∃ l, Hid (xs.length = l) := ⟨_, hid rfl⟩
      rw [HXL.out] at hc HI
      have hl3 : l ≤ 200000 := by have := HS.out k xs hx; have := HXL.out; omega
      clear hx hi
      cases e1 : xs.contains x
      case true =>
        have HE := hid e1
        have HCn := hid (has_i x xs A' l c' B W0 HI.out hl3)
        rw [e1] at HCn
        clear e1
        go_wp2_with (go_at_call 36; go_must (refine HCn.out.mono ?_); rintro e w2 ⟨rfl, hw2⟩; obtain rfl := hw2.symm; clear hw2)
        go_roundg (n - (k + 1))
        case measure => omega
        case rel => exact ⟨k + 1, by omega, rfl, rfl, _, _, _, Nat.le_succ_of_le hn3, hid (by rw [giv_in HX.out HE.out]; exact HG.out)⟩
      case false =>
        have HE := hid e1
        have HCn := hid (has_i x xs A' l c' B W0 HI.out hl3)
        rw [e1] at HCn
        clear e1
        have HP := hid (giv_out HX.out HE.out)
        have HSW := hid HG.out.below.size
        go_wp2_with (go_at_call 36; go_must (refine HCn.out.mono ?_); rintro e w2 ⟨rfl, hw2⟩; obtain rfl := hw2.symm; clear hw2)
        clear hg0 hb0 hc
        go_loopg [7, 8] l (fun gk v7 v5 wq => ∃ j : Nat, j ≤ l ∧ gk = l - j ∧ v5 = .int .i64 j ∧ ∃ A5 n5 c5, n5 ≤ j ∧ v7 = .slice A5 n5 c5 ∧ Hid (Own wq W0.heap.size A5 n5 c5 (wo (xs.take j) (-x))) ∧ Hid (Below W0.heap.size W0 wq))
        case atStart => exact ⟨0, by omega, rfl, rfl, _, _, _, Nat.le_refl _, rfl, hid (Own.nil _ _), hid (Below.refl _ _)⟩
        case round =>
          obtain ⟨j, hj, rfl, rfl, A5, n5, c5, hn5, rfl, HO5, HBq⟩ := hrel
          have HG2 := hid (HG.out.later HBq.out hB)
          have hb0 := cells_at HG2.out.box
          have hg2 := cells_at HG2.out.left.box
          obtain ⟨b', off', xs', A2', c2', e2, hb2, hx, hc, -, -, hi⟩ := HG2.out.ls.at_ hlt
          injection e2 with e2
          injection e2 with e3 e4
          subst e3 e4
          have hxx : xs' = xs := Option.some.inj (hx.symm.trans HX.out)
          subst hxx
          clear hx
          rw [HXL.out] at hc hi
          by_cases hjl : j < l
          · have hjl' : (j : Int) < (l : Int) := by omega
            obtain ⟨b3, off3, y, rfl, hb3, hy, hc3⟩ := hi.at_ hjl
            have HY := hid hy
            clear hy hi
            cases e5 : (y == -x)
            case true =>
              have HE5 := hid e5
              have e6 : (y != -x) = false := by simpa using e5
              go_wp2
              go_roundg (l - (j + 1))
              case measure => omega
              case rel => exact ⟨j + 1, by omega, rfl, rfl, _, _, _, Nat.le_succ_of_le hn5, rfl, hid (by rw [wo_in HY.out HE5.out]; exact HO5.out), HBq⟩
            case false =>
              have HE5 := hid e5
              have e6 : (y != -x) = true := by simpa using e5
              go_wp2_with (at_builtin; go_must (refine wpList_append_ints rfl _ _ rfl W0.heap.size n5 c5 1 1 _ A5 _ (wo (xs'.take j) (-x)) [y] rfl rfl (HO5.out.below (below1 _ _)) (ints_new _ [y] _ rfl) (Nat.le_trans HBq.out.size (by simp)) (by omega) ?_); intro A6 c6 w3 hown hbel hgrow; have HO6 := hid hown; have HB6 := hid ((HBq.out.alloc HBq.out.size _).trans hbel); clear hown hbel hgrow)
              go_roundg (l - (j + 1))
              case measure => omega
              case rel => exact ⟨j + 1, by omega, rfl, rfl, _, _, _, Nat.succ_le_succ hn5, rfl, hid (by rw [wo_out HY.out HE5.out]; exact HO6.out), HB6⟩
          · have hjl' : ¬ (j : Int) < (l : Int) := by omega
            obtain rfl : j = l := by omega
            have HO6 : Hid (Own _ w.heap.size A5 n5 c5 (wo xs' (-x))) := hid (by have := HO5.out; rw [List.take_of_length_le (by have := HXL.out; omega)] at this; exact this.low HSW.out)
            obtain ⟨vs, hv, hp⟩ := giv_push HG2.out HO6.out (.cells #[.slice A5 n5 c5] 40) hB HSz.out (by decide) (by decide)
            have HV := hid hv
            have HPP := hid hp
            have HS2 := hid HG2.out.below.size
            clear hv hp hi
            go_wp2_with (first
              | (at_builtin; go_must (refine wpList_append_own_at _ rfl _ _ 22 rfl w.heap.size 40 i0t (.slice none 0 0) 1 24 Try.underlying22 hti hz0 hz1 hz2 rfl (by decide) (.slice A3 n3 c3) n3 vs rfl HV.out _ 1 1 [.slice A5 n5 c5] rfl rfl (cell_one_new _ _ _) (one_slice _ _ _) (by unfold maxLen; omega) (by omega) (by have := HS2.out; simp <;> omega) ?_)
                 intro v' w3 hown hgrow hnil hblk
                 obtain ⟨A6, c6, rfl, hbox, hgiv⟩ := HPP.out _ _ hown hgrow
                 have HBOX := hid hbox
                 have HGIV := hid hgiv
                 have hx3 := cells_at HBOX.out
                 have hf3 := frozen_no HBOX.out
                 clear hown hgrow hnil hblk hbox hgiv))
            go_roundg (n - (k + 1))
            case measure => omega
            case rel => exact ⟨k + 1, by omega, rfl, rfl, _, _, _, Nat.succ_le_succ hn3, hid (by rw [HP.out]; exact HGIV.out)⟩
    · have hlt' : ¬ (k : Int) < (n : Int) := by omega
      obtain rfl : k = n := by omega
      have hy1 := cells_at HG.out.res
      have hf1 := frozen_no HG.out.res
      have HR := put2_heap (.int .i64 N) (.slice A3 n3 c3) HG.out.res
      have HO3 := HG.out.left.row.put2 HG.out.res (by decide) (by decide) (.int .i64 N) (.slice A3 n3 c3)
      have HRR := hid HR
      have HOO := hid HO3
      clear HR HO3
      go_wp2
      refine bodyPost_ret (v := form N A3 n3 c3) (res24 Try.results16 rfl HRR.out) rfl ?_
      rw [HQ.out]
      refine ⟨A3, n3, c3, rfl, hid ?_, hid (put2_below _ _ HG.out.below (by omega))⟩
      have := HOO.out.lists
      rwa [List.take_of_length_le (by have := HN.out; omega)] at this
end Go.Proofs.Ytkmcdbkdlalhdaa
