/- What is left of a formula given a literal, by the program: where the literal is one. Conditions: at most 100000 clauses of at most 100000 numbers. -/
import Derived.Test.YtkmcdbkdlalhdaaCnfW
namespace Go.Proofs.Ytkmcdbkdlalhdaa
open Go.RowKit Go.Maps Go.Lib Go.Sort
set_option linter.unusedVariables false
set_option linter.unusedSimpArgs false
/-- What holds ahead of each round. -/
structure GivIn (w W : World) (G base t : Nat) (N : Int) (A : Option Addr) (n cap B : Nat) (ls : List (List Int)) (A3 : Option Addr) (n3 c3 : Nat) (done : List (List Int)) : Prop where
  below : Below w.heap.size w W
  box : W.heap[w.heap.size]? = some (.cells #[.int .i64 N, .slice A n cap] t (0, 0))
  res : W.heap[w.heap.size + 1]? = some (.cells #[.int .i64 0, .slice none 0 0] t (0, 0))
  ls : Lists W B A n ls
  left : Bt W w.heap.size G t N A3 n3 c3 done
theorem GivIn.later {w W W' : World} {G base t n cap B n3 c3 : Nat} {N : Int} {A A3 : Option Addr} {ls done : List (List Int)} (h : GivIn w W G base t N A n cap B ls A3 n3 c3 done) (hb : Below W.heap.size W W') (hB : B ≤ w.heap.size) : GivIn w W' G base t N A n cap B ls A3 n3 c3 done := by
  have l := fun {k : Nat} {o : Obj} (q : W.heap[k]? = some o) => old_block hb (Array.getElem?_eq_some_iff.1 q).1 q
  exact ⟨h.below.trans (hb.mono h.below.size), l h.box, l h.res, h.ls.below (hb.mono (Nat.le_trans hB h.below.size)), h.left.below hb⟩
theorem giv_push {w W : World} {G base t n cap B k c n2 c2 : Nat} {N : Int} {A A3 A2 : Option Addr} {ls done : List (List Int)} {xs : List Int} (h : GivIn w W G base t N A n cap B ls A3 k c done) (HO : Own W w.heap.size A2 n2 c2 xs) (o : Obj) (hB : B ≤ w.heap.size) (hG : w.heap.size + 1 < G) (h3 : t ≠ 3) (h40 : t ≠ 40) :
    ∃ vs, (W.alloc o).ownsRow w.heap.size 40 1 (.slice A3 k c) k vs ∧ ∀ v w', w'.ownsRow w.heap.size 40 1 v (k + 1) (vs ++ [.slice A2 n2 c2]) → (W.alloc o).grownBy w' (Value.ownBlock (.slice A3 k c)) →
      ∃ A' c', v = .slice A' (k + 1) c' ∧ w'.heap[G]? = some (.cells #[.int .i64 N, .slice A3 k c] t (0, 0)) ∧ GivIn w (w'.setCell ⟨G, 1, none⟩ (.slice A' (k + 1) c')) G base t N A n cap B ls A' (k + 1) c' (done ++ [xs]) := by
  obtain ⟨vs, q1, q2⟩ := bt_push h.left HO o h.below.size h3 h40
  refine ⟨vs, q1, fun v w' hw hg => ?_⟩
  obtain ⟨A', c', rfl, hbox, hbt, hbe, hk⟩ := q2 v w' hw hg
  exact ⟨A', c', rfl, hbox, h.below.trans hbe, hk _ t _ h40 (by omega) h.box, hk _ t _ h40 (by omega) h.res, h.ls.below (hbe.mono hB), hbt⟩
set_option maxRecDepth 100000 in
set_option maxHeartbeats 4000000 in
theorem given_yes (N x : Int) (ls : List (List Int)) (A : Option Addr) (n cap B : Nat) (w : World) (hB : B ≤ w.heap.size) (h : Lists w B A n ls) (hl : n ≤ 100000) (hs : Short ls) (hr : rightF N ls = true) (hx : lit N x = true) :
    Calls Try.prog 15 #[form N A n cap, .int .i64 x] w (FormPost w N (givL x ls)) := by
  obtain ⟨i0t, hti, hz0, hz1, hz2⟩ := info_parts info40
  have HB2 := hid (below2 w (formO N A n cap 29) (.cells #[.int .i64 0, .slice none 0 0] 29))
  have HX0 : Hid (((w.alloc (formO N A n cap 29)).alloc (.cells #[.int .i64 0, .slice none 0 0] 29)).heap[w.heap.size]? = some (formO N A n cap 29)) := hid (old_block (below1 _ _) (by simp) (heap_alloc_new w _))
  have HY0 : Hid (((w.alloc (formO N A n cap 29)).alloc (.cells #[.int .i64 0, .slice none 0 0] 29)).heap[w.heap.size + 1]? = some (.cells #[.int .i64 0, .slice none 0 0] 29 (0, 0))) := hid (by rw [← World.size_alloc w (formO N A n cap 29)]; exact heap_alloc_new _ _)
  have HL0 := hid (h.below (HB2.out.mono hB))
  have HR9 := hid (right_i N ls A n cap B ((w.alloc (formO N A n cap 29)).alloc (.cells #[.int .i64 0, .slice none 0 0] 29)) (Nat.le_trans hB HB2.out.size) HL0.out (by omega) hs)
  rw [hr] at HR9
  have h0 := (right_lit hr).1
  have HLx := hid (literal_i x N · h0.1 (by omega))
  rw [hx] at HLx
  have hwx : IntKind.i64.wrap (-x) = -x := by
    obtain ⟨q0, q1, q2⟩ : x ≠ 0 ∧ -N ≤ x ∧ x ≤ N := by simpa [lit] using hx
    rw [IntKind.wrap_i64]; omega
  have HN := hid h.len
  have HS := hid hs
  obtain ⟨Q, HQ⟩ : ∃ Q : Ending → World → Prop, Hid (Q = FormPost w N (givL x ls)) := ⟨_, hid rfl⟩
  rw [← HQ.out]
  clear h hr hx h0 hs
  go_enter Try.func15, Try.ntmps15
  go_wp2_with (first
    | (go_at_call 9; go_must (refine HR9.out.mono ?_); rintro e w1 ⟨rfl, HB3⟩; have HX1 := hid (old_block HB3.out (by simp <;> omega) HX0.out); have hx1 := cells_at HX1.out; have HY1 := hid (old_block HB3.out (by simp <;> omega) HY0.out); have HL1 := hid (HL0.out.below (HB3.out.mono (Nat.le_trans hB HB2.out.size))); have HBB := hid (after HB2.out HB3.out HB2.out.size)
       have HSz : Hid (w.heap.size + 1 < w1.heap.size) := hid (Nat.lt_of_lt_of_le (by simp <;> omega) HB3.out.size)
       have hx1b := fun o => cells_at (old_block (below1 w1 o) (Array.getElem?_eq_some_iff.1 HX1.out).1 HX1.out))
    | (go_at_call 32; go_must (refine (HLx.out _).mono ?_); rintro e w2 ⟨rfl, hw2⟩; obtain rfl := hw2.symm; clear hw2))
  have HG0 : Hid (GivIn w (w1.alloc (.cells #[.int .i64 N, .slice none 0 0] 29)) w1.heap.size 0 29 N A n cap B ls none 0 0 []) := hid (by
    have b1 := below1 w1 (.cells #[.int .i64 N, .slice none 0 0] 29)
    exact ⟨HBB.out.trans (b1.mono HBB.out.size), old_block b1 (Array.getElem?_eq_some_iff.1 HX1.out).1 HX1.out, old_block b1 (Array.getElem?_eq_some_iff.1 HY1.out).1 HY1.out, HL1.out.below (b1.mono (Nat.le_trans hB HBB.out.size)), ⟨heap_alloc_new _ _, HBB.out.size, OwnL.nil _ _⟩⟩)
  clear hx1 hx1b HX1 HY1 HL1 HX0 HY0 HL0 HB2
  go_loopg [26] n (fun gk v5 wr => ∃ k : Nat, k ≤ n ∧ gk = n - k ∧ v5 = .int .i64 k ∧ ∃ A3 n3 c3, n3 ≤ k ∧ Hid (GivIn w wr w1.heap.size 0 29 N A n cap B ls A3 n3 c3 (givL x (ls.take k))))
  case atStart => exact ⟨0, by omega, rfl, rfl, _, _, _, Nat.le_refl _, HG0⟩
  case round =>
    obtain ⟨k, hk, rfl, rfl, A3, n3, c3, hn3, HG⟩ := hrel
    have hg0 := cells_at HG.out.left.box
    by_cases hlt : k < n
    · have hlt' : (k : Int) < (n : Int) := by omega
      obtain ⟨b, off, xs, A', c', rfl, hb, hx, hc, -, -, hi⟩ := HG.out.ls.at_ hlt
      have HX := hid hx
      have HI := hid hi
      obtain ⟨l, HXL⟩ : ∃ l, Hid (xs.length = l) := ⟨_, hid rfl⟩
      rw [HXL.out] at hc HI
      have hl3 : l ≤ 200000 := by have := HS.out k xs hx; have := HXL.out; omega
      clear hx hi
      cases e1 : xs.contains x
      case true =>
        have HE := hid e1
        have HCn := hid (contains_i x xs A' l c' B wr HI.out hl3)
        rw [e1] at HCn
        clear e1
        go_wp2_with (go_at_call 34; go_must (refine HCn.out.mono ?_); rintro e w2 ⟨rfl, hw2⟩; obtain rfl := hw2.symm; clear hw2)
        go_roundg (n - (k + 1))
        case measure => omega
        case rel => exact ⟨k + 1, by omega, rfl, rfl, _, _, _, Nat.le_succ_of_le hn3, hid (by rw [giv_in HX.out HE.out]; exact HG.out)⟩
      case false =>
        have HE := hid e1
        have HCn := hid (contains_i x xs A' l c' B wr HI.out hl3)
        rw [e1] at HCn
        clear e1
        have HWO := hid (without_i (-x) xs A' l c' B wr.drew (Nat.le_trans hB HG.out.below.size) HI.out hl3)
        have HP := hid (giv_out HX.out HE.out)
        obtain ⟨y, HY⟩ : ∃ y, Hid (wo xs (-x) = y) := ⟨_, hid rfl⟩
        rw [HY.out] at HWO HP
        obtain ⟨m, HM⟩ : ∃ m, Hid (y.length = m) := ⟨_, hid rfl⟩
        rw [HM.out] at HWO
        have HGD := hid (HG.out.later (below_drew1 wr) hB)
        have HSW := hid HG.out.below.size
        go_wp2_with (go_at_call 34; go_must (refine HCn.out.mono ?_); rintro e w2 ⟨rfl, hw2⟩; obtain rfl := hw2.symm; clear hw2)
        go_region_law (first
          | (go_simp
             go_at_call 35
             refine HWO.out.mono ?_
             rintro e w2 ⟨A5, c5, rfl, HO5, HB5⟩
             have HG2 := hid (HGD.out.later HB5.out hB)
             have hg2 := cells_at HG2.out.left.box
             have hg2b := fun o => cells_at (HG2.out.left.below (below1 w2 o)).box
             have HS2 : Hid (w.heap.size ≤ w2.heap.size) := hid HG2.out.below.size
             obtain ⟨vs, hv, hp⟩ := giv_push HG2.out (HO5.out.low HSW.out) (.cells #[.slice A5 m c5] 40) hB HSz.out (by decide) (by decide)
             have HV := hid hv
             have HPP := hid hp
             clear hv hp)
          | (refine step_append_at rfl (.tmp 35) (.tmp 40) 22 rfl w.heap.size 40 i0t (.slice none 0 0) 1 24 Try.underlying22 hti hz0 hz1 hz2 rfl (by decide) (.slice A3 n3 c3) n3 vs rfl HV.out _ 1 1 [.slice A5 m c5] rfl rfl (cell_one_new _ _ _) (one_slice _ _ _) (by unfold maxLen; omega) (by omega) (by have := HS2.out; simp <;> omega) ?_
             intro v' w3 hown hgrow hblk
             obtain ⟨A6, c6, rfl, hbox, hgiv⟩ := HPP.out _ _ hown hgrow
             have HBOX := hid hbox
             have HGIV := hid hgiv
             have hx3 := cells_at HBOX.out
             have hf3 := frozen_no HBOX.out
             clear hown hgrow hblk hbox hgiv))
        all_goals
          clear hg0 hg2 hg2b hx3 hf3
          go_wp2
          go_roundg (n - (k + 1))
          case measure => omega
          case rel => exact ⟨k + 1, by omega, rfl, rfl, _, _, _, Nat.succ_le_succ hn3, hid (by rw [HP.out]; exact HGIV.out)⟩
    · have hlt' : ¬ (k : Int) < (n : Int) := by omega
      obtain rfl : k = n := by omega
      have hy1 := cells_at HG.out.res
      have hf1 := frozen_no HG.out.res
      have HR := put2_heap (.int .i64 N) (.slice A3 n3 c3) HG.out.res
      have HO3 := HG.out.left.row.put2 HG.out.res (by decide) (by decide) (.int .i64 N) (.slice A3 n3 c3)
      have HRR := hid HR
      have HOO := hid HO3
      clear HR HO3
      go_wp2
      refine bodyPost_ret (v := form N A3 n3 c3) (res29 Try.results15 rfl HRR.out) rfl ?_
      rw [HQ.out]
      refine ⟨A3, n3, c3, rfl, hid ?_, hid (put2_below _ _ HG.out.below (by omega))⟩
      have := HOO.out
      rwa [List.take_of_length_le (by have := HN.out; omega)] at this
end Go.Proofs.Ytkmcdbkdlalhdaa
