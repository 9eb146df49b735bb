/- The chapter's example comes as it must. No conditions. -/
import Derived.Test.YtkmcdbkdlalhdaaCnfP
namespace Go.Proofs.Ytkmcdbkdlalhdaa
open Go.RowKit Go.Maps Go.Lib Go.Sort
set_option linter.unusedVariables false
set_option linter.unusedSimpArgs false
theorem ex_wo1 : wo [1, 2] 1 = [2] := by decide
theorem ex_wo2 : wo [-1, 3] (-1) = [3] := by decide
theorem ex_strict : strict [2, 3] := by
  unfold strict
  refine List.Pairwise.cons ?_ (List.Pairwise.cons (by simp) List.Pairwise.nil)
  intro x hx
  simp at hx
  subst hx
  left
  decide
theorem ex_nrm : nrm (wo [1, 2] 1 ++ wo [-1, 3] (-1)) = [2, 3] := by
  rw [ex_wo1, ex_wo2]; exact nrm_of_strict ex_strict
theorem ex_ok : okN [2, 3] = true := okN_yes (by
  intro k h0 h1 x y hx hy
  have : k = 1 := by simp at h1; omega
  subst this
  simp at hx hy
  subst hx hy
  decide)
theorem ex_res : resB [1, 2] [-1, 3] 1 = true := by
  unfold resB
  rw [ex_nrm, ex_ok]
  decide
theorem bools_new (w : World) (xs : List Bool) (cs : Array Value) (h : cs.toList = xs.map Value.bool) : Bools (w.alloc (.cells cs 4)) (w.alloc (.cells cs 4)).heap.size (some ⟨w.heap.size, 0, none⟩) xs.length xs := by
  refine ⟨by simp, .inr ⟨w.heap.size, 0, rfl, by simp, fun j u hu => ?_⟩⟩
  rw [Nat.zero_add, cells_at (heap_alloc_new w (.cells cs 4)), ← Array.getElem?_toList, h, hu]
theorem ex_put : putF 2 [] (neg [1] ++ [2]) = [[-1, 2]] := by decide
theorem ex_e1 : evalF 2 [[-1, 2]] [true, true] = true := by decide
theorem ex_e2 : evalF 2 [[-1, 2]] [true, false] = false := by decide
theorem ex_short : Short [[-1, 2]] := by
  intro k xs h
  have : k = 0 := by
    have := (List.getElem?_eq_some_iff.1 h).1
    simp at this; exact this
  subst this
  simp at h
  subst h
  simp
theorem ex_form {w : World} {base n c : Nat} {A : Option Addr} (h : OwnL w base A n c [[-1, 2]]) : n = 1 ∧ ∃ b off b2 off2 c2, A = some ⟨b, off, none⟩ ∧ b < w.heap.size ∧ w.cell? ⟨b, off, none⟩ = some (.slice (some ⟨b2, off2, none⟩) 2 c2) ∧ b2 < w.heap.size ∧ w.cell? ⟨b2, off2, none⟩ = some (.int .i64 (-1)) := by
  have hn : n = 1 := h.len.symm
  subst hn
  obtain ⟨b, off, xs, A', c', e, hb, hx, hc, -, -, hi⟩ := h.lists.at_ (show 0 < 1 by omega)
  simp at hx
  subst hx
  obtain ⟨b2, off2, x, e2, hb2, hx2, hc2⟩ := hi.at_ (show 0 < 2 by omega)
  simp at hx2
  subst hx2 e2
  exact ⟨rfl, b, off, b2, off2, c', e, hb, hc, hb2, hc2⟩
theorem ex_two {w : World} {B n : Nat} {A : Option Addr} (h : Ints w B A n [2, 3]) : n = 2 ∧ ∃ b off, A = some ⟨b, off, none⟩ ∧ b < B ∧ w.cell? ⟨b, off, none⟩ = some (.int .i64 2) ∧ w.cell? ⟨b, off + 1, none⟩ = some (.int .i64 3) := by
  have hn : n = 2 := h.len.symm
  subst hn
  obtain ⟨b, off, x, e, hb, hx, hc⟩ := h.at_ (show 0 < 2 by omega)
  obtain ⟨b', off', y, e', hb', hy, hc'⟩ := h.at_ (show 1 < 2 by omega)
  rw [e] at e'
  injection e' with e'
  injection e' with e1 e2
  subst e1 e2
  simp at hx hy
  subst hx hy
  exact ⟨rfl, b, off, e, hb, hc, hc'⟩
theorem ex_eval {W : World} {base c cap2 : Nat} {A : Option Addr} (h : OwnL W base A 1 c [[-1, 2]]) (p q : Bool) (r : Bool) (hr : evalF 2 [[-1, 2]] [p, q] = r) :
    Calls Try.prog 12 #[form 2 A 1 c, .slice (some ⟨W.heap.size, 0, none⟩) 2 cap2] (W.alloc (.cells #[.bool p, .bool q] 4)) fun e w' => e = .returned (.bool r) ∧ Hid (Below (W.alloc (.cells #[.bool p, .bool q] 4)).heap.size (W.alloc (.cells #[.bool p, .bool q] 4)) w') := by
  rw [← hr]
  exact eval_i 2 [[-1, 2]] [p, q] A _ 1 c 2 cap2 _ _ (Nat.le_refl _) ((h.lists.below (below1 _ _)).more (by simp)) (bools_new W [p, q] _ rfl) (by omega) (by omega) ex_short
set_option maxHeartbeats 4000000 in
theorem alive_i (w : World) : Calls Try.prog 8 #[] w fun e w' => e = .returned (.bool true) ∧ Hid (Below w.heap.size w w') := by
  have HA := hid (ints_new w [1, 2] #[.int .i64 1, .int .i64 2] rfl)
  have HA2 := hid (ints_new (w.alloc (.cells #[.int .i64 1, .int .i64 2] 3)) [-1, 3] #[.int .i64 (-1), .int .i64 3] rfl)
  have HB2 := hid (below2 w (.cells #[.int .i64 1, .int .i64 2] 3) (.cells #[.int .i64 (-1), .int .i64 3] 3))
  have HR := hid (fun c1 c2 => resolve_i [1, 2] [-1, 3] 1 (some ⟨w.heap.size, 0, none⟩) (some ⟨w.heap.size + 1, 0, none⟩) 2 c1 2 c2 _ ((w.alloc (.cells #[.int .i64 1, .int .i64 2] 3)).alloc (.cells #[.int .i64 (-1), .int .i64 3] 3)) (Nat.le_refl _) (.inr (by decide)) ((HA.out.below (below1 _ _)).more (by simp)) (by simpa using HA2.out) (by omega) (by omega))
  rw [ex_nrm, ex_res] at HR
  have F1 : True := trivial
  have F2 : True := trivial
  go_enter Try.func8, Try.ntmps8
  go_wp2_with (first
    | (go_at_call 25; go_must (refine (HR.out _ _).mono ?_); rintro e w1 ⟨A1, n1, c1, rfl, HI1, HCap1, HB1⟩; have HJ1 : Hid (Ints w1 w1.heap.size A1 n1 [2, 3]) := HI1; clear HI1)
    | (go_at_call 17; go_must (refine (new_i _).mono ?_); rintro e w2 ⟨rfl, HBd, HC2⟩)
    | (go_at_call 19; have hh := F1; clear F1; go_must (refine (var_i _ _ 0 0 0 none [] _ HBd.out (by omega)).mono ?_); rintro e w3 ⟨rfl, HBd1, HK1⟩; have HC3 := hid (HC2.out.trans (Kept.below HBd.out HK1.out HC2.out.size)))
    | (go_at_call 19; go_must (refine (var_i _ _ 0 0 1 none [] _ HBd1.out (by omega)).mono ?_); rintro e w4 ⟨rfl, HBd2, HK2⟩
       have HC4 := hid (HC3.out.trans (Kept.below HBd1.out HK2.out HC3.out.size))
       have HD1 := hid (ints_new w4 [1] #[.int .i64 1] rfl)
       have HD2 := hid (ints_new (w4.alloc (.cells #[.int .i64 1] 3)) [2] #[.int .i64 2] rfl)
       have HC5 := hid (HC4.out.trans ((below2 w4 (.cells #[.int .i64 1] 3) (.cells #[.int .i64 2] 3)).mono HC4.out.size))
       have HI := hid (fun c1 c2 => imply_yes w1.heap.size w1.heap.size 0 0 1 c1 1 c2 _ 2 none (some ⟨w4.heap.size, 0, none⟩) (some ⟨w4.heap.size + 1, 0, none⟩) [] [1] [2] ((w4.alloc (.cells #[.int .i64 1] 3)).alloc (.cells #[.int .i64 2] 3)) (HBd2.out.below (below2 _ _ _)) HC5.out.size ((HD1.out.below (below1 _ _)).more (by simp)) (by simpa using HD2.out) (Nat.le_refl _) (by omega) (by omega) (by omega) (by omega) (by omega) (by decide))
       rw [ex_put] at HI)
    | (go_at_call 22; go_must (refine (HI.out _ _).mono ?_); rintro e w5 ⟨rfl, A5, n5, c5, HBd3, HK3, -⟩
       have HC6 := hid (HC5.out.trans (Kept.below (HBd2.out.below (below2 _ _ _)) HK3.out HC5.out.size))
       have HN5 := hid HBd3.out.row.len)
    | (go_at_call 24; go_must (refine (formula_i _ _ n5 c5 2 A5 [[-1, 2]] _ HBd3.out (by have := HN5.out; simp at this; omega) ex_short).mono ?_); rintro e w6 ⟨A6, n6, c6, rfl, HO6, HB6⟩
       have HC7 := hid (after HC6.out HB6.out HC6.out.size)
       have HX6 := hid (heap_alloc_new w6 (formO 2 A6 n6 c6 29))
       have HC8 := hid (HC7.out.alloc HC7.out.size (formO 2 A6 n6 c6 29))
       have HO7 := hid (HO6.out.below (below1 w6 (formO 2 A6 n6 c6 29)))
       obtain ⟨rfl, b, off, b2, off2, c7, rfl, hb7, hq1, hb8, hq2⟩ := ex_form HO7.out
       obtain ⟨rfl, b9, off9, rfl, hb9, hq3, hq4⟩ := ex_two (HJ1.out.below HC8.out)
       have hx6 := cells_at HX6.out
       have H8 := hid (fun c2 => ex_eval (cap2 := c2) HO7.out true true true ex_e1)
       rw [World.size_alloc w6 (formO 2 (some ⟨b, off, none⟩) 1 c6 29)] at H8)
    | (go_at_call 12; have tok := H8; clear H8; go_must (with_reducible refine (tok.out _).mono ?_); rintro e w8 ⟨rfl, HB8⟩
       have HC9 := hid (after (HC8.out.alloc HC8.out.size _) HB8.out (HC8.out.alloc HC8.out.size (.cells #[.bool true, .bool true] 4)).size)
       have HBX := hid (((below1 (w6.alloc (formO 2 (some ⟨b, off, none⟩) 1 c6 29)) (.cells #[.bool true, .bool true] 4)).trans (HB8.out.mono (by simp))))
       have HX8 := hid (old_block HBX.out (by simp) HX6.out)
       have HO8 := hid (HO7.out.below HBX.out)
       have hx8 := cells_at HX8.out)
    | (go_at_call 12; go_must (with_reducible refine (ex_eval HO8.out true false false ex_e2).mono ?_); rintro e w9 ⟨rfl, HB9⟩
       have HC10 := hid (after (HC9.out.alloc HC9.out.size _) HB9.out (HC9.out.alloc HC9.out.size (.cells #[.bool true, .bool false] 4)).size)))
  go_ret
  exact ⟨rfl, hid ((after HB2.out HB1.out HB2.out.size).trans (HC10.out.mono (after HB2.out HB1.out HB2.out.size).size))⟩
end Go.Proofs.Ytkmcdbkdlalhdaa
