/- What an instruction reads, by the reference. Condition: at most 40 arguments. -/
import Derived.Test.YtplpjckkocccfaaIrO
namespace Go.Proofs.Ytplpjckkocccfaa
open Go.RowKit Go.Maps
set_option linter.unusedVariables false
set_option linter.unusedSimpArgs false
abbrev l12 : List Int := [3, 4, 6, 7, 8, 9, 10, 11, 13, 14, 17, 18]
abbrev l3 : List Int := [4, 8, 11]
theorem row_new1 (w : World) (xs : List Int) (cs : Array Value) (h : cs.toList = xs.map (Value.int .i64)) : Row (w.alloc (.cells cs 3)) w.heap.size xs := by
  intro j x hj
  rw [cells_at (heap_alloc_new w (.cells cs 3)), ← Array.getElem?_toList, h, List.getElem?_map, hj]
  rfl
theorem row_atk (W : World) (xs : List Int) (cs : Array Value) (k : Nat) (hk : W.heap.size = k) (h : cs.toList = xs.map (Value.int .i64)) : Row (W.alloc (.cells cs 3)) k xs := by
  subst hk; exact row_new1 W xs cs h
theorem one_at (W : World) (v : Value) (k : Nat) (hk : W.heap.size = k) : ∀ j u, [v][j]? = some u → (W.alloc (.cells #[v] 3)).cell? ((⟨k, 0, none⟩ : Addr).add j) = some u := by
  subst hk
  intro j u hj
  cases j with
  | zero => simp at hj; subst hj; exact cells_at (heap_alloc_new W _) 0
  | succ j => simp at hj
theorem keep_box {W w1 : World} {row : Option Nat} {n : Nat} {o : Obj} (h : W.heap[n]? = some o) (hg : W.grownBy w1 row) (hr : ∀ k, row = some k → n + 1 ≤ k) : w1.heap[n]? = some o :=
  (hg.block n (Array.getElem?_eq_some_iff.1 h).1 (by intro q; have := hr n q.symm; omega)).trans h
set_option maxHeartbeats 4000000 in
theorem rreads_2 (op d a b to el : Int) (c4 c5 c6 args c8 c11 c12 : Value) (w : World) (h12 : l12.contains op = true) (h3 : l3.contains op = true) (h15 : (op == 15) = false) : Calls Try.prog 10 #[ins op d a b c4 c5 c6 args c8 to el c11 c12] w fun e w' =>
    ∃ v, e = .returned v ∧ Hid (IsRow w' v [a, b]) ∧ Hid (Below w.heap.size w w') := by
  have HB2 := hid (below2 w)
  have HR := hid (fun o => row_new w o l12 _ rfl)
  have H12 := hid h12
  have H3 := hid h3
  clear h12 h3
  obtain ⟨i0t, hti, hz0, hz1, hz2⟩ := info_parts info3
  have F1 : True := trivial
  have G1 : True := trivial
  have F2 : True := trivial
  have G2 : True := trivial
  go_enter Try.func10, Try.ntmps10
  go_wp2_with (first
    | (go_at_call 20; have hh := F1; clear F1; go_must (refine (in_a op l12 _ _ true _ (HR.out _) (by decide) H12.out).mono ?_); rintro e w' ⟨rfl, rfl⟩)
    | (at_builtin; have hh := G1; clear G1; go_must (refine wpList_append_own_at _ rfl _ _ 22 rfl (w.heap.size + 1) 3 i0t (.int .i64 0) 1 8 Try.underlying22 hti hz0 hz1 hz2 rfl (by decide) _ 0 [] rfl (World.ownsRow_nil _ _ _ _) _ 1 1 [.int .i64 a] rfl rfl (one_at _ _ _ (by simp)) (by intro u hu; simp at hu; subst hu; rfl) (by unfold maxLen; omega) (by omega) (by simp) ?_); intro v' w1 hown hgrow hnil hblk
       have HO1 := hid hown
       have HX1 := hid (keep_box (old_block (below1 _ _) (by simp <;> omega) (old_block (below1 _ _) (by simp <;> omega) (heap_alloc_new w _))) hgrow (by rintro k e; cases e))
       have HB1 := hid ((HB2.out _ _).alloc (by simp <;> omega) (.cells #[.int .i64 a] 3) |>.grown hgrow (by simp <;> omega) (by rintro k e; cases e))
       have hx1 := cells_at HX1.out
       have hx1b := fun o => cells_at1 HX1.out o
       clear hown hgrow hnil hblk)
    | (go_at_call 20; have hh := F2; clear F2; go_must (refine (in_a op l3 _ _ true _ (row_new1 _ _ _ rfl) (by decide) H3.out).mono ?_); rintro e w' ⟨rfl, rfl⟩)
    | (at_builtin; have hh := G2; clear G2; go_must (refine wpList_append_own_at _ rfl _ _ 22 rfl (w.heap.size + 1) 3 i0t (.int .i64 0) 1 8 Try.underlying22 hti hz0 hz1 hz2 rfl (by decide) v' _ _ rfl ((HO1.out.alloc _).alloc _) _ 1 1 [.int .i64 b] rfl rfl (one_at _ _ _ (by simp)) (by intro u hu; simp at hu; subst hu; rfl) (by unfold maxLen; omega) (by omega) (by have := HB1.out.size; have := (Array.getElem?_eq_some_iff.1 HX1.out).1; simp <;> omega) ?_); intro v2 w2 hown2 hgrow2 hnil2 hblk2
       have HO2 := hid hown2
       have hlow := fun k (q : v'.ownBlock = some k) => (HO1.out.lt k q).1
       have HX2 := hid (keep_box (old_block (below1 _ _) (by have := (Array.getElem?_eq_some_iff.1 HX1.out).1; simp <;> omega) (old_block (below1 _ _) (Array.getElem?_eq_some_iff.1 HX1.out).1 HX1.out)) hgrow2 hlow)
       have HB3 := hid ((after HB1.out (below2 _ _ _) HB1.out.size).grown hgrow2 (by have := HB1.out.size; simp <;> omega) (fun k q => by have := hlow k q; omega))
       have hx2 := cells_at HX2.out
       clear hown2 hgrow2 hnil2 hblk2 hlow))
  go_ret
  exact ⟨_, rfl, hid (isRow_owns (xs := [a, b]) HO2.out), HB3⟩
set_option maxHeartbeats 4000000 in
theorem rreads_1 (op d a b to el : Int) (c4 c5 c6 args c8 c11 c12 : Value) (w : World) (h12 : l12.contains op = true) (h3 : l3.contains op = false) (h15 : (op == 15) = false) : Calls Try.prog 10 #[ins op d a b c4 c5 c6 args c8 to el c11 c12] w fun e w' =>
    ∃ v, e = .returned v ∧ Hid (IsRow w' v [a]) ∧ Hid (Below w.heap.size w w') := by
  have HB2 := hid (below2 w)
  have HR := hid (fun o => row_new w o l12 _ rfl)
  have H12 := hid h12
  have H3 := hid h3
  clear h12 h3
  obtain ⟨i0t, hti, hz0, hz1, hz2⟩ := info_parts info3
  have F1 : True := trivial
  have G1 : True := trivial
  have F2 : True := trivial
  go_enter Try.func10, Try.ntmps10
  go_wp2_with (first
    | (go_at_call 20; have hh := F1; clear F1; go_must (refine (in_a op l12 _ _ true _ (HR.out _) (by decide) H12.out).mono ?_); rintro e w' ⟨rfl, rfl⟩)
    | (at_builtin; have hh := G1; clear G1; go_must (refine wpList_append_own_at _ rfl _ _ 22 rfl (w.heap.size + 1) 3 i0t (.int .i64 0) 1 8 Try.underlying22 hti hz0 hz1 hz2 rfl (by decide) _ 0 [] rfl (World.ownsRow_nil _ _ _ _) _ 1 1 [.int .i64 a] rfl rfl (one_at _ _ _ (by simp)) (by intro u hu; simp at hu; subst hu; rfl) (by unfold maxLen; omega) (by omega) (by simp) ?_); intro v' w1 hown hgrow hnil hblk
       have HO1 := hid hown
       have HX1 := hid (keep_box (old_block (below1 _ _) (by simp <;> omega) (old_block (below1 _ _) (by simp <;> omega) (heap_alloc_new w _))) hgrow (by rintro k e; cases e))
       have HB1 := hid ((HB2.out _ _).alloc (by simp <;> omega) (.cells #[.int .i64 a] 3) |>.grown hgrow (by simp <;> omega) (by rintro k e; cases e))
       have hx1 := cells_at HX1.out
       have hx1b := fun o => cells_at1 HX1.out o
       clear hown hgrow hnil hblk)
    | (go_at_call 20; have hh := F2; clear F2; go_must (refine (in_a op l3 _ _ false _ (row_new1 _ _ _ rfl) (by decide) H3.out).mono ?_); rintro e w' ⟨rfl, rfl⟩))
  go_ret
  exact ⟨_, rfl, hid (isRow_owns (xs := [a]) (HO1.out.alloc _)), hid (after HB1.out (below1 _ _) HB1.out.size)⟩
theorem below3' (w : World) (o p q : Obj) : Below w.heap.size w (((w.alloc o).alloc p).alloc q) := (below2 w o p).alloc (by simp <;> omega) _
set_option maxHeartbeats 4000000 in
theorem rreads_0 (op d a b to el : Int) (c4 c5 c6 args c8 c11 c12 : Value) (w : World) (h12 : l12.contains op = false) (h3 : l3.contains op = false) (h15 : (op == 15) = false) : Calls Try.prog 10 #[ins op d a b c4 c5 c6 args c8 to el c11 c12] w fun e w' =>
    ∃ v, e = .returned v ∧ Hid (IsRow w' v []) ∧ Hid (Below w.heap.size w w') := by
  have HB3 := hid (below3' w)
  have HR := hid (fun o => row_new w o l12 _ rfl)
  have H12 := hid h12
  have H3 := hid h3
  clear h12 h3
  have F1 : True := trivial
  go_enter Try.func10, Try.ntmps10
  go_wp2_with (first
    | (go_at_call 20; have hh := F1; clear F1; go_must (refine (in_a op l12 _ _ false _ (HR.out _) (by decide) H12.out).mono ?_); rintro e w' ⟨rfl, rfl⟩)
    | (go_at_call 20; go_must (refine (in_a op l3 _ _ false _ (row_atk _ _ _ _ (by simp) rfl) (by decide) H3.out).mono ?_); rintro e w' ⟨rfl, rfl⟩))
  go_ret
  exact ⟨_, rfl, hid (isRow_nil _), HB3.out _ _ _⟩
set_option maxHeartbeats 4000000 in
theorem rreads_15 (d a b to el : Int) (c4 c5 c6 args c8 c11 c12 : Value) (xs : List Int) (w : World) (hv : Came w args xs) (hl : xs.length ≤ 40) : Calls Try.prog 10 #[ins 15 d a b c4 c5 c6 args c8 to el c11 c12] w fun e w' =>
    ∃ v, e = .returned v ∧ Hid (IsRow w' v xs) ∧ Hid (Below w.heap.size w w') := by
  have HB3 := hid (below3' w)
  have HR := hid (fun o => row_new w o l12 _ rfl)
  have HV := hid (fun o p q => hv.below (below3' w o p q))
  have F1 : True := trivial
  rcases hv with ⟨rfl, rfl⟩ | ⟨ad, cap, rfl, hlt, hc⟩
  · go_enter Try.func10, Try.ntmps10
    go_wp2_with (first
      | (go_at_call 20; have hh := F1; clear F1; go_must (refine (in_a 15 l12 _ _ false _ (HR.out _) (by decide) (by decide)).mono ?_); rintro e w' ⟨rfl, rfl⟩)
      | (go_at_call 20; go_must (refine (in_a 15 l3 _ _ false _ (row_atk _ _ _ _ (by simp) rfl) (by decide) (by decide)).mono ?_); rintro e w' ⟨rfl, rfl⟩))
    go_ret
    exact ⟨_, rfl, hid (isRow_nil _), HB3.out _ _ _⟩
  · obtain ⟨i0t, hti, hz0, hz1, hz2⟩ := info_parts info3
    have HN := hid (fun o p q => came_news ((HV.out o p q) |> fun h => by
      rcases h with ⟨h, -⟩ | ⟨ad', cap', h, -, h2⟩
      · cases h
      · cases h; exact h2))
    obtain ⟨n, hn⟩ : ∃ n : Nat, xs.length = n := ⟨_, rfl⟩
    rw [hn] at hl ⊢
    have HL := hid hn
    clear hn hc hlt HV
    go_enter Try.func10, Try.ntmps10
    go_wp2_with (first
      | (go_at_call 20; have hh := F1; clear F1; go_must (refine (in_a 15 l12 _ _ false _ (HR.out _) (by decide) (by decide)).mono ?_); rintro e w' ⟨rfl, rfl⟩)
      | (go_at_call 20; go_must (refine (in_a 15 l3 _ _ false _ (row_atk _ _ _ _ (by simp) rfl) (by decide) (by decide)).mono ?_); rintro e w' ⟨rfl, rfl⟩)
      | (at_builtin; go_must (refine wpList_append_own_at _ rfl _ _ 22 rfl w.heap.size 3 i0t (.int .i64 0) 1 8 Try.underlying22 hti hz0 hz1 hz2 rfl (by decide) _ 0 [] rfl (World.ownsRow_nil _ _ _ _) ad n cap (xs.map (Value.int .i64)) rfl (by rw [List.length_map, HL.out, Nat.mul_one]) (HN.out _ _ _) (ints_one xs) (by unfold maxLen; omega) (by omega) (by simp <;> omega) ?_); intro v' w1 hown hgrow hnil hblk))
    go_ret
    exact ⟨_, rfl, hid (isRow_owns hown), hid ((HB3.out _ _ _).grown hgrow (HB3.out _ _ _).size (by rintro k e; cases e))⟩
theorem no12 {op : Int} (h : NoRd op) : l12.contains op = false := by
  obtain ⟨h3, h4, h6, h7, h8, h9, h10, h11, h13, h14, h15, h17, h18⟩ := h
  simp at h3 h4 h6 h7 h8 h9 h10 h11 h13 h14 h15 h17 h18
  simp [l12, h3, h4, h6, h7, h8, h9, h10, h11, h13, h14, h15, h17, h18]
theorem no3 {op : Int} (h : NoRd op) : l3.contains op = false := by
  obtain ⟨h3, h4, h6, h7, h8, h9, h10, h11, h13, h14, h15, h17, h18⟩ := h
  simp at h3 h4 h6 h7 h8 h9 h10 h11 h13 h14 h15 h17 h18
  simp [l3, h3, h4, h6, h7, h8, h9, h10, h11, h13, h14, h15, h17, h18]
theorem rreads_i (op d a b to el : Int) (c4 c5 c6 args c8 c11 c12 : Value) (xs : List Int) (w : World) (hv : Came w args xs) (hl : xs.length ≤ 40) : Calls Try.prog 10 #[ins op d a b c4 c5 c6 args c8 to el c11 c12] w fun e w' =>
    ∃ v, e = .returned v ∧ Hid (IsRow w' v (rds op a b xs)) ∧ Hid (Below w.heap.size w w') := by
  rcases op_cases op with h | h | rfl | h
  · rcases h with rfl | rfl | rfl <;> exact rreads_2 _ _ _ _ _ _ _ _ _ _ _ _ _ _ (by decide) (by decide) (by decide)
  · rcases h with rfl | rfl | rfl | rfl | rfl | rfl | rfl | rfl | rfl <;> exact rreads_1 _ _ _ _ _ _ _ _ _ _ _ _ _ _ (by decide) (by decide) (by decide)
  · exact rreads_15 _ _ _ _ _ _ _ _ _ _ _ _ _ _ hv hl
  · rw [rds_no h]
    exact rreads_0 _ _ _ _ _ _ _ _ _ _ _ _ _ _ (no12 h) (no3 h) h.h15
end Go.Proofs.Ytplpjckkocccfaa
