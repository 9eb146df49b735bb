/- alive: the chapter's example. No conditions. -/
import Derived.Test.YtbmjhkimeeahhaaFmB
import Derived.Test.YtbmjhkimeeahhaaFlZ
namespace Go.Proofs.Ytbmjhkimeeahhaa
open Go.RowKit Go.Maps
set_option linter.unusedVariables false
set_option linter.unusedSimpArgs false
abbrev exI (op : Int) : InD := ⟨op, 0, 0, 0, 0, 0, 0, 0, 0, 0, ⟨#[]⟩, [], []⟩
abbrev exC : CoD := ⟨⟨#[]⟩, 0, [], ⟨⟨false, ⟨#[]⟩⟩, 0⟩, [], [exI 1, exI 1, exI 18]⟩
abbrev exV : Array Value := InV (exI 1) none 0 none 0 ++ InV (exI 1) none 0 none 0 ++ InV (exI 18) none 0 none 0
theorem ex_nx0 : nxE exC 0 = [1] := by decide
theorem ex_nx1 : nxE exC 1 = [2] := by decide
theorem ex_nx2 : nxE exC 2 = [] := by decide
theorem ex_kids (m : Met) (h0 : m 0 = false) (h1 : m 1 = false) (h2 : m 2 = false) : ∃ m', Kids (nxE exC) [0] m [2, 1, 0] [0, 1, 2] m' := by
  have k2 : Kids (nxE exC) (nxE exC 2) (mark (mark (mark m 0) 1) 2) [] [] (mark (mark (mark m 0) 1) 2) := by rw [ex_nx2]; exact .nil _
  have k1 : Kids (nxE exC) (nxE exC 1) (mark (mark m 0) 1) ([] ++ 2 :: []) (2 :: ([] ++ [])) (mark (mark (mark m 0) 1) 2) := by
    rw [ex_nx1]
    exact .go (by simp [mark, h2]) k2 (.nil _)
  have k0 : Kids (nxE exC) (nxE exC 0) (mark m 0) (([] ++ 2 :: []) ++ 1 :: []) (1 :: ((2 :: ([] ++ [])) ++ [])) (mark (mark (mark m 0) 1) 2) := by
    rw [ex_nx0]
    exact .go (by simp [mark, h1]) k1 (.nil _)
  exact ⟨_, .go h0 k0 (.nil _)⟩
theorem ex_walk : WalkIs exC 0 [2, 1, 0] [0, 1, 2] := ex_kids _ rfl rfl rfl
theorem ex_order : OrderIs exC [0, 1, 2] := .inr ⟨by decide, _, _, ex_walk, rfl⟩
theorem ex_way (k : Nat) (hk : k < 3) : Way (nxE exC) 0 k := by
  obtain ⟨m, h⟩ := ex_walk
  refine (walk_ways h k).1 ?_
  match k, hk with
  | 0, _ => simp
  | 1, _ => simp
  | 2, _ => simp
theorem ex_blocks (m : Met) (hm : ∀ k, k < exC.ins.length → (m k = true ↔ Way (nxE exC) 0 k)) : (blkL m (begK exC m exC.ins.length) exC.ins.length).length = 1 := by
  have h0 : m 0 = true := (hm 0 (by decide)).2 (ex_way 0 (by omega))
  have h1 : m 1 = true := (hm 1 (by decide)).2 (ex_way 1 (by omega))
  have h2 : m 2 = true := (hm 2 (by decide)).2 (ex_way 2 (by omega))
  have b0 : begK exC m 3 0 = true := beg_first _ _ _ (by omega)
  have b1 : begK exC m 3 1 = false := by simp [begK, begR, isJ, toN, nextL]
  have b2 : begK exC m 3 2 = false := by simp [begK, begR, isJ, toN, nextL]
  show (blkL m (begK exC m 3) 3).length = 1
  simp [blkL, h0, h1, h2, b0, b1, b2, setLast]
theorem ex_loops : loopsL exC [0, 1, 2] = [] := by
  have p0 : plO [0, 1, 2] ((0 : Nat) : Int) = (0 : Nat) := plO_at (by decide) rfl
  have p1 : plO [0, 1, 2] ((1 : Nat) : Int) = (1 : Nat) := plO_at (by decide) rfl
  have p2 : plO [0, 1, 2] ((2 : Nat) : Int) = (2 : Nat) := plO_at (by decide) rfl
  have he : eds exC.ins exC.ins.length = [(((0 : Nat) : Int), ((1 : Nat) : Int)), (((1 : Nat) : Int), ((2 : Nat) : Int))] := by decide
  unfold loopsL
  rw [he]
  have hh : headM [0, 1, 2] exC.ins.length [(((0 : Nat) : Int), ((1 : Nat) : Int)), (((1 : Nat) : Int), ((2 : Nat) : Int))] = fun _ => false := by
    funext k
    simp only [headM, List.any_cons, List.any_nil, hitO, p0, p1, p2]
    simp
  rw [hh]
  simp
theorem ex_vars (W : World) : RowM 3 VaAt W none exC.vs := ⟨by simp, fun i y hy => by simp at hy⟩
theorem ex_mem {W : World} {I : Nat} (h : W.heap[I]? = some (.cells exV 58 (0, 0))) : RowM 13 InAt W (some ⟨I, 0, none⟩) exC.ins := by
  refine ⟨by simp, fun i y hy => ⟨I, 0, rfl, (Array.getElem?_eq_some_iff.1 h).1, none, 0, none, 0, fun j v hv => ?_, ⟨⟨by match i, hy with | 0, hy => (simp at hy; subst hy; simp) | 1, hy => (simp at hy; subst hy; simp) | 2, hy => (simp at hy; subst hy; simp), fun a b hab => ?_⟩, ⟨by match i, hy with | 0, hy => (simp at hy; subst hy; simp) | 1, hy => (simp at hy; subst hy; simp) | 2, hy => (simp at hy; subst hy; simp), fun a b hab => ?_⟩⟩⟩⟩
  · rw [cells_at h]
    have hj := (Array.getElem?_eq_some_iff.1 hv).1
    match i, hy with
    | 0, hy =>
      simp at hy
      subst hy
      simp at hj
      rw [show 0 + 0 * 13 + j = j by omega, Array.getElem?_append_left (by simp; omega), Array.getElem?_append_left (by simp; omega)]
      exact hv
    | 1, hy =>
      simp at hy
      subst hy
      simp at hj
      rw [show 0 + 1 * 13 + j = 13 + j by omega, Array.getElem?_append_left (by simp; omega), Array.getElem?_append_right (by simp)]
      simpa using hv
    | 2, hy =>
      simp at hy
      subst hy
      simp at hj
      rw [show 0 + 2 * 13 + j = 26 + j by omega, Array.getElem?_append_right (by simp)]
      simpa using hv
    | i + 3, hy => simp at hy
  · match i, hy with
    | 0, hy => simp at hy; subst hy; simp at hab
    | 1, hy => simp at hy; subst hy; simp at hab
    | 2, hy => simp at hy; subst hy; simp at hab
    | i + 3, hy => simp at hy
  · match i, hy with
    | 0, hy => simp at hy; subst hy; simp at hab
    | 1, hy => simp at hy; subst hy; simp at hab
    | 2, hy => simp at hy; subst hy; simp at hab
    | i + 3, hy => simp at hy
set_option maxRecDepth 100000 in
set_option maxHeartbeats 8000000 in
theorem alive_i (w : World) : Calls Try.prog 8 #[] w fun e w' => e = .returned (.bool true) ∧ Hid (Below w.heap.size w w') := by
  obtain ⟨I, hI⟩ : ∃ I, w.heap.size = I := ⟨_, rfl⟩
  have hX := boxes' w exV 58 (CoV exC none 0 none 0 (some ⟨w.heap.size, 0, none⟩) 3) 30
  have hB := below2 w (.cells exV 58) (.cells (CoV exC none 0 none 0 (some ⟨w.heap.size, 0, none⟩) 3) 30)
  have hC := ex_mem hX.1
  have HOrd := hid (order_f exC none none (some ⟨w.heap.size, 0, none⟩) 0 0 3 _ _ [0, 1, 2] (by decide) hC (Below.refl _ _) ex_order)
  have HBlk := hid (fun W hb => blocks_f exC none none (some ⟨w.heap.size, 0, none⟩) 0 0 3 _ W (by decide) hC hb)
  have HLoo := hid (fun W hb => loops_f exC none none (some ⟨w.heap.size, 0, none⟩) 0 0 3 _ W [0, 1, 2] (by decide) hC hb ex_order)
  have HX := hid hX.2
  have HB := hid hB
  clear hX hB hC hI I
  go_enter Try.func8, Try.ntmps8
  go_wp2_with (first
    | (go_at_call 18; go_must (refine HOrd.out.mono ?_); rintro e w2 ⟨v, rfl, ho, hb⟩; obtain ⟨g, cap, rfl, hg1, hg2, hcell⟩ := row_cell ho.out (by decide); have c0 : w2.cell? ⟨g, 0, none⟩ = some (.int .i64 0) := hcell 0 _ rfl; have c2 : w2.cell? ⟨g, 2, none⟩ = some (.int .i64 2) := hcell 2 _ rfl; have HB2 := hid hb.out; have HX2 := hid (lay hb.out HX.out); have hx2 := cells_at HX2.out; clear ho hb hcell hg1 hg2)
    | (go_at_call 22; go_must (refine (HBlk.out _ HB2.out).mono ?_); rintro e w3 ⟨m, v, rfl, hm, ho, hb⟩; obtain ⟨A3, c3, rfl⟩ : ∃ A c, v = .slice A 1 c := (by have := own_slice ho.out; rwa [ex_blocks m hm.out] at this); have HB3 := hid (after HB2.out hb.out HB2.out.size); have HX3 := hid (lay hb.out HX2.out); have hx3 := cells_at HX3.out; clear ho hb hm)
    | (go_at_call 20; go_must (refine (HLoo.out _ HB3.out).mono ?_); rintro e w4 ⟨v, rfl, ho, hb⟩; obtain ⟨A4, c4, rfl⟩ : ∃ A c, v = .slice A 0 c := (by have := own_slice ho.out; rwa [ex_loops] at this); have HB4 := hid (after HB3.out hb.out HB3.out.size); clear ho hb))
  go_ret
  exact ⟨rfl, hid (after HB.out HB4.out HB.out.size)⟩
end Go.Proofs.Ytbmjhkimeeahhaa
