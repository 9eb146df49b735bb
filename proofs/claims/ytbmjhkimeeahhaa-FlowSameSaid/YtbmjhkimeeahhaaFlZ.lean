/- Loops, by the program. Condition: fewer than a million instructions. -/
import Derived.Test.YtbmjhkimeeahhaaFlY
namespace Go.Proofs.Ytbmjhkimeeahhaa
open Go.RowKit Go.Maps Go.Shelf
set_option linter.unusedVariables false
set_option linter.unusedSimpArgs false
attribute [local go_sem] Oper.semAt_some
theorem Kids.permL {nx : Nat → List Nat} : ∀ {es m l s m'}, Kids nx es m l s m' → l.Perm s := by
  intro es m l s m' h
  induction h with
  | nil m => exact .refl _
  | skip h hk ih => exact ih
  | go h h1 h2 ih1 ih2 => exact List.perm_middle.trans ((ih1.append ih2).cons _)
theorem OrderIs.facts {x : CoD} {O : List Nat} (h : OrderIs x O) : O.Nodup ∧ (∀ k ∈ O, k < x.ins.length) ∧ O.length ≤ x.ins.length := by
  rcases h with ⟨-, rfl⟩ | ⟨h0, l, s, hw, rfl⟩
  · exact ⟨List.nodup_nil, fun k hk => (by cases hk), by simp⟩
  · have h1 := hw.lt h0
    have h2 := hw.len h0
    obtain ⟨m, hK⟩ := hw
    have hnd : l.Nodup := by
      have hp : l.Perm s := hK.permL
      exact hp.nodup_iff.2 hK.fresh.2
    exact ⟨(List.reverse_perm l).nodup_iff.2 hnd, fun k hk => h1 k ((hK.perm k).1 (List.mem_reverse.1 hk)), by simp; omega⟩
/-- What holds of memory while places are written down. -/
structure LS (w : World) (cv : Array Value) (base : Nat) (vo : Value) (O : List Nat) (W : World) (j : Nat) : Prop where
  bel : Below w.heap.size w W
  c : W.heap[w.heap.size]? = some (.cells cv 30 (0, 0))
  mb : W.heap[w.heap.size + 1 + 1]? = some (.cells #[.map (some (w.heap.size + 1))] 69 (0, 0))
  mp : OwnPl W (w.heap.size + 1) O j
  lo : w.heap.size + 3 ≤ base
  od : OwnN W base vo O
section
variable {w W W' : World} {cv : Array Value} {base j : Nat} {vo : Value} {O : List Nat}
theorem LS.at (h : LS w cv base vo O W j) (hb : Below w.heap.size W W') (hk : ∀ k, k < W.heap.size → W'.heap[k]? = W.heap[k]?) : LS w cv base vo O W' j := by
  have hm := h.mp.lt
  refine ⟨h.bel.trans hb, (hk _ (Array.getElem?_eq_some_iff.1 h.c).1).trans h.c, (hk _ (Array.getElem?_eq_some_iff.1 h.mb).1).trans h.mb, ?_, h.lo, row_at h.od (fun g q => hk g (row_lt h.od q).2)⟩
  exact h.mp.kept (row := some W'.heap.size) ⟨hb.os, hb.tape, hb.output, hb.size, fun k hl _ => hk k hl⟩ (fun e => by injection e with e; have := hb.size; omega)
theorem LS.later (h : LS w cv base vo O W j) (hb : Below W.heap.size W W') : LS w cv base vo O W' j := h.at (hb.mono h.bel.size) hb.block
theorem LS.put {k : Nat} (h : LS w cv base vo O W j) (hk : O[j]? = some k) (hown : W'.ownsMap Try.prog 3 (plainElem (H := Unit) Try.prog 3) (w.heap.size + 1) (j + 1) ((mapO O j).put (.int .i64 (k : Int)) (.lit (.int .i64 (j : Int))))) (hg : W.grownBy W' (some (w.heap.size + 1))) : LS w cv base vo O W' (j + 1) := by
  have hr : ∀ k, k < W.heap.size → k ≠ w.heap.size + 1 → W'.heap[k]? = W.heap[k]? := fun k hl hn => hg.block k hl (fun e => by injection e with e; exact hn e)
  have hlo := h.lo
  exact ⟨h.bel.grown hg h.bel.size (fun k e => by cases e; omega), (hr _ (Array.getElem?_eq_some_iff.1 h.c).1 (by omega)).trans h.c, (hr _ (Array.getElem?_eq_some_iff.1 h.mb).1 (by omega)).trans h.mb, by unfold OwnPl; rw [mapO_succ hk]; exact hown, h.lo, row_at h.od (fun g q => hr g (row_lt h.od q).2 (by have := (row_lt h.od q).1; omega))⟩
end
theorem LS.start (w : World) (cv : Array Value) (O : List Nat) (W2 : World) (vo : Value) (hb : Below (((w.alloc (.cells cv 30)).alloc (.map #[] 0)).alloc (.cells #[.map (some (w.heap.size + 1))] 69)).heap.size (((w.alloc (.cells cv 30)).alloc (.map #[] 0)).alloc (.cells #[.map (some (w.heap.size + 1))] 69)) W2)
    (ho : OwnN W2 (((w.alloc (.cells cv 30)).alloc (.map #[] 0)).alloc (.cells #[.map (some (w.heap.size + 1))] 69)).heap.size vo O) : LS w cv (w.heap.size + 3) vo O W2 0 := by
  obtain ⟨W1, hW1⟩ : ∃ W1, ((w.alloc (.cells cv 30)).alloc (.map #[] 0)).alloc (.cells #[.map (some (w.heap.size + 1))] 69) = W1 := ⟨_, rfl⟩
  have hsz : W1.heap.size = w.heap.size + 3 := by rw [← hW1]; simp
  have h1 : W1.heap[w.heap.size]? = some (.cells cv 30 (0, 0)) := by
    rw [← hW1]
    exact (Below.heap_alloc _ _ _ (by simp; omega)).trans ((Below.heap_alloc _ _ _ (by simp)).trans (heap_alloc_new w _))
  have h2 : W1.heap[w.heap.size + 1 + 1]? = some (.cells #[.map (some (w.heap.size + 1))] 69 (0, 0)) := by
    rw [← hW1]
    have := heap_alloc_new ((w.alloc (.cells cv 30)).alloc (.map #[] 0)) (.cells #[.map (some (w.heap.size + 1))] 69)
    rwa [World.size_alloc, World.size_alloc] at this
  have h3 : OwnPl W1 (w.heap.size + 1) O 0 := by
    rw [← hW1]
    have := World.ownsMap_made (w.alloc (.cells cv 30)) Try.prog 3 (plainElem (H := Unit) Try.prog 3)
    rw [World.size_alloc] at this
    exact this.alloc _
  have h4 : Below w.heap.size w W1 := by rw [← hW1]; exact below3a _ _ _ _
  rw [hW1] at hb ho
  rw [hsz] at ho
  refine ⟨h4.trans (hb.mono (by omega)), (hb.block _ (by omega)).trans h1, (hb.block _ (by omega)).trans h2, ?_, Nat.le_refl _, ho⟩
  exact h3.kept (row := some W2.heap.size) ⟨hb.os, hb.tape, hb.output, hb.size, fun k hl _ => hb.block k hl⟩ (fun e => by injection e with e; have := hb.size; omega)
theorem LS.at2 {w W W' : World} {cv : Array Value} {base j H : Nat} {vo : Value} {O : List Nat} (h : LS w cv base vo O W j) (hb : Below w.heap.size w W → Below w.heap.size W W') (hk : ∀ k, k < W.heap.size → k ≠ H → W'.heap[k]? = W.heap[k]?) (hH : w.heap.size + 3 ≤ H) (hv : vo.ownBlock ≠ some H) : LS w cv base vo O W' j := by
  have hb := hb h.bel
  refine ⟨h.bel.trans hb, (hk _ (Array.getElem?_eq_some_iff.1 h.c).1 (by omega)).trans h.c, (hk _ (Array.getElem?_eq_some_iff.1 h.mb).1 (by omega)).trans h.mb, ?_, h.lo, row_at h.od (fun g q => hk g (row_lt h.od q).2 (fun e => hv (e ▸ q)))⟩
  exact h.mp.kept (row := some H) ⟨hb.os, hb.tape, hb.output, hb.size, fun k hl hn => hk k hl (fun e => hn (by rw [e]))⟩ (fun e => by injection e with e; omega)
theorem LS.low {w A B : World} {cv : Array Value} {base j N : Nat} {vo : Value} {O : List Nat} (h : LS w cv base vo O A j) (hb : Below N A B) (hN : w.heap.size + 3 ≤ N) (hv : ∀ g, vo.ownBlock = some g → g < N) : LS w cv base vo O B j := by
  refine ⟨h.bel.trans (hb.mono (by omega)), (hb.block _ (by omega)).trans h.c, (hb.block _ (by omega)).trans h.mb, ?_, h.lo, row_at h.od (fun g q => hb.block g (hv g q))⟩
  obtain ⟨es, clock, h1, h2⟩ := h.mp
  exact ⟨es, clock, (hb.block _ (by omega)).trans h1, h2⟩
theorem ownN_cell {W : World} {base m c j y : Nat} {A : Option Addr} {L : List Nat} (h : OwnN W base (.slice A m c) L) (hy : L[j]? = some y) : ∃ b, A = some ⟨b, 0, none⟩ ∧ b < W.heap.size ∧ base ≤ b ∧ W.cell? ⟨b, j, none⟩ = some (.int .i64 (y : Int)) := by
  obtain ⟨g, cap, e, h1, h2, h3⟩ := row_cell h (fun e => by have := (List.getElem?_eq_some_iff.1 hy).1; omega)
  cases e
  exact ⟨g, rfl, h1, h2, h3 j _ (nat_get hy)⟩
/-- What holds between two edges. -/
structure LI (w : World) (cv : Array Value) (n H bx : Nat) (vo : Value) (O : List Nat) (pre : List (Int × Int)) (W : World) : Prop where
  bl : BlM W H n (headM O n pre)
  ls : LS w cv (w.heap.size + 3) vo O W O.length
  bx : W.heap[bx]? = some (.cells #[.slice (some ⟨H, 0, none⟩) n n] 34 (0, 0))
section
variable {w W W' : World} {cv : Array Value} {n H bx : Nat} {vo : Value} {O : List Nat} {pre pre' : List (Int × Int)}
theorem LI.at (h : LI w cv n H bx vo O pre W) (hb : Below w.heap.size W W') (hk : ∀ k, k < W.heap.size → W'.heap[k]? = W.heap[k]?) : LI w cv n H bx vo O pre W' :=
  ⟨h.bl.at (hk _ h.bl.lt), h.ls.at hb hk, (hk _ (Array.getElem?_eq_some_iff.1 h.bx).1).trans h.bx⟩
theorem LI.hit {k : Nat} (h : LI w cv n H bx vo O pre W) (hH : w.heap.size + 3 ≤ H) (hx : bx ≠ H) (he : headM O n pre' = mark (headM O n pre) k) : LI w cv n H bx vo O pre' (W.setCell ⟨H, k, none⟩ (.bool true)) := by
  have hne : ∀ i, i ≠ H → (W.setCell ⟨H, k, none⟩ (.bool true)).heap[i]? = W.heap[i]? := fun i hi => Below.heap_setCell _ _ _ _ hi
  exact ⟨by rw [he]; exact h.bl.set k, h.ls.at2 (fun _ => (Below.refl _ _).setCell (p := ⟨H, k, none⟩) (by show w.heap.size ≤ H; omega) _) (fun i _ hi => hne i hi) hH (h.bl.not h.ls.od (by decide)), (hne bx hx).trans h.bx⟩
end
theorem LI.same {w W : World} {cv : Array Value} {n H bx : Nat} {vo : Value} {O : List Nat} {pre pre' : List (Int × Int)} (h : LI w cv n H bx vo O pre W) (he : headM O n pre' = headM O n pre) : LI w cv n H bx vo O pre' W := ⟨by rw [he]; exact h.bl, h.ls, h.bx⟩
def onlyF (H : Nat) (_ : World) (k : Nat) : Prop := k = H
theorem cals_below {H : Nat} {A B : World} (h : Below A.heap.size A B) : CalS (onlyF H) A B := ⟨h.os, h.tape, h.output, h.size, fun k hk _ => h.block k hk, fun k hk => .inl hk⟩
theorem cals_set {H k : Nat} {A : World} {v : Value} : CalS (onlyF H) A (A.setCell ⟨H, k, none⟩ v) := ⟨rfl, rfl, rfl, by simp [World.setCell], fun i hi hf => Below.heap_setCell _ _ _ _ (fun e => hf e), fun k hk => .inl hk⟩
theorem CalS.trans' {H : Nat} {A B C : World} (h : CalS (onlyF H) A B) (k : CalS (onlyF H) B C) : CalS (onlyF H) A C :=
  ⟨k.os.trans h.os, k.tape.trans h.tape, k.output.trans h.output, Nat.le_trans h.size k.size, fun i hi hf => (k.block i (Nat.lt_of_lt_of_le hi h.size) hf).trans (h.block i hi hf), fun k hk => .inl hk⟩
set_option maxRecDepth 100000 in
set_option maxHeartbeats 8000000 in
theorem loops_f (x : CoD) (va fa ia : Option Addr) (vc fc ic : Nat) (w0 w : World) (O : List Nat) (hs : x.ins.length < 1000000) (hC : RowM 13 InAt w0 ia x.ins) (hold : Below w0.heap.size w0 w) (hO : OrderIs x O) :
    Calls Try.prog 20 #[.agg (CoV x va vc fa fc ia ic)] w (ListPost w (loopsL x O)) := by
  obtain ⟨i0t, hti, hz0, hz1, hz2⟩ := info_parts info4
  obtain ⟨i3t, hti3, hz03, hz13, hz23⟩ := info_parts info3
  have hmm := @run_makeMap Try.prog
  have HOF := hid hO.facts
  have hB1 := below3a w (.cells (CoV x va vc fa fc ia ic) 30) (.map #[] 0) (.cells #[.map (some (w.heap.size + 1))] 69)
  have hx := box3a w (CoV x va vc fa fc ia ic) 30 (.map #[] 0) (.cells #[.map (some (w.heap.size + 1))] 69)
  have hx0 := cells_at hx
  have hx1 := cells_at (heap_alloc_new w (.cells (CoV x va vc fa fc ia ic) 30))
  have HOD := hid (fun W hb => order_f x va fa ia vc fc ic w0 W O hs hC hb hO)
  have HO1 := hid (hold.trans (hB1.mono hold.size))
  have HST := hid (fun W2 vo hb ho => LS.start w (CoV x va vc fa fc ia ic) O W2 vo hb ho)
  have HC := hid hC
  have HS := hid hs
  have HOO := hid hold
  clear hx hB1 hs hC hold hO
  refine (callsIn_wide (n := 10)).1 ?_
  refine callsIn_of_wp_marks Try.func20 rfl trivial ?_ rfl
  simp only [Try.ntmps20, List.size_toArray, List.length_cons, List.length_nil, Nat.reduceAdd, Nat.reduceSub, Array.replicate_succ, Array.replicate_zero, List.push_toArray, List.append_toArray, List.nil_append, List.cons_append]
  refine wpIn_wide.2 ?_
  go_wp2_with (go_at_call 18; go_must (refine (HOD.out _ HO1.out).mono ?_); rintro e w2 ⟨vo, rfl, ho2, hb2⟩; have HL0 := hid (HST.out _ _ hb2.out ho2.out); obtain ⟨Ao, co, rfl⟩ := own_slice ho2.out; clear ho2 hb2)
  obtain ⟨q, hq⟩ : ∃ q, O.length = q := ⟨_, rfl⟩
  have HQ := hid hq
  have hqn : q < 1000000 := by have := HOF.out.2.2; have := HS.out; omega
  rw [hq] at HL0 ⊢
  clear hq hx0 hx1 hmm HOD HO1 HST
  go_loopg [18] q (fun gk p wr => ∃ j : Nat, j ≤ q ∧ gk = q - j ∧ p = .int .i64 j ∧ Hid (LS w (CoV x va vc fa fc ia ic) (w.heap.size + 3) (.slice Ao q co) O wr j))
  case atStart => exact ⟨0, by omega, by omega, rfl, HL0⟩
  case round =>
    clear HL0
    obtain ⟨j, hj, rfl, rfl, HL⟩ := hrel
    have hcm := cells_at HL.out.mb
    by_cases hjq : j < q
    · have hjq' : (j : Int) < (q : Int) := by omega
      have j0 : (0 : Int) ≤ (j : Int) := by omega
      obtain ⟨k, hk⟩ := get_some HQ.out hjq
      have hkn := HOF.out.2.1 k (List.mem_of_getElem? hk)
      obtain ⟨bo, rfl, hbo, -, hcj⟩ := ownN_cell HL.out.od hk
      have HK := hid hk
      have hj6 : j < 1000000 := by omega
      have hk6 : k < 1000000 := by have := HS.out; omega
      have hwfj := hid (int_wf (k := (j : Int)) (by omega) (by omega))
      have hwfk := hid (int_wf (k := (k : Int)) (by omega) (by omega))
      clear hk hbo
      go_wp2_with (at_mapUpdate; go_must (refine wpList_mapUpdate_own _ rfl _ _ _ 69 rfl 3 3 (int_keyed Try.underlying3) Try.underlying69 _ (w.heap.size + 1) j (mapO O j) rfl HL.out.mp (by unfold maxLen; omega) _ _ _ rfl rfl (keyOf_int_mk Try.underlying3 hwfk.out) _ [] (plainElem_int Try.underlying3 hwfj.out) ?_); intro w3 hown3 hgrow3; have HL3 := hid (HL.out.put HK.out hown3 hgrow3); clear hown3 hgrow3)
      go_roundg (q - (j + 1))
      case measure => omega
      case rel => exact ⟨j + 1, by omega, rfl, rfl, HL3⟩
    · have hjq' : ¬ (j : Int) < (q : Int) := by omega
      obtain rfl : j = q := by omega
      have hb2 : i0t.bytes * x.ins.length ≤ 281474976710656 := by rw [hz2]; have := HS.out; omega
      have hb3 : x.ins.length ≤ maxLen := by have := HS.out; unfold maxLen; omega
      have HM := hid hb2
      have HM3 := hid hb3
      have hxc := cells_at HL.out.c
      clear hb2 hb3
      go_wp2_with (first
        | (at_make; refine wpList_make_full _ rfl _ _ 34 rfl wr.heap.size 4 i0t (.bool false) 1 Try.underlying34 hti hz0 hz1 .i64 .i64 (x.ins.length : Int) (x.ins.length : Int) x.ins.length rfl rfl rfl rfl HM.out HM3.out (Nat.le_refl _) ?_; intro w3 hown hgrow
           have HB3 := hid ((Below.refl _ _).grown hgrow (Nat.le_refl _) (by rintro k e; cases e))
           have HBL := hid (BlM.made hown)
           have hxc3 := cells_at (lay (after HB3.out (below1 w3 (.cells #[.slice (some ⟨wr.heap.size, 0, none⟩) x.ins.length x.ins.length] 34)) HB3.out.size) HL.out.c)
           clear hown hgrow)
        | (go_at_call 25; refine (edges_f _ rfl _).mono ?_; rintro e w4 ⟨rfl, rfl⟩))
      have hblt := HBL.out.lt
      have hbw := after HB3.out (below2 w3 (.cells #[.slice (some ⟨wr.heap.size, 0, none⟩) x.ins.length x.ins.length] 34) (.cells (CoV x va vc fa fc ia ic) 30)) HB3.out.size
      have hbx := boxes' w3 #[.slice (some ⟨wr.heap.size, 0, none⟩) x.ins.length x.ins.length] 34 (CoV x va vc fa fc ia ic) 30
      have hbl := HBL.out.later (below2 w3 (.cells #[.slice (some ⟨wr.heap.size, 0, none⟩) x.ins.length x.ins.length] 34) (.cells (CoV x va vc fa fc ia ic) 30))
      have hL3 := HL.out.later hbw
      have hsz : ((w3.alloc (.cells #[.slice (some ⟨wr.heap.size, 0, none⟩) x.ins.length x.ins.length] 34)).alloc (.cells (CoV x va vc fa fc ia ic) 30)).heap.size = w3.heap.size + 2 := by simp
      obtain ⟨W0, hW0⟩ : ∃ W0, (w3.alloc (.cells #[.slice (some ⟨wr.heap.size, 0, none⟩) x.ins.length x.ins.length] 34)).alloc (.cells #[.string x.nm, .int .i64 x.pr, .slice va x.vs.length vc, .bool x.rt.t.p, .string x.rt.t.name, .int .i64 x.rt.cls, .slice fa x.fr.length fc, .slice ia x.ins.length ic] 30) = W0 := ⟨_, rfl⟩
      rw [hW0] at hbx hbl hL3 hsz ⊢
      have hH : w.heap.size + 3 ≤ wr.heap.size := by
        have h1 := HL.out.mp.lt
        have h2 := (Array.getElem?_eq_some_iff.1 HL.out.mb).1
        omega
      obtain ⟨H, hHe⟩ : ∃ H, wr.heap.size = H := ⟨_, rfl⟩
      obtain ⟨q3, hq3⟩ : ∃ q3, w3.heap.size = q3 := ⟨_, rfl⟩
      rw [hHe] at hbx hbl hH hblt ⊢
      rw [hq3] at hbx hsz hblt ⊢
      have HI0 : Hid (LI w (CoV x va vc fa fc ia ic) x.ins.length H q3 (.slice Ao j co) O [] W0) := hid ⟨by rw [headM_nil]; exact hbl, by rw [HQ.out]; exact hL3, hbx.1⟩
      have HVL : Hid (∀ g, (Value.slice Ao j co).ownBlock = some g → g < W0.heap.size) := hid (fun g q => (row_lt hL3.od q).2)
      have HSZ := hid hsz
      have hO0 : Below w0.heap.size w0 W0 := HOO.out.trans (hL3.bel.mono HOO.out.size)
      have hseq := edges_s 9 (by decide) x va fa ia vc fc ic w0 W0 (q3 + 1) HS.out HC.out hO0 hbx.2
      have HTH : Hid (∀ (k : Int) (r : Bool) (W : World), inN x.ins.length k = r → Calls Try.prog 26 #[.agg #[.string x.nm, .int .i64 x.pr, .slice va x.vs.length vc, .bool x.rt.t.p, .string x.rt.t.name, .int .i64 x.rt.cls, .slice fa x.fr.length fc, .slice ia x.ins.length ic], .int .i64 k] W fun e w' => e = .returned (.bool r) ∧ Hid (Below W.heap.size W w')) :=
        hid (fun k r W hr => there_f x va fa ia vc fc ic k r W hr)
      have hw0s : w0.heap.size ≤ w.heap.size := HOO.out.size
      clear hW0 hHe hq3 hbx hbl hL3 hbw hO0 hsz HM HM3 HBL HB3 hcm hxc hxc3
      refine (wpIn_wide (n := 10)).1 ?_
      refine range_fp 10 (by decide) (gf := 36) (lb := #[.pointer (some ⟨q3 + 1, 0, none⟩)]) rfl (enters_of Try.func36 (by kernel_rfl) rfl) hseq (by have := HSZ.out; intro k hk; rcases hk with hk | rfl <;> omega) (fun _ => rfl)
        (onlyF H) (LI w (CoV x va vc fa fc ia ic) x.ins.length H q3 (.slice Ao j co) O) (fun _ _ _ => False)
        (fun pre A B h hb hf => ⟨⟨h.bl.at (hf H h.bl.lt rfl), h.ls.low hb (by have := HSZ.out; omega) (fun g q => HVL.out g q), (hb.block _ (by have := HSZ.out; omega)).trans h.bx⟩, fun k => Iff.rfl⟩)
        (fun pre A k h hf => by cases hf; have := h.bl.lt; have := HSZ.out; exact ⟨h.bl.lt, (fun hq => by rcases hq with hq | hq <;> omega), by omega, by omega⟩)
        (fun _ _ _ _ h _ => h) HI0.out
        (fun p => { tmps := #[Value.agg (CoV x va vc fa fc ia ic), Value.pointer (some ⟨w.heap.size, 0, none⟩), Value.slice none 0 0, Value.pointer (some ⟨w.heap.size + 1 + 1, 0, none⟩), u4, u5, Value.pointer (some ⟨q3, 0, none⟩), Value.int .i64 p.1, Value.int .i64 p.2, undef, undef, undef, undef, undef, Value.map (some (w.heap.size + 1)), Value.agg #[.string x.nm, .int .i64 x.pr, .slice va x.vs.length vc, .bool x.rt.t.p, .string x.rt.t.name, .int .i64 x.rt.cls, .slice fa x.fr.length fc, .slice ia x.ins.length ic], Value.slice Ao j co, Value.int .i64 (j : Int), Value.int .i64 (j : Int), Value.bool false, u20, u21, u22, u23, u24, u25, u26, Value.pointer (some ⟨w.heap.size, 7, none⟩), Value.slice ia x.ins.length ic, Value.int .i64 (x.ins.length : Int), Value.slice (some ⟨H, 0, none⟩) x.ins.length x.ins.length, Value.agg #[.string x.nm, .int .i64 x.pr, .slice va x.vs.length vc, .bool x.rt.t.p, .string x.rt.t.name, .int .i64 x.rt.cls, .slice fa x.fr.length fc, .slice ia x.ins.length ic], Value.func (.func 36) #[] #[.pointer (some ⟨q3 + 1, 0, none⟩)], Value.int .i64 p.1, Value.int .i64 p.2, undef, undef, undef, undef, undef, undef, undef, undef, undef, undef, undef, undef, undef, undef, undef, undef, undef, undef, undef, undef, undef, undef, undef, undef, undef, undef, undef, undef, undef, undef, undef, undef, undef, undef, undef, undef], defers := [] })
        ?assign ?body ?done ?stop
      case assign =>
        intro l p W K hK
        gi_wp2
        exact hK
      case body =>
        rintro lr pre ⟨a, b⟩ W hpre hsz hI
        obtain ⟨i, r, hi, hr, ha, hbn⟩ := eds_first (Nat.le_refl _) (hpre.subset (List.mem_append_right _ (List.mem_singleton.2 rfl)))
        simp only at ha hbn
        subst ha
        have hi6 : (i : Int) < 1000000 := by have := HS.out; omega
        have i0 : (0 : Int) ≤ (i : Int) := by omega
        have hcm := cells_at hI.ls.mb
        have hcc := cells_at hI.ls.c
        have hl1 := look1 hI.ls.mp i0 hi6
        have HI := hid hI
        clear hI hr hbn hpre
        cases hra : O.any (fun k => decide ((k : Int) = (i : Int)))
        case false =>
          have HR := hid hra
          rw [hra] at hl1
          clear hra
          gi_wp2
          refine ⟨trivial, ?_⟩
          gi_wp2
          exact ⟨cals_below (Below.refl _ _), ⟨by rw [headM_no (by simp [hitO, HR.out])]; exact HI.out.bl, HI.out.ls, HI.out.bx⟩⟩
        case true =>
          have HR := hid hra
          rw [hra] at hl1
          clear hra
          cases hrb : inN x.ins.length b
          case false =>
            have HB := hid hrb
            clear hrb
            gi_wp2_with (refine ⟨trivial, ?_⟩; gi_at_call 26; refine (CallsIn.inRound lr (callsIn_wide.2 (HTH.out b false _ HB.out))).mono ?_; rintro e w2 ⟨rfl, hb⟩; have HW2 := hid hb.out; clear hb)
            exact ⟨cals_below HW2.out, (HI.out.at (HW2.out.mono HI.out.ls.bel.size) HW2.out.block).same (headM_no (by simp [hitO, HB.out]))⟩
          case true =>
            obtain ⟨kb, rfl⟩ : ∃ kb : Nat, b = (kb : Int) := ⟨b.toNat, by simp [inN] at hrb; omega⟩
            have hkb : kb < x.ins.length := by simp [inN] at hrb; omega
            have hkb6 : (kb : Int) < 1000000 := by have := HS.out; omega
            have kb0 : (0 : Int) ≤ (kb : Int) := by omega
            have kb1 : (kb : Int) < (x.ins.length : Int) := by omega
            have HB := hid hrb
            clear hrb
            obtain ⟨pa, hpa⟩ : ∃ pa, plO O (i : Int) = pa := ⟨_, rfl⟩
            obtain ⟨pb, hpb⟩ : ∃ pb, plO O (kb : Int) = pb := ⟨_, rfl⟩
            rw [hpa] at hl1
            have HPA := hid hpa
            have HPB := hid hpb
            clear hpa hpb
            by_cases hle : pb ≤ pa
            · have HH := hid (headM_yes (l := pre) (show hitO O x.ins.length ((i : Int), (kb : Int)) = true by simp only [hitO, HR.out, HB.out, Bool.true_and, decide_eq_true_eq]; rw [HPA.out, HPB.out]; exact hle))
              gi_wp2_with (refine ⟨trivial, ?_⟩; gi_at_call 26; refine (CallsIn.inRound lr (callsIn_wide.2 (HTH.out (kb : Int) true _ HB.out))).mono ?_; rintro e w2 ⟨rfl, hb⟩; have HW2 := hid hb.out; have HI2 := hid (HI.out.at (hb.out.mono HI.out.ls.bel.size) hb.out.block); have hcm2 := cells_at HI2.out.ls.mb; have hl2 := look2 HI2.out.ls.mp kb0 hkb6; rw [HPB.out] at hl2; have hcx := cells_at HI2.out.bx; obtain ⟨hv, hch⟩ : ∃ hv, w2.cell? ⟨H, kb, none⟩ = some (.bool hv) := ⟨_, HI2.out.bl.cell hkb⟩; have hcf := HI2.out.bl.soft kb; clear hb)
              exact ⟨(cals_below HW2.out).trans' cals_set, HI2.out.hit hH (by have := hblt; omega) HH.out⟩
            · have HH := hid (headM_no (l := pre) (show hitO O x.ins.length ((i : Int), (kb : Int)) = false by simp only [hitO, HR.out, HB.out, Bool.true_and, decide_eq_false_iff_not]; rw [HPA.out, HPB.out]; exact hle))
              have hd2 : decide (pb ≤ pa) = false := by simpa using hle
              have HLE := hid hle
              clear hle
              gi_wp2_with (refine ⟨trivial, ?_⟩; gi_at_call 26; refine (CallsIn.inRound lr (callsIn_wide.2 (HTH.out (kb : Int) true _ HB.out))).mono ?_; rintro e w2 ⟨rfl, hb⟩; have HW2 := hid hb.out; have HI2 := hid (HI.out.at (hb.out.mono HI.out.ls.bel.size) hb.out.block); have hcm2 := cells_at HI2.out.ls.mb; have hl2 := look2 HI2.out.ls.mp kb0 hkb6; rw [HPB.out] at hl2; clear hb)
              exact ⟨cals_below HW2.out, HI2.out.same HH.out⟩
      case done =>
        rintro W hI hK
        have hcx := cells_at hI.bx
        have HI := hid hI
        have HK := hid hK
        clear hI hK
        have HW0 := hid (Below.refl W.heap.size W)
        obtain ⟨mm, hmm⟩ : ∃ mm, headM O x.ins.length (eds x.ins x.ins.length) = mm := ⟨_, rfl⟩
        have hbl := HI.out.bl
        rw [hmm] at hbl
        have HBL := hid hbl
        have HMMe := hid hmm
        have HR0 : Hid (W.ownsRow W.heap.size 3 1 (.slice none 0 0) ((List.range 0).filter mm).length (natV ((List.range 0).filter mm))) := hid (World.ownsRow_nil _ _ _ _)
        have n9 : (x.ins.length : Int) ≤ 9223372036854775807 := by have := HS.out; omega
        clear hbl hmm
        go_wp2
        go_loopg [11, 59] x.ins.length (fun gk v11 v59 wi => ∃ k : Nat, k ≤ x.ins.length ∧ gk = x.ins.length - k ∧ v59 = .int .i64 k ∧ Hid (Below W.heap.size W wi) ∧ Hid (wi.ownsRow W.heap.size 3 1 v11 ((List.range k).filter mm).length (natV ((List.range k).filter mm))))
        case atStart => exact ⟨0, by omega, by omega, rfl, HW0, HR0⟩
        case round =>
          clear HW0 HR0 hcx
          obtain ⟨k, hk, rfl, rfl, HW, HR⟩ := hrel
          obtain ⟨A1, c1, rfl⟩ := own_slice HR.out
          by_cases hlt : k < x.ins.length
          · have hlt' : (k : Int) < (x.ins.length : Int) := by omega
            have k0 : (0 : Int) ≤ (k : Int) := by omega
            have hch := (HBL.out.later HW.out).cell hlt
            have hlen : ((List.range k).filter mm).length ≤ k := by have := List.length_filter_le mm (List.range k); simpa using this
            have hk6 : k < 1000000 := by have := HS.out; omega
            cases hm : mm k
            case false =>
              have HT : Hid ((List.range (k + 1)).filter mm = (List.range k).filter mm) := hid (by rw [List.range_succ, List.filter_append]; simp [hm])
              rw [hm] at hch
              clear hm
              go_wp2
              go_roundg (x.ins.length - (k + 1))
              case measure => omega
              case rel => exact ⟨k + 1, by omega, rfl, rfl, HW, hid (by rw [HT.out]; exact HR.out)⟩
            case true =>
              have HT : Hid ((List.range (k + 1)).filter mm = (List.range k).filter mm ++ [k]) := hid (by rw [List.range_succ, List.filter_append]; simp [hm])
              rw [hm] at hch
              obtain ⟨cnt, hcnt⟩ : ∃ c, ((List.range k).filter mm).length = c := ⟨_, rfl⟩
              have HCN := hid hcnt
              rw [hcnt] at hlen
              have HR' : Hid (wr.ownsRow W.heap.size 3 1 (.slice A1 cnt c1) cnt (natV ((List.range k).filter mm))) := hid (by have := HR.out; rwa [hcnt] at this)
              clear hm
              rw [hcnt]
              clear hcnt
              go_wp2_with (at_builtin; go_must (refine wpList_append_own_at _ rfl _ _ 27 rfl W.heap.size 3 i3t (.int .i64 0) 1 8 Try.underlying27 hti3 hz03 hz13 hz23 rfl (by decide) _ cnt (natV ((List.range k).filter mm)) rfl (HR'.out.alloc _) ⟨wr.heap.size, 0, none⟩ 1 1 [.int .i64 (k : Int)] rfl rfl (one_at _ _ _ rfl) (by intro u hu; simp at hu; subst hu; rfl) (by unfold maxLen; omega) (by omega) (by have := HW.out.size; simp; omega) ?_); intro v9 w9 hown9 hgrow9 hnil9 hblk9
                           have HO9 : Hid (w9.ownsRow W.heap.size 3 1 v9 ((List.range (k + 1)).filter mm).length (natV ((List.range (k + 1)).filter mm))) := hid (by rw [HT.out, List.length_append, HCN.out, show natV ((List.range k).filter mm ++ [k]) = natV ((List.range k).filter mm) ++ [.int .i64 (k : Int)] by simp [natV]]; exact hown9)
                           have HW9 := hid ((HW.out.alloc HW.out.size _).grown hgrow9 (by have := HW.out.size; simp; omega) (fun g q => (row_lt HR'.out q).1))
                           clear hown9 hgrow9 hnil9 hblk9)
              go_roundg (x.ins.length - (k + 1))
              case measure => omega
              case rel => exact ⟨k + 1, by omega, rfl, rfl, HW9, HO9⟩
          · have hlt' : ¬ (k : Int) < (x.ins.length : Int) := by omega
            have hkn : k = x.ins.length := by omega
            have HF : Hid (OwnN wr W.heap.size (.slice A1 ((List.range k).filter mm).length c1) (loopsL x O)) := hid (by
              unfold loopsL
              rw [HMMe.out, ← hkn]
              exact HR.out)
            have hD : W0.heap.size < W.heap.size := (Array.getElem?_eq_some_iff.1 HK.out).1
            have HKD := hid ((HW.out.block _ hD).trans HK.out)
            clear hkn
            go_wp2
            refine ⟨by simp, .inl ⟨_, _, rfl, run_takeDeferred HKD.out, ?_⟩⟩
            have hws := HI.out.ls.bel.size
            have hw0 := HSZ.out
            refine ⟨_, results_tmp rfl _ _ _, ⟨_, rfl, hid ?_, hid ?_⟩⟩
            · exact row_at (row_low HF.out hws) (fun g q => World.putObj_heap_other (show g ≠ W0.heap.size by have := (row_lt HF.out q).1; omega))
            · exact (HI.out.ls.bel.trans (HW.out.mono hws)).trans (below_put _ (show w.heap.size ≤ W0.heap.size by omega))
      case stop =>
        rintro c pre W _ h _
        exact h.elim
end Go.Proofs.Ytbmjhkimeeahhaa
