/- Behind, by the program. Condition: fewer than a million instructions. -/
import Derived.Test.YtbmjhkimeeahhaaFmI
import Derived.Test.YtbmjhkimeeahhaaFmA
namespace Go.Proofs.Ytbmjhkimeeahhaa
open Go.RowKit Go.Maps Go.Shelf
set_option linter.unusedVariables false
set_option linter.unusedSimpArgs false
attribute [local go_sem] Oper.semAt_some
section
variable {P : Program} {md : Region.Mode} {ops : Array Oper} {Q : Exit → Act → World → Prop} {l n : Nat}
theorem rows_round {row : String} {args : Array Value} {w : World} {R : Value → World → Prop} (h : Rows P row args w R) : RowsIn (Fence.wide.inRound l) n P row args w R :=
  fun c cs _ => let ⟨v, w', r, s⟩ := h c cs; ⟨v, w', r, stepsIn_wide.2 s⟩
/-- An operation inside a round, from one outside. -/
theorem op_round {o : Oper} {a : Act} {w : World} {K K' : Act → World → Prop} (hd : ∀ c, o.op ≠ .defer c) (hK : ∀ a w, K a w → K' a w) (h : o.wp P a w K Q) : o.wpIn (Fence.wide.inRound l) n P a w K' Q := by
  unfold Oper.wp at h
  unfold Oper.wpIn
  refine ⟨fun _ _ => trivial, ?_⟩
  rw [show (Fence.wide.inRound l).round = some l from rfl, Oper.semAt_some l _ _ hd]
  generalize (execOp a.eval o).run P w = r at h
  cases r with
  | ok nx w' =>
    cases nx with
    | value v => exact hK _ _ h
    | skip => exact hK _ _ h
    | defer d => exact hK _ _ h
    | enter f args =>
      refine ⟨fun q => (by cases q), CallsIn.inRound l (callsIn_wide.2 (Calls.mono h ?_))⟩
      intro e w'' he
      cases e with
      | returned v => exact hK _ _ he
      | panicked c => exact he
      | outgrown => exact he
    | row row args => exact ⟨fun q => (by cases q), rows_round (Rows.mono h (fun v w' q => hK _ _ q))⟩
    | _ => exact absurd h (by intro q; exact q)
  | halt hh w' =>
    cases hh with
    | panic v => exact h
    | _ => exact absurd h (by intro q; exact q)
theorem any_round (hnd : ∀ (i : Nat) (o : Oper), ops[i]? = some o → ∀ c, o.op ≠ .defer c) (hlo : ¬ LetsOut Q) : ∀ (fuel : Nat) (listed : Array Bool) (a : Act) (w : World), wpAny P md ops Q fuel listed a w → wpAnyIn (Fence.wide.inRound l) n P md ops Q fuel listed a w
  | 0, _, _, _, h => h
  | fuel + 1, listed, a, w, h => by
    refine ⟨h.1, fun i hi => ?_⟩
    have h2 := h.2 i hi
    unfold wpOp at h2
    unfold wpOpIn
    cases ho : ops[i]? with
    | none =>
      rw [ho] at h2
      exact any_round hnd hlo fuel _ _ _ h2
    | some o =>
      rw [ho] at h2
      simp only at h2 ⊢
      split
      · rename_i hw
        rw [if_pos hw] at h2
        rcases h2 with h2 | h2
        · exact op_round (hnd i o ho) (fun a w q => any_round hnd hlo fuel _ a w q) h2
        · exact absurd h2.2 hlo
      · rename_i hw
        rw [if_neg hw] at h2
        exact ⟨fun _ _ => trivial, any_round hnd hlo fuel _ _ _ h2⟩
end
/-- The blocks of the lists. -/
def fpT (T : Nat) (W : World) (k : Nat) : Prop := k = T ∨ ∃ i v, W.cell? ⟨T, i, none⟩ = some v ∧ v.ownBlock = some k
section
variable {w W W' : World} {cv : Array Value} {Cb T Vb base n c : Nat} {vs : Nat → Value} {l : List (Int × Int)} {F : Nat → List Int}
theorem fpT_same (hT : W'.heap[T]? = W.heap[T]?) (k : Nat) : fpT T W' k ↔ fpT T W k := by
  unfold fpT World.cell?
  simp only [hT]
theorem Tab.at_cell (h : Tab W T base n vs F c) {i : Nat} {v : Value} (hc : W.cell? ⟨T, i, none⟩ = some v) : i < n ∧ v = vs i := by
  obtain ⟨cs, h1, h2, h3⟩ := h.blk
  rw [cells_at h1 i] at hc
  have hi : i < n := by
    have := (Array.getElem?_eq_some_iff.1 hc).1
    omega
  rw [h3 i hi] at hc
  injection hc with hc
  exact ⟨hi, hc.symm⟩
theorem Tab.fp_lt (h : Tab W T base n vs F c) {k : Nat} (hk : fpT T W k) : k = T ∨ base ≤ k ∧ k < W.heap.size := by
  rcases hk with rfl | ⟨i, v, hc, hv⟩
  · exact .inl rfl
  · obtain ⟨hi, rfl⟩ := h.at_cell hc
    exact .inr (row_lt (h.row i hi) hv)
/-- What holds between two edges. -/
structure Bh3 (w : World) (cv : Array Value) (Cb T Vb base n : Nat) (vs : Nat → Value) (l : List (Int × Int)) (W : World) : Prop where
  bel : Below w.heap.size w W
  box : W.heap[Cb]? = some (.cells cv 30 (0, 0))
  tab : Tab W T base n vs (behE l) l.length
  lo : w.heap.size ≤ Cb
  lo2 : Cb < T
  cell : W.heap[Vb]? = some (.cells #[.slice (some ⟨T, 0, none⟩) n n] 37 (0, 0))
  vlo : T < Vb
  vhi : Vb < base
theorem Bh3.toS (h : Bh3 w cv Cb T Vb base n vs l W) (hi : base ≤ W.heap.size) : BhS w cv Cb T base n vs l W := ⟨h.bel, h.box, h.tab, hi, h.lo, h.lo2⟩
theorem Bh3.ofS (h : BhS w cv Cb T base n vs l W) (hc : W.heap[Vb]? = some (.cells #[.slice (some ⟨T, 0, none⟩) n n] 37 (0, 0))) (h1 : T < Vb) (h2 : Vb < base) : Bh3 w cv Cb T Vb base n vs l W := ⟨h.bel, h.box, h.tab, h.lo, h.lo2, hc, h1, h2⟩
theorem Bh3.later (h : Bh3 w cv Cb T Vb base n vs l W) (hb : Below W.heap.size W W') : Bh3 w cv Cb T Vb base n vs l W' :=
  ⟨after h.bel hb h.bel.size, lay hb h.box, h.tab.later hb, h.lo, h.lo2, lay hb h.cell, h.vlo, h.vhi⟩
theorem Bh3.keep {S : Nat} (h : Bh3 w cv Cb T Vb base n vs l W) (hS : Vb < S) (hb : Below S W W') (hf : ∀ k, k < W.heap.size → fpT T W k → W'.heap[k]? = W.heap[k]?) : Bh3 w cv Cb T Vb base n vs l W' := by
  have h1 := h.lo
  have h2 := h.lo2
  have h3 := h.vlo
  refine ⟨h.bel.trans (hb.mono (by omega)), (hb.block Cb (by omega)).trans h.box, h.tab.at (hf T h.tab.lt (.inl rfl)) (fun i g hi q => hf g (row_lt (h.tab.row i hi) q).2 (.inr ⟨i, vs i, h.tab.cell hi, q⟩)), h1, h2, (hb.block Vb hS).trans h.cell, h3, h.vhi⟩
/-- An edge that leads nowhere. -/
theorem Bh3.out {a b : Int} (h : Bh3 w cv Cb T Vb base n vs l W) (hb : inN n b = false) : Bh3 w cv Cb T Vb base n vs (l ++ [(a, b)]) W :=
  ⟨h.bel, h.box, tab_as h.tab (fun k hk => (behE_out hb k hk).symm) (by simp), h.lo, h.lo2, h.cell, h.vlo, h.vhi⟩
/-- An edge that leads to k. -/
theorem Bh3.push {k : Nat} {a : Int} {v : Value} (h : Bh3 w cv Cb T Vb base n vs l W) (hi : base ≤ W.heap.size) (hk : k < n)
    (hown : W'.ownsRow base 3 1 v ((behE l k).length + 1) ((behE l k).map (.int .i64) ++ [.int .i64 a])) (hg : W.grownBy W' (vs k).ownBlock) (hv : v.ownBlock = (vs k).ownBlock ∨ v.ownBlock = some W.heap.size) :
    W'.cell? ⟨T, k, none⟩ = some (vs k) ∧ W'.frozen? ⟨T, k, none⟩ = false ∧ W'.cell? ⟨Vb, 0, none⟩ = some (.slice (some ⟨T, 0, none⟩) n n) ∧
      Bh3 w cv Cb T Vb base n (fun j => if j = k then v else vs j) (l ++ [(a, (k : Int))]) (W'.setCell ⟨T, k, none⟩ v) ∧ CalS (fpT T) W (W'.setCell ⟨T, k, none⟩ v) := by
  obtain ⟨p1, p2, p3⟩ := (h.toS hi).push hk hown hg hv
  have hbl : ∀ g, (vs k).ownBlock = some g → base ≤ g := fun g q => (row_lt (h.tab.row k hk) q).1
  have hvl := h.vhi
  have hV : W'.heap[Vb]? = W.heap[Vb]? := hg.block Vb (by omega) (fun e => by have := hbl Vb e.symm; omega)
  refine ⟨p1, p2, by rw [cells_at (hV.trans h.cell)]; rfl, Bh3.ofS p3 ((Below.heap_setCell _ _ _ _ (by have := h.vlo; show Vb ≠ T; omega)).trans (hV.trans h.cell)) h.vlo h.vhi, ?_⟩
  refine ⟨?_, ?_, ?_, ?_, fun j hj hf => ?_, fun j hf => ?_⟩
  · exact hg.os
  · exact hg.tape
  · exact hg.output
  · have := hg.size
    simpa using this
  · rw [Below.heap_setCell _ _ _ _ (show j ≠ T from fun e => hf (.inl e))]
    exact hg.block j hj (fun e => hf (.inr ⟨k, vs k, h.tab.cell hk, e.symm⟩))
  · rcases hf with rfl | ⟨i, u, hc, hu⟩
    · exact .inl (.inl rfl)
    · obtain ⟨hi', rfl⟩ := p3.tab.at_cell hc
      by_cases hik : i = k
      · simp only [hik, if_true] at hu
        rcases hv with e | e
        · exact .inl (.inr ⟨k, vs k, h.tab.cell hk, e ▸ hu⟩)
        · rw [e] at hu
          injection hu with hu
          exact .inr (by omega)
      · simp only [if_neg hik] at hu
        exact .inl (.inr ⟨i, vs i, h.tab.cell hi', hu⟩)
end
theorem cal_below {T : Nat} {A B : World} (h : Below A.heap.size A B) (hT : T < A.heap.size) : CalS (fpT T) A B := ⟨h.os, h.tape, h.output, h.size, fun k hk _ => h.block k hk, fun k hk => .inl ((fpT_same (h.block T hT) k).1 hk)⟩
theorem CalS.trans2 {fp : World → Nat → Prop} {A B C : World} (h : CalS fp A B) (k : CalS fp B C) : CalS fp A C :=
  ⟨k.os.trans h.os, k.tape.trans h.tape, k.output.trans h.output, Nat.le_trans h.size k.size, fun i hi hf => (k.block i (Nat.lt_of_lt_of_le hi h.size) (fun q => (h.fp i q).elim hf (by omega))).trans (h.block i hi hf), fun i q => (k.fp i q).elim (fun q => h.fp i q) (fun q => .inr (Nat.le_trans h.size q))⟩
theorem tab_low {W : World} {T base b2 n c : Nat} {vs : Nat → Value} {F : Nat → List Int} (h : Tab W T base n vs F c) (hb : b2 ≤ base) (hT : T < b2) : Tab W T b2 n vs F c :=
  ⟨h.blk, fun i hi => ⟨(h.row i hi).1, (h.row i hi).2.imp id fun ⟨g, cap, cur, q1, q2, q3⟩ => ⟨g, cap, cur, q1, Nat.le_trans hb q2, q3⟩⟩, h.apart, hT, h.few⟩
set_option maxRecDepth 100000 in
set_option maxHeartbeats 32000000 in
theorem behind_f (x : CoD) (va fa ia : Option Addr) (vc fc ic : Nat) (w0 w : World) (hs : x.ins.length < 1000000) (hC : RowM 13 InAt w0 ia x.ins) (hold : Below w0.heap.size w0 w) :
    Calls Try.prog 13 #[.agg (CoV x va vc fa fc ia ic)] w (BehP x w) := by
  obtain ⟨i3t, hti3, hz03, hz13, hz23⟩ := info_parts info3
  obtain ⟨i7t, hti7, hz07, hz17, hz27⟩ := info_parts info27
  have HB := hid (below1 w (.cells (CoV x va vc fa fc ia ic) 30))
  have HX := hid (heap_alloc_new w (.cells (CoV x va vc fa fc ia ic) 30))
  have hx := fun i => cells_at HX.out i
  have HM : Hid (i7t.bytes * x.ins.length ≤ 281474976710656) := hid (by rw [hz27]; omega)
  have HM3 : Hid (x.ins.length ≤ maxLen) := hid (by unfold maxLen; omega)
  have HS := hid hs
  have HC := hid hC
  have HO := hid hold
  clear hs hC hold
  refine (callsIn_wide (n := 10)).1 ?_
  refine callsIn_of_wp_marks Try.func13 rfl trivial ?_ rfl
  simp only [Try.ntmps13, List.size_toArray, List.length_cons, List.length_nil, Nat.reduceAdd, Nat.reduceSub, Array.replicate_succ, Array.replicate_zero, List.push_toArray, List.append_toArray, List.nil_append, List.cons_append]
  refine wpIn_wide.2 ?_
  go_wp2_with (first
    | (at_make; refine wpList_make_full _ rfl _ _ 37 rfl (w.heap.size + 1) 27 i7t (.slice none 0 0) 1 Try.underlying37 hti7 hz07 hz17 .i64 .i64 (x.ins.length : Int) (x.ins.length : Int) x.ins.length rfl rfl rfl rfl HM.out HM3.out (by simp) ?_; intro w1 hown hgrow
       have HB1 := hid (HB.out.grown hgrow (by simp) (by rintro k e; cases e))
       have HT1 := hid (by have := Tab.made hown; rwa [World.size_alloc] at this : Tab w1 (w.heap.size + 1) (w.heap.size + 1 + 1) x.ins.length (fun _ => .slice none 0 0) (fun _ => []) 0)
       have HX1 := hid ((hgrow.block w.heap.size (by simp) (by simp)).trans HX.out)
       have hx1 := cells_at (lay (below1 w1 (.cells #[.slice (some ⟨w.heap.size + 1, 0, none⟩) x.ins.length x.ins.length] 37)) HX1.out)
       clear hown hgrow hx)
    | (go_at_call 25; refine (edges_f _ rfl _).mono ?_; rintro e w4 ⟨rfl, rfl⟩))
  have hb2 := below2 w1 (.cells #[.slice (some ⟨w.heap.size + 1, 0, none⟩) x.ins.length x.ins.length] 37) (.cells (CoV x va vc fa fc ia ic) 30)
  have hbx := boxes' w1 #[.slice (some ⟨w.heap.size + 1, 0, none⟩) x.ins.length x.ins.length] 37 (CoV x va vc fa fc ia ic) 30
  have hsz : ((w1.alloc (.cells #[.slice (some ⟨w.heap.size + 1, 0, none⟩) x.ins.length x.ins.length] 37)).alloc (.cells (CoV x va vc fa fc ia ic) 30)).heap.size = w1.heap.size + 2 := by simp
  obtain ⟨W0, hW0⟩ : ∃ W0, (w1.alloc (.cells #[.slice (some ⟨w.heap.size + 1, 0, none⟩) x.ins.length x.ins.length] 37)).alloc (.cells #[.string x.nm, .int .i64 x.pr, .slice va x.vs.length vc, .bool x.rt.t.p, .string x.rt.t.name, .int .i64 x.rt.cls, .slice fa x.fr.length fc, .slice ia x.ins.length ic] 30) = W0 := ⟨_, rfl⟩
  rw [hW0] at hb2 hbx hsz ⊢
  have hlt1 := HT1.out.lt
  have HI0 : Hid (Bh3 w (CoV x va vc fa fc ia ic) w.heap.size (w.heap.size + 1) w1.heap.size (W0.heap.size + 2) x.ins.length (fun _ => .slice none 0 0) [] W0) := hid
    ⟨after HB1.out hb2 HB1.out.size, lay hb2 HX1.out, (by
      have h := HT1.out.later hb2
      exact ⟨h.blk, fun i hi => World.ownsRow_nil _ _ _ _, h.apart, by omega, h.few⟩), Nat.le_refl _, Nat.lt_succ_self _, hbx.1, hlt1, by omega⟩
  have hO0 : Below w0.heap.size w0 W0 := HO.out.trans (HI0.out.bel.mono HO.out.size)
  have hseq := edges_s 9 (by decide) x va fa ia vc fc ic w0 W0 (w1.heap.size + 1) HS.out HC.out hO0 hbx.2
  have HTH : Hid (∀ (k : Int) (r : Bool) (W : World), inN x.ins.length k = r → Calls Try.prog 26 #[.agg #[.string x.nm, .int .i64 x.pr, .slice va x.vs.length vc, .bool x.rt.t.p, .string x.rt.t.name, .int .i64 x.rt.cls, .slice fa x.fr.length fc, .slice ia x.ins.length ic], .int .i64 k] W fun e w' => e = .returned (.bool r) ∧ Hid (Below W.heap.size W w')) :=
    hid (fun k r W hr => there_f x va fa ia vc fc ic k r W hr)
  have hw0s : w0.heap.size ≤ w.heap.size := HO.out.size
  obtain ⟨T, hT⟩ : ∃ T, w.heap.size + 1 = T := ⟨_, rfl⟩
  obtain ⟨Cb, hCb⟩ : ∃ Cb, w.heap.size = Cb := ⟨_, rfl⟩
  obtain ⟨Vb, hVb⟩ : ∃ Vb, w1.heap.size = Vb := ⟨_, rfl⟩
  have HTC : Hid (w.heap.size ≤ T ∧ w0.heap.size ≤ T ∧ T < Vb) := hid (by omega)
  have HSZ : Hid (W0.heap.size = Vb + 2) := hid (by omega)
  rw [hT, hCb, hVb] at HI0
  rw [hVb] at hseq
  rw [hT, hCb, hVb]
  clear hT hCb hVb hW0 hb2 hbx hsz hlt1 hO0 HB1 HT1 HX1 HX HB HM HM3 hx1
  refine (wpIn_wide (n := 10)).1 ?_
  refine range_fp 10 (by decide) (gf := 36) (lb := #[.pointer (some ⟨Vb + 1, 0, none⟩)]) rfl (enters_of Try.func36 (by kernel_rfl) rfl) hseq (by have := HSZ.out; have := HTC.out; intro k hk; rcases hk with hk | rfl <;> omega) (fun _ => rfl)
    (fpT T) (fun pre W => ∃ vs, Bh3 w (CoV x va vc fa fc ia ic) Cb T Vb (W0.heap.size + 2) x.ins.length vs pre W) (fun _ _ _ => False)
    (fun pre A B ⟨vs, h⟩ hb hf => ⟨⟨vs, h.keep (by have := HSZ.out; omega) hb hf⟩, fun k => fpT_same (hf T h.tab.lt (.inl rfl)) k⟩)
    (fun pre A k ⟨vs, h⟩ hf => by
      have h1 := HTC.out
      have h2 := HSZ.out
      have h3 := h.tab.lt
      rcases h.tab.fp_lt hf with rfl | ⟨h4, h5⟩
      · exact ⟨h3, (fun hq => by rcases hq with hq | hq <;> omega), by omega, by omega⟩
      · exact ⟨h5, (fun hq => by rcases hq with hq | hq <;> omega), by omega, by omega⟩)
    (fun _ _ _ _ h _ => h) ⟨_, HI0.out⟩
    (fun p => { tmps := #[Value.agg (CoV x va vc fa fc ia ic), Value.pointer (some ⟨Cb, 0, none⟩), Value.slice none 0 0, Value.pointer (some ⟨Vb, 0, none⟩), Value.int .i64 p.1, Value.int .i64 p.2, Value.pointer (some ⟨Cb, 7, none⟩), Value.slice ia x.ins.length ic, Value.int .i64 (x.ins.length : Int), Value.slice (some ⟨T, 0, none⟩) x.ins.length x.ins.length, Value.agg #[.string x.nm, .int .i64 x.pr, .slice va x.vs.length vc, .bool x.rt.t.p, .string x.rt.t.name, .int .i64 x.rt.cls, .slice fa x.fr.length fc, .slice ia x.ins.length ic], Value.func (Fn.func 36) #[] #[Value.pointer (some ⟨Vb + 1, 0, none⟩)], Value.int .i64 p.1, Value.int .i64 p.2, undef, undef, undef, undef, undef, undef, undef, undef, undef, undef, undef, undef, undef, undef], defers := [] })
    ?assign ?body ?done ?stop
  case assign =>
    intro l p W K hK
    gi_wp2
    exact hK
  case body =>
    rintro lr pre ⟨a, b⟩ W hpre hsz ⟨vs, hI⟩
    have hcc := cells_at hI.box
    have HI := hid hI
    have HPR := hid hpre
    clear hI hpre
    cases hrb : inN x.ins.length b
    case false =>
      have HBb := hid hrb
      clear hrb
      gi_wp2_with (refine ⟨trivial, ?_⟩; gi_at_call 26; refine (CallsIn.inRound lr (callsIn_wide.2 (HTH.out b false _ HBb.out))).mono ?_; rintro e w2 ⟨rfl, hb⟩; have HW2 := hid hb.out; clear hb)
      exact ⟨⟨HW2.out.os, HW2.out.tape, HW2.out.output, HW2.out.size, fun k hk _ => HW2.out.block k hk, fun k hk => .inl ((fpT_same (HW2.out.block _ HI.out.tab.lt) k).1 hk)⟩, vs, (HI.out.later HW2.out).out HBb.out⟩
    case true =>
      obtain ⟨k, rfl⟩ : ∃ k : Nat, b = (k : Int) := ⟨b.toNat, by simp [inN] at hrb; omega⟩
      have hk : k < x.ins.length := by simp [inN] at hrb; omega
      have HBb := hid hrb
      clear hrb
      have HK := hid hk
      have HSZ2 := hid hsz
      gi_wp2_with (refine ⟨trivial, ?_⟩; gi_at_call 26; refine (CallsIn.inRound lr (callsIn_wide.2 (HTH.out (k : Int) true _ HBb.out))).mono ?_; rintro e w2 ⟨rfl, hb⟩; have HW2 := hid hb.out; clear hb)
      have HI1 := hid (HI.out.later HW2.out)
      have HI2 := hid ((HI1.out.later (below1 w2 (.cells #[.int .i64 a] 3))).later (below_drew1 _))
      have HB2 : Hid (Below W.heap.size W (w2.alloc (.cells #[.int .i64 a] 3)).drew) := hid (after HW2.out (after (below1 w2 (.cells #[.int .i64 a] 3)) (below_drew1 _) (by simp)) HW2.out.size)
      have HSI2 : Hid (W0.heap.size + 2 ≤ (w2.alloc (.cells #[.int .i64 a] 3)).drew.heap.size) := hid (by have h1 := HW2.out.size; have h2 := HSZ2.out; show W0.heap.size + 2 ≤ (w2.alloc (.cells #[.int .i64 a] 3)).heap.size; simp; omega)
      have HLL : Hid ((behE pre k).length ≤ 2000000) := hid (by
        have h1 := HI.out.tab.few k HK.out
        have h2 := (HPR.out.length_le)
        have h3 := eds_len x.ins x.ins.length
        have := HS.out
        simp at h2
        omega)
      have k0 : (0 : Int) ≤ (k : Int) := by omega
      have k1 : (k : Int) < (x.ins.length : Int) := by have := HK.out; omega
      have n9 : x.ins.length < 1000000 := HS.out
      have c1 : w2.cell? ⟨Vb, 0, none⟩ = some (.slice (some ⟨T, 0, none⟩) x.ins.length x.ins.length) := cells_at HI1.out.cell 0
      have c2 : w2.drew.cell? ⟨Vb, 0, none⟩ = some (.slice (some ⟨T, 0, none⟩) x.ins.length x.ins.length) := c1
      have c3 : (w2.alloc (.cells #[.int .i64 a] 3)).cell? ⟨Vb, 0, none⟩ = some (.slice (some ⟨T, 0, none⟩) x.ins.length x.ins.length) := cells_al _ _ c1
      have c4 : (w2.alloc (.cells #[.int .i64 a] 3)).drew.cell? ⟨Vb, 0, none⟩ = some (.slice (some ⟨T, 0, none⟩) x.ins.length x.ins.length) := c3
      have d1 := HI1.out.tab.cell HK.out
      have d2 : w2.drew.cell? ⟨T, k, none⟩ = some (vs k) := d1
      have d3 : (w2.alloc (.cells #[.int .i64 a] 3)).cell? ⟨T, k, none⟩ = some (vs k) := cells_al _ _ d1
      have d4 : (w2.alloc (.cells #[.int .i64 a] 3)).drew.cell? ⟨T, k, none⟩ = some (vs k) := d3
      refine wpIn_region_any (by kernel_rfl) (any_round ?_ (fun ⟨_, _, h⟩ => h) _ _ _ _ ?_)
      · intro i o ho c hc
        have hi : i < 11 := (Array.getElem?_eq_some_iff.1 ho).1
        match i, hi with
        | 0, _ | 1, _ | 2, _ | 3, _ | 4, _ | 5, _ | 6, _ | 7, _ | 8, _ | 9, _ | 10, _ =>
          simp at ho
          subst ho
          cases hc
      change wpAny _ _ _ _ _ _ _ (World.drew _)
      refine wpAny_take (i := 1) (v := ?_) rfl (by kernel_rfl) (by kernel_rfl) (by kernel_rfl) (fun _ _ _ h => h) (Or.inl ⟨by rfl, ?_⟩) ?_
      rotate_left
      · intro w; go_simp; try with_reducible rfl
      refine wpAny_take (i := 3) (v := ?_) rfl (by kernel_rfl) (by kernel_rfl) (by kernel_rfl) (fun _ _ _ h => h) (Or.inl ⟨by rfl, ?_⟩) ?_
      rotate_left
      · intro w; go_simp; try with_reducible rfl
      refine wpAny_take (i := 6) (v := ?_) rfl (by kernel_rfl) (by kernel_rfl) (by kernel_rfl) (fun _ _ _ h => h) (Or.inl ⟨by rfl, ?_⟩) ?_
      rotate_left
      · intro w; go_simp; try with_reducible rfl
      refine wpAny_ready (rs := [0,2,7]) (by kernel_rfl) (by simp) ?_
      refine AllReady.cons rfl (fun K hK => ?_) ?_
      · skip
        go_simp
        refine hK _ _ ?_
        clear hK K
        refine wpAny_ready (rs := [2,7]) (by kernel_rfl) (by simp) ?_
        refine AllReady.cons rfl (fun K hK => ?_) ?_
        · skip
          go_simp
          refine hK _ _ ?_
          clear hK K
          refine wpAny_take (i := 4) (v := ?_) rfl (by kernel_rfl) (by kernel_rfl) (by kernel_rfl) (fun _ _ _ h => h) (Or.inl ⟨by rfl, ?_⟩) ?_
          rotate_left
          · intro w; go_simp; try with_reducible rfl
          refine wpAny_ready (rs := [5,7]) (by kernel_rfl) (by simp) ?_
          refine AllReady.cons rfl (fun K hK => ?_) ?_
          · skip
            go_simp
            refine hK _ _ ?_
            clear hK K
            refine wpAny_ready (rs := [7]) (by kernel_rfl) (by simp) ?_
            refine AllReady.cons rfl (fun K hK => ?_) ?_
            · skip
              go_simp
              refine hK _ _ ?_
              clear hK K
              refine wpAny_ready (rs := [8]) (by kernel_rfl) (by simp) ?_
              refine AllReady.cons rfl (fun K hK => ?_) ?_
              · skip
                refine step_append_at rfl (.tmp 22) (.tmp 24) 27 rfl (W0.heap.size + 2) 3 i3t (.int .i64 0) 1 8 Try.underlying27 hti3 hz03 hz13 hz23 rfl (by decide) (vs k) (behE pre k).length ((behE pre k).map (.int .i64)) rfl (HI2.out.tab.row k HK.out) _ 1 1 [.int .i64 a] rfl rfl (one_at _ _ _ rfl) (by intro u hu; simp at hu; subst hu; rfl) (by have := HLL.out; unfold maxLen; omega) (by have := HLL.out; omega) (by have := HSI2.out; simpa using this) ?_
                intro v' w4 hown hgrow hblk
                obtain ⟨A4, c4, rfl⟩ := own_slice hown
                have HPU := hid (HI2.out.push (a := a) HSI2.out HK.out hown hgrow hblk)
                have hf1 := HPU.out.1
                have hf2 := HPU.out.2.1
                have hf3 := HPU.out.2.2.1
                clear hown hgrow hblk
                try go_simp
                refine hK _ _ ?_
                clear hK K
                refine wpAny_take (i := 9) (v := ?_) rfl (by kernel_rfl) (by kernel_rfl) (by kernel_rfl) (fun _ _ _ h => h) (Or.inl ⟨by rfl, ?_⟩) ?_
                rotate_left
                · intro w; go_simp; try with_reducible rfl
                refine wpAny_ready (rs := [10]) (by kernel_rfl) (by simp) ?_
                refine AllReady.cons rfl (fun K hK => ?_) ?_
                · skip
                  go_simp
                  refine hK _ _ ?_
                  clear hK K
                  refine wpAny_done (by kernel_rfl) ?_ _
                  exact And.intro ((cal_below HB2.out HI.out.tab.lt).trans2 HPU.out.2.2.2.2) ⟨_, HPU.out.2.2.2.1⟩
                exact AllReady.nil
              exact AllReady.nil
            exact AllReady.nil
          refine AllReady.cons rfl (fun K hK => ?_) ?_
          · skip
            go_simp
            refine hK _ _ ?_
            clear hK K
            refine wpAny_ready (rs := [5]) (by kernel_rfl) (by simp) ?_
            refine AllReady.cons rfl (fun K hK => ?_) ?_
            · skip
              go_simp
              refine hK _ _ ?_
              clear hK K
              refine wpAny_ready (rs := [8]) (by kernel_rfl) (by simp) ?_
              refine AllReady.cons rfl (fun K hK => ?_) ?_
              · skip
                refine step_append_at rfl (.tmp 22) (.tmp 24) 27 rfl (W0.heap.size + 2) 3 i3t (.int .i64 0) 1 8 Try.underlying27 hti3 hz03 hz13 hz23 rfl (by decide) (vs k) (behE pre k).length ((behE pre k).map (.int .i64)) rfl (HI2.out.tab.row k HK.out) _ 1 1 [.int .i64 a] rfl rfl (one_at _ _ _ rfl) (by intro u hu; simp at hu; subst hu; rfl) (by have := HLL.out; unfold maxLen; omega) (by have := HLL.out; omega) (by have := HSI2.out; simpa using this) ?_
                intro v' w4 hown hgrow hblk
                obtain ⟨A4, c4, rfl⟩ := own_slice hown
                have HPU := hid (HI2.out.push (a := a) HSI2.out HK.out hown hgrow hblk)
                have hf1 := HPU.out.1
                have hf2 := HPU.out.2.1
                have hf3 := HPU.out.2.2.1
                clear hown hgrow hblk
                try go_simp
                refine hK _ _ ?_
                clear hK K
                refine wpAny_take (i := 9) (v := ?_) rfl (by kernel_rfl) (by kernel_rfl) (by kernel_rfl) (fun _ _ _ h => h) (Or.inl ⟨by rfl, ?_⟩) ?_
                rotate_left
                · intro w; go_simp; try with_reducible rfl
                refine wpAny_ready (rs := [10]) (by kernel_rfl) (by simp) ?_
                refine AllReady.cons rfl (fun K hK => ?_) ?_
                · skip
                  go_simp
                  refine hK _ _ ?_
                  clear hK K
                  refine wpAny_done (by kernel_rfl) ?_ _
                  exact And.intro ((cal_below HB2.out HI.out.tab.lt).trans2 HPU.out.2.2.2.2) ⟨_, HPU.out.2.2.2.1⟩
                exact AllReady.nil
              exact AllReady.nil
            exact AllReady.nil
          exact AllReady.nil
        refine AllReady.cons rfl (fun K hK => ?_) ?_
        · skip
          go_simp
          refine hK _ _ ?_
          clear hK K
          refine wpAny_ready (rs := [2]) (by kernel_rfl) (by simp) ?_
          refine AllReady.cons rfl (fun K hK => ?_) ?_
          · skip
            go_simp
            refine hK _ _ ?_
            clear hK K
            refine wpAny_take (i := 4) (v := ?_) rfl (by kernel_rfl) (by kernel_rfl) (by kernel_rfl) (fun _ _ _ h => h) (Or.inl ⟨by rfl, ?_⟩) ?_
            rotate_left
            · intro w; go_simp; try with_reducible rfl
            refine wpAny_ready (rs := [5]) (by kernel_rfl) (by simp) ?_
            refine AllReady.cons rfl (fun K hK => ?_) ?_
            · skip
              go_simp
              refine hK _ _ ?_
              clear hK K
              refine wpAny_ready (rs := [8]) (by kernel_rfl) (by simp) ?_
              refine AllReady.cons rfl (fun K hK => ?_) ?_
              · skip
                refine step_append_at rfl (.tmp 22) (.tmp 24) 27 rfl (W0.heap.size + 2) 3 i3t (.int .i64 0) 1 8 Try.underlying27 hti3 hz03 hz13 hz23 rfl (by decide) (vs k) (behE pre k).length ((behE pre k).map (.int .i64)) rfl (HI2.out.tab.row k HK.out) _ 1 1 [.int .i64 a] rfl rfl (one_at _ _ _ rfl) (by intro u hu; simp at hu; subst hu; rfl) (by have := HLL.out; unfold maxLen; omega) (by have := HLL.out; omega) (by have := HSI2.out; simpa using this) ?_
                intro v' w4 hown hgrow hblk
                obtain ⟨A4, c4, rfl⟩ := own_slice hown
                have HPU := hid (HI2.out.push (a := a) HSI2.out HK.out hown hgrow hblk)
                have hf1 := HPU.out.1
                have hf2 := HPU.out.2.1
                have hf3 := HPU.out.2.2.1
                clear hown hgrow hblk
                try go_simp
                refine hK _ _ ?_
                clear hK K
                refine wpAny_take (i := 9) (v := ?_) rfl (by kernel_rfl) (by kernel_rfl) (by kernel_rfl) (fun _ _ _ h => h) (Or.inl ⟨by rfl, ?_⟩) ?_
                rotate_left
                · intro w; go_simp; try with_reducible rfl
                refine wpAny_ready (rs := [10]) (by kernel_rfl) (by simp) ?_
                refine AllReady.cons rfl (fun K hK => ?_) ?_
                · skip
                  go_simp
                  refine hK _ _ ?_
                  clear hK K
                  refine wpAny_done (by kernel_rfl) ?_ _
                  exact And.intro ((cal_below HB2.out HI.out.tab.lt).trans2 HPU.out.2.2.2.2) ⟨_, HPU.out.2.2.2.1⟩
                exact AllReady.nil
              exact AllReady.nil
            exact AllReady.nil
          exact AllReady.nil
        exact AllReady.nil
      refine AllReady.cons rfl (fun K hK => ?_) ?_
      · skip
        go_simp
        refine hK _ _ ?_
        clear hK K
        refine wpAny_take (i := 4) (v := ?_) rfl (by kernel_rfl) (by kernel_rfl) (by kernel_rfl) (fun _ _ _ h => h) (Or.inl ⟨by rfl, ?_⟩) ?_
        rotate_left
        · intro w; go_simp; try with_reducible rfl
        refine wpAny_ready (rs := [0,5,7]) (by kernel_rfl) (by simp) ?_
        refine AllReady.cons rfl (fun K hK => ?_) ?_
        · skip
          go_simp
          refine hK _ _ ?_
          clear hK K
          refine wpAny_ready (rs := [5,7]) (by kernel_rfl) (by simp) ?_
          refine AllReady.cons rfl (fun K hK => ?_) ?_
          · skip
            go_simp
            refine hK _ _ ?_
            clear hK K
            refine wpAny_ready (rs := [7]) (by kernel_rfl) (by simp) ?_
            refine AllReady.cons rfl (fun K hK => ?_) ?_
            · skip
              go_simp
              refine hK _ _ ?_
              clear hK K
              refine wpAny_ready (rs := [8]) (by kernel_rfl) (by simp) ?_
              refine AllReady.cons rfl (fun K hK => ?_) ?_
              · skip
                refine step_append_at rfl (.tmp 22) (.tmp 24) 27 rfl (W0.heap.size + 2) 3 i3t (.int .i64 0) 1 8 Try.underlying27 hti3 hz03 hz13 hz23 rfl (by decide) (vs k) (behE pre k).length ((behE pre k).map (.int .i64)) rfl (HI2.out.tab.row k HK.out) _ 1 1 [.int .i64 a] rfl rfl (one_at _ _ _ rfl) (by intro u hu; simp at hu; subst hu; rfl) (by have := HLL.out; unfold maxLen; omega) (by have := HLL.out; omega) (by have := HSI2.out; simpa using this) ?_
                intro v' w4 hown hgrow hblk
                obtain ⟨A4, c4, rfl⟩ := own_slice hown
                have HPU := hid (HI2.out.push (a := a) HSI2.out HK.out hown hgrow hblk)
                have hf1 := HPU.out.1
                have hf2 := HPU.out.2.1
                have hf3 := HPU.out.2.2.1
                clear hown hgrow hblk
                try go_simp
                refine hK _ _ ?_
                clear hK K
                refine wpAny_take (i := 9) (v := ?_) rfl (by kernel_rfl) (by kernel_rfl) (by kernel_rfl) (fun _ _ _ h => h) (Or.inl ⟨by rfl, ?_⟩) ?_
                rotate_left
                · intro w; go_simp; try with_reducible rfl
                refine wpAny_ready (rs := [10]) (by kernel_rfl) (by simp) ?_
                refine AllReady.cons rfl (fun K hK => ?_) ?_
                · skip
                  go_simp
                  refine hK _ _ ?_
                  clear hK K
                  refine wpAny_done (by kernel_rfl) ?_ _
                  exact And.intro ((cal_below HB2.out HI.out.tab.lt).trans2 HPU.out.2.2.2.2) ⟨_, HPU.out.2.2.2.1⟩
                exact AllReady.nil
              exact AllReady.nil
            exact AllReady.nil
          refine AllReady.cons rfl (fun K hK => ?_) ?_
          · skip
            go_simp
            refine hK _ _ ?_
            clear hK K
            refine wpAny_ready (rs := [5]) (by kernel_rfl) (by simp) ?_
            refine AllReady.cons rfl (fun K hK => ?_) ?_
            · skip
              go_simp
              refine hK _ _ ?_
              clear hK K
              refine wpAny_ready (rs := [8]) (by kernel_rfl) (by simp) ?_
              refine AllReady.cons rfl (fun K hK => ?_) ?_
              · skip
                refine step_append_at rfl (.tmp 22) (.tmp 24) 27 rfl (W0.heap.size + 2) 3 i3t (.int .i64 0) 1 8 Try.underlying27 hti3 hz03 hz13 hz23 rfl (by decide) (vs k) (behE pre k).length ((behE pre k).map (.int .i64)) rfl (HI2.out.tab.row k HK.out) _ 1 1 [.int .i64 a] rfl rfl (one_at _ _ _ rfl) (by intro u hu; simp at hu; subst hu; rfl) (by have := HLL.out; unfold maxLen; omega) (by have := HLL.out; omega) (by have := HSI2.out; simpa using this) ?_
                intro v' w4 hown hgrow hblk
                obtain ⟨A4, c4, rfl⟩ := own_slice hown
                have HPU := hid (HI2.out.push (a := a) HSI2.out HK.out hown hgrow hblk)
                have hf1 := HPU.out.1
                have hf2 := HPU.out.2.1
                have hf3 := HPU.out.2.2.1
                clear hown hgrow hblk
                try go_simp
                refine hK _ _ ?_
                clear hK K
                refine wpAny_take (i := 9) (v := ?_) rfl (by kernel_rfl) (by kernel_rfl) (by kernel_rfl) (fun _ _ _ h => h) (Or.inl ⟨by rfl, ?_⟩) ?_
                rotate_left
                · intro w; go_simp; try with_reducible rfl
                refine wpAny_ready (rs := [10]) (by kernel_rfl) (by simp) ?_
                refine AllReady.cons rfl (fun K hK => ?_) ?_
                · skip
                  go_simp
                  refine hK _ _ ?_
                  clear hK K
                  refine wpAny_done (by kernel_rfl) ?_ _
                  exact And.intro ((cal_below HB2.out HI.out.tab.lt).trans2 HPU.out.2.2.2.2) ⟨_, HPU.out.2.2.2.1⟩
                exact AllReady.nil
              exact AllReady.nil
            exact AllReady.nil
          exact AllReady.nil
        refine AllReady.cons rfl (fun K hK => ?_) ?_
        · skip
          go_simp
          refine hK _ _ ?_
          clear hK K
          refine wpAny_ready (rs := [0,7]) (by kernel_rfl) (by simp) ?_
          refine AllReady.cons rfl (fun K hK => ?_) ?_
          · skip
            go_simp
            refine hK _ _ ?_
            clear hK K
            refine wpAny_ready (rs := [7]) (by kernel_rfl) (by simp) ?_
            refine AllReady.cons rfl (fun K hK => ?_) ?_
            · skip
              go_simp
              refine hK _ _ ?_
              clear hK K
              refine wpAny_ready (rs := [8]) (by kernel_rfl) (by simp) ?_
              refine AllReady.cons rfl (fun K hK => ?_) ?_
              · skip
                refine step_append_at rfl (.tmp 22) (.tmp 24) 27 rfl (W0.heap.size + 2) 3 i3t (.int .i64 0) 1 8 Try.underlying27 hti3 hz03 hz13 hz23 rfl (by decide) (vs k) (behE pre k).length ((behE pre k).map (.int .i64)) rfl (HI2.out.tab.row k HK.out) _ 1 1 [.int .i64 a] rfl rfl (one_at _ _ _ rfl) (by intro u hu; simp at hu; subst hu; rfl) (by have := HLL.out; unfold maxLen; omega) (by have := HLL.out; omega) (by have := HSI2.out; simpa using this) ?_
                intro v' w4 hown hgrow hblk
                obtain ⟨A4, c4, rfl⟩ := own_slice hown
                have HPU := hid (HI2.out.push (a := a) HSI2.out HK.out hown hgrow hblk)
                have hf1 := HPU.out.1
                have hf2 := HPU.out.2.1
                have hf3 := HPU.out.2.2.1
                clear hown hgrow hblk
                try go_simp
                refine hK _ _ ?_
                clear hK K
                refine wpAny_take (i := 9) (v := ?_) rfl (by kernel_rfl) (by kernel_rfl) (by kernel_rfl) (fun _ _ _ h => h) (Or.inl ⟨by rfl, ?_⟩) ?_
                rotate_left
                · intro w; go_simp; try with_reducible rfl
                refine wpAny_ready (rs := [10]) (by kernel_rfl) (by simp) ?_
                refine AllReady.cons rfl (fun K hK => ?_) ?_
                · skip
                  go_simp
                  refine hK _ _ ?_
                  clear hK K
                  refine wpAny_done (by kernel_rfl) ?_ _
                  exact And.intro ((cal_below HB2.out HI.out.tab.lt).trans2 HPU.out.2.2.2.2) ⟨_, HPU.out.2.2.2.1⟩
                exact AllReady.nil
              exact AllReady.nil
            exact AllReady.nil
          refine AllReady.cons rfl (fun K hK => ?_) ?_
          · skip
            go_simp
            refine hK _ _ ?_
            clear hK K
            refine wpAny_ready (rs := [0,8]) (by kernel_rfl) (by simp) ?_
            refine AllReady.cons rfl (fun K hK => ?_) ?_
            · skip
              go_simp
              refine hK _ _ ?_
              clear hK K
              refine wpAny_ready (rs := [8]) (by kernel_rfl) (by simp) ?_
              refine AllReady.cons rfl (fun K hK => ?_) ?_
              · skip
                refine step_append_at rfl (.tmp 22) (.tmp 24) 27 rfl (W0.heap.size + 2) 3 i3t (.int .i64 0) 1 8 Try.underlying27 hti3 hz03 hz13 hz23 rfl (by decide) (vs k) (behE pre k).length ((behE pre k).map (.int .i64)) rfl (HI2.out.tab.row k HK.out) _ 1 1 [.int .i64 a] rfl rfl (one_at _ _ _ rfl) (by intro u hu; simp at hu; subst hu; rfl) (by have := HLL.out; unfold maxLen; omega) (by have := HLL.out; omega) (by have := HSI2.out; simpa using this) ?_
                intro v' w4 hown hgrow hblk
                obtain ⟨A4, c4, rfl⟩ := own_slice hown
                have HPU := hid (HI2.out.push (a := a) HSI2.out HK.out hown hgrow hblk)
                have hf1 := HPU.out.1
                have hf2 := HPU.out.2.1
                have hf3 := HPU.out.2.2.1
                clear hown hgrow hblk
                try go_simp
                refine hK _ _ ?_
                clear hK K
                refine wpAny_take (i := 9) (v := ?_) rfl (by kernel_rfl) (by kernel_rfl) (by kernel_rfl) (fun _ _ _ h => h) (Or.inl ⟨by rfl, ?_⟩) ?_
                rotate_left
                · intro w; go_simp; try with_reducible rfl
                refine wpAny_ready (rs := [10]) (by kernel_rfl) (by simp) ?_
                refine AllReady.cons rfl (fun K hK => ?_) ?_
                · skip
                  go_simp
                  refine hK _ _ ?_
                  clear hK K
                  refine wpAny_done (by kernel_rfl) ?_ _
                  exact And.intro ((cal_below HB2.out HI.out.tab.lt).trans2 HPU.out.2.2.2.2) ⟨_, HPU.out.2.2.2.1⟩
                exact AllReady.nil
              exact AllReady.nil
            refine AllReady.cons rfl (fun K hK => ?_) ?_
            · skip
              refine step_append_at rfl (.tmp 22) (.tmp 24) 27 rfl (W0.heap.size + 2) 3 i3t (.int .i64 0) 1 8 Try.underlying27 hti3 hz03 hz13 hz23 rfl (by decide) (vs k) (behE pre k).length ((behE pre k).map (.int .i64)) rfl (HI2.out.tab.row k HK.out) _ 1 1 [.int .i64 a] rfl rfl (one_at _ _ _ rfl) (by intro u hu; simp at hu; subst hu; rfl) (by have := HLL.out; unfold maxLen; omega) (by have := HLL.out; omega) (by have := HSI2.out; simpa using this) ?_
              intro v' w4 hown hgrow hblk
              obtain ⟨A4, c4, rfl⟩ := own_slice hown
              have HPU := hid (HI2.out.push (a := a) HSI2.out HK.out hown hgrow hblk)
              have hf1 := HPU.out.1
              have hf2 := HPU.out.2.1
              have hf3 := HPU.out.2.2.1
              clear hown hgrow hblk
              try go_simp
              refine hK _ _ ?_
              clear hK K
              refine wpAny_ready (rs := [0]) (by kernel_rfl) (by simp) ?_
              refine AllReady.cons rfl (fun K hK => ?_) ?_
              · skip
                go_simp
                refine hK _ _ ?_
                clear hK K
                refine wpAny_take (i := 9) (v := ?_) rfl (by kernel_rfl) (by kernel_rfl) (by kernel_rfl) (fun _ _ _ h => h) (Or.inl ⟨by rfl, ?_⟩) ?_
                rotate_left
                · intro w; go_simp; try with_reducible rfl
                refine wpAny_ready (rs := [10]) (by kernel_rfl) (by simp) ?_
                refine AllReady.cons rfl (fun K hK => ?_) ?_
                · skip
                  go_simp
                  refine hK _ _ ?_
                  clear hK K
                  refine wpAny_done (by kernel_rfl) ?_ _
                  exact And.intro ((cal_below HB2.out HI.out.tab.lt).trans2 HPU.out.2.2.2.2) ⟨_, HPU.out.2.2.2.1⟩
                exact AllReady.nil
              exact AllReady.nil
            exact AllReady.nil
          exact AllReady.nil
        refine AllReady.cons rfl (fun K hK => ?_) ?_
        · skip
          go_simp
          refine hK _ _ ?_
          clear hK K
          refine wpAny_ready (rs := [0,5]) (by kernel_rfl) (by simp) ?_
          refine AllReady.cons rfl (fun K hK => ?_) ?_
          · skip
            go_simp
            refine hK _ _ ?_
            clear hK K
            refine wpAny_ready (rs := [5]) (by kernel_rfl) (by simp) ?_
            refine AllReady.cons rfl (fun K hK => ?_) ?_
            · skip
              go_simp
              refine hK _ _ ?_
              clear hK K
              refine wpAny_ready (rs := [8]) (by kernel_rfl) (by simp) ?_
              refine AllReady.cons rfl (fun K hK => ?_) ?_
              · skip
                refine step_append_at rfl (.tmp 22) (.tmp 24) 27 rfl (W0.heap.size + 2) 3 i3t (.int .i64 0) 1 8 Try.underlying27 hti3 hz03 hz13 hz23 rfl (by decide) (vs k) (behE pre k).length ((behE pre k).map (.int .i64)) rfl (HI2.out.tab.row k HK.out) _ 1 1 [.int .i64 a] rfl rfl (one_at _ _ _ rfl) (by intro u hu; simp at hu; subst hu; rfl) (by have := HLL.out; unfold maxLen; omega) (by have := HLL.out; omega) (by have := HSI2.out; simpa using this) ?_
                intro v' w4 hown hgrow hblk
                obtain ⟨A4, c4, rfl⟩ := own_slice hown
                have HPU := hid (HI2.out.push (a := a) HSI2.out HK.out hown hgrow hblk)
                have hf1 := HPU.out.1
                have hf2 := HPU.out.2.1
                have hf3 := HPU.out.2.2.1
                clear hown hgrow hblk
                try go_simp
                refine hK _ _ ?_
                clear hK K
                refine wpAny_take (i := 9) (v := ?_) rfl (by kernel_rfl) (by kernel_rfl) (by kernel_rfl) (fun _ _ _ h => h) (Or.inl ⟨by rfl, ?_⟩) ?_
                rotate_left
                · intro w; go_simp; try with_reducible rfl
                refine wpAny_ready (rs := [10]) (by kernel_rfl) (by simp) ?_
                refine AllReady.cons rfl (fun K hK => ?_) ?_
                · skip
                  go_simp
                  refine hK _ _ ?_
                  clear hK K
                  refine wpAny_done (by kernel_rfl) ?_ _
                  exact And.intro ((cal_below HB2.out HI.out.tab.lt).trans2 HPU.out.2.2.2.2) ⟨_, HPU.out.2.2.2.1⟩
                exact AllReady.nil
              exact AllReady.nil
            exact AllReady.nil
          refine AllReady.cons rfl (fun K hK => ?_) ?_
          · skip
            go_simp
            refine hK _ _ ?_
            clear hK K
            refine wpAny_ready (rs := [0,8]) (by kernel_rfl) (by simp) ?_
            refine AllReady.cons rfl (fun K hK => ?_) ?_
            · skip
              go_simp
              refine hK _ _ ?_
              clear hK K
              refine wpAny_ready (rs := [8]) (by kernel_rfl) (by simp) ?_
              refine AllReady.cons rfl (fun K hK => ?_) ?_
              · skip
                refine step_append_at rfl (.tmp 22) (.tmp 24) 27 rfl (W0.heap.size + 2) 3 i3t (.int .i64 0) 1 8 Try.underlying27 hti3 hz03 hz13 hz23 rfl (by decide) (vs k) (behE pre k).length ((behE pre k).map (.int .i64)) rfl (HI2.out.tab.row k HK.out) _ 1 1 [.int .i64 a] rfl rfl (one_at _ _ _ rfl) (by intro u hu; simp at hu; subst hu; rfl) (by have := HLL.out; unfold maxLen; omega) (by have := HLL.out; omega) (by have := HSI2.out; simpa using this) ?_
                intro v' w4 hown hgrow hblk
                obtain ⟨A4, c4, rfl⟩ := own_slice hown
                have HPU := hid (HI2.out.push (a := a) HSI2.out HK.out hown hgrow hblk)
                have hf1 := HPU.out.1
                have hf2 := HPU.out.2.1
                have hf3 := HPU.out.2.2.1
                clear hown hgrow hblk
                try go_simp
                refine hK _ _ ?_
                clear hK K
                refine wpAny_take (i := 9) (v := ?_) rfl (by kernel_rfl) (by kernel_rfl) (by kernel_rfl) (fun _ _ _ h => h) (Or.inl ⟨by rfl, ?_⟩) ?_
                rotate_left
                · intro w; go_simp; try with_reducible rfl
                refine wpAny_ready (rs := [10]) (by kernel_rfl) (by simp) ?_
                refine AllReady.cons rfl (fun K hK => ?_) ?_
                · skip
                  go_simp
                  refine hK _ _ ?_
                  clear hK K
                  refine wpAny_done (by kernel_rfl) ?_ _
                  exact And.intro ((cal_below HB2.out HI.out.tab.lt).trans2 HPU.out.2.2.2.2) ⟨_, HPU.out.2.2.2.1⟩
                exact AllReady.nil
              exact AllReady.nil
            refine AllReady.cons rfl (fun K hK => ?_) ?_
            · skip
              refine step_append_at rfl (.tmp 22) (.tmp 24) 27 rfl (W0.heap.size + 2) 3 i3t (.int .i64 0) 1 8 Try.underlying27 hti3 hz03 hz13 hz23 rfl (by decide) (vs k) (behE pre k).length ((behE pre k).map (.int .i64)) rfl (HI2.out.tab.row k HK.out) _ 1 1 [.int .i64 a] rfl rfl (one_at _ _ _ rfl) (by intro u hu; simp at hu; subst hu; rfl) (by have := HLL.out; unfold maxLen; omega) (by have := HLL.out; omega) (by have := HSI2.out; simpa using this) ?_
              intro v' w4 hown hgrow hblk
              obtain ⟨A4, c4, rfl⟩ := own_slice hown
              have HPU := hid (HI2.out.push (a := a) HSI2.out HK.out hown hgrow hblk)
              have hf1 := HPU.out.1
              have hf2 := HPU.out.2.1
              have hf3 := HPU.out.2.2.1
              clear hown hgrow hblk
              try go_simp
              refine hK _ _ ?_
              clear hK K
              refine wpAny_ready (rs := [0]) (by kernel_rfl) (by simp) ?_
              refine AllReady.cons rfl (fun K hK => ?_) ?_
              · skip
                go_simp
                refine hK _ _ ?_
                clear hK K
                refine wpAny_take (i := 9) (v := ?_) rfl (by kernel_rfl) (by kernel_rfl) (by kernel_rfl) (fun _ _ _ h => h) (Or.inl ⟨by rfl, ?_⟩) ?_
                rotate_left
                · intro w; go_simp; try with_reducible rfl
                refine wpAny_ready (rs := [10]) (by kernel_rfl) (by simp) ?_
                refine AllReady.cons rfl (fun K hK => ?_) ?_
                · skip
                  go_simp
                  refine hK _ _ ?_
                  clear hK K
                  refine wpAny_done (by kernel_rfl) ?_ _
                  exact And.intro ((cal_below HB2.out HI.out.tab.lt).trans2 HPU.out.2.2.2.2) ⟨_, HPU.out.2.2.2.1⟩
                exact AllReady.nil
              exact AllReady.nil
            exact AllReady.nil
          exact AllReady.nil
        exact AllReady.nil
      refine AllReady.cons rfl (fun K hK => ?_) ?_
      · skip
        go_simp
        refine hK _ _ ?_
        clear hK K
        refine wpAny_ready (rs := [0,2]) (by kernel_rfl) (by simp) ?_
        refine AllReady.cons rfl (fun K hK => ?_) ?_
        · skip
          go_simp
          refine hK _ _ ?_
          clear hK K
          refine wpAny_ready (rs := [2]) (by kernel_rfl) (by simp) ?_
          refine AllReady.cons rfl (fun K hK => ?_) ?_
          · skip
            go_simp
            refine hK _ _ ?_
            clear hK K
            refine wpAny_take (i := 4) (v := ?_) rfl (by kernel_rfl) (by kernel_rfl) (by kernel_rfl) (fun _ _ _ h => h) (Or.inl ⟨by rfl, ?_⟩) ?_
            rotate_left
            · intro w; go_simp; try with_reducible rfl
            refine wpAny_ready (rs := [5]) (by kernel_rfl) (by simp) ?_
            refine AllReady.cons rfl (fun K hK => ?_) ?_
            · skip
              go_simp
              refine hK _ _ ?_
              clear hK K
              refine wpAny_ready (rs := [8]) (by kernel_rfl) (by simp) ?_
              refine AllReady.cons rfl (fun K hK => ?_) ?_
              · skip
                refine step_append_at rfl (.tmp 22) (.tmp 24) 27 rfl (W0.heap.size + 2) 3 i3t (.int .i64 0) 1 8 Try.underlying27 hti3 hz03 hz13 hz23 rfl (by decide) (vs k) (behE pre k).length ((behE pre k).map (.int .i64)) rfl (HI2.out.tab.row k HK.out) _ 1 1 [.int .i64 a] rfl rfl (one_at _ _ _ rfl) (by intro u hu; simp at hu; subst hu; rfl) (by have := HLL.out; unfold maxLen; omega) (by have := HLL.out; omega) (by have := HSI2.out; simpa using this) ?_
                intro v' w4 hown hgrow hblk
                obtain ⟨A4, c4, rfl⟩ := own_slice hown
                have HPU := hid (HI2.out.push (a := a) HSI2.out HK.out hown hgrow hblk)
                have hf1 := HPU.out.1
                have hf2 := HPU.out.2.1
                have hf3 := HPU.out.2.2.1
                clear hown hgrow hblk
                try go_simp
                refine hK _ _ ?_
                clear hK K
                refine wpAny_take (i := 9) (v := ?_) rfl (by kernel_rfl) (by kernel_rfl) (by kernel_rfl) (fun _ _ _ h => h) (Or.inl ⟨by rfl, ?_⟩) ?_
                rotate_left
                · intro w; go_simp; try with_reducible rfl
                refine wpAny_ready (rs := [10]) (by kernel_rfl) (by simp) ?_
                refine AllReady.cons rfl (fun K hK => ?_) ?_
                · skip
                  go_simp
                  refine hK _ _ ?_
                  clear hK K
                  refine wpAny_done (by kernel_rfl) ?_ _
                  exact And.intro ((cal_below HB2.out HI.out.tab.lt).trans2 HPU.out.2.2.2.2) ⟨_, HPU.out.2.2.2.1⟩
                exact AllReady.nil
              exact AllReady.nil
            exact AllReady.nil
          exact AllReady.nil
        refine AllReady.cons rfl (fun K hK => ?_) ?_
        · skip
          go_simp
          refine hK _ _ ?_
          clear hK K
          refine wpAny_take (i := 4) (v := ?_) rfl (by kernel_rfl) (by kernel_rfl) (by kernel_rfl) (fun _ _ _ h => h) (Or.inl ⟨by rfl, ?_⟩) ?_
          rotate_left
          · intro w; go_simp; try with_reducible rfl
          refine wpAny_ready (rs := [0,5]) (by kernel_rfl) (by simp) ?_
          refine AllReady.cons rfl (fun K hK => ?_) ?_
          · skip
            go_simp
            refine hK _ _ ?_
            clear hK K
            refine wpAny_ready (rs := [5]) (by kernel_rfl) (by simp) ?_
            refine AllReady.cons rfl (fun K hK => ?_) ?_
            · skip
              go_simp
              refine hK _ _ ?_
              clear hK K
              refine wpAny_ready (rs := [8]) (by kernel_rfl) (by simp) ?_
              refine AllReady.cons rfl (fun K hK => ?_) ?_
              · skip
                refine step_append_at rfl (.tmp 22) (.tmp 24) 27 rfl (W0.heap.size + 2) 3 i3t (.int .i64 0) 1 8 Try.underlying27 hti3 hz03 hz13 hz23 rfl (by decide) (vs k) (behE pre k).length ((behE pre k).map (.int .i64)) rfl (HI2.out.tab.row k HK.out) _ 1 1 [.int .i64 a] rfl rfl (one_at _ _ _ rfl) (by intro u hu; simp at hu; subst hu; rfl) (by have := HLL.out; unfold maxLen; omega) (by have := HLL.out; omega) (by have := HSI2.out; simpa using this) ?_
                intro v' w4 hown hgrow hblk
                obtain ⟨A4, c4, rfl⟩ := own_slice hown
                have HPU := hid (HI2.out.push (a := a) HSI2.out HK.out hown hgrow hblk)
                have hf1 := HPU.out.1
                have hf2 := HPU.out.2.1
                have hf3 := HPU.out.2.2.1
                clear hown hgrow hblk
                try go_simp
                refine hK _ _ ?_
                clear hK K
                refine wpAny_take (i := 9) (v := ?_) rfl (by kernel_rfl) (by kernel_rfl) (by kernel_rfl) (fun _ _ _ h => h) (Or.inl ⟨by rfl, ?_⟩) ?_
                rotate_left
                · intro w; go_simp; try with_reducible rfl
                refine wpAny_ready (rs := [10]) (by kernel_rfl) (by simp) ?_
                refine AllReady.cons rfl (fun K hK => ?_) ?_
                · skip
                  go_simp
                  refine hK _ _ ?_
                  clear hK K
                  refine wpAny_done (by kernel_rfl) ?_ _
                  exact And.intro ((cal_below HB2.out HI.out.tab.lt).trans2 HPU.out.2.2.2.2) ⟨_, HPU.out.2.2.2.1⟩
                exact AllReady.nil
              exact AllReady.nil
            exact AllReady.nil
          refine AllReady.cons rfl (fun K hK => ?_) ?_
          · skip
            go_simp
            refine hK _ _ ?_
            clear hK K
            refine wpAny_ready (rs := [0,8]) (by kernel_rfl) (by simp) ?_
            refine AllReady.cons rfl (fun K hK => ?_) ?_
            · skip
              go_simp
              refine hK _ _ ?_
              clear hK K
              refine wpAny_ready (rs := [8]) (by kernel_rfl) (by simp) ?_
              refine AllReady.cons rfl (fun K hK => ?_) ?_
              · skip
                refine step_append_at rfl (.tmp 22) (.tmp 24) 27 rfl (W0.heap.size + 2) 3 i3t (.int .i64 0) 1 8 Try.underlying27 hti3 hz03 hz13 hz23 rfl (by decide) (vs k) (behE pre k).length ((behE pre k).map (.int .i64)) rfl (HI2.out.tab.row k HK.out) _ 1 1 [.int .i64 a] rfl rfl (one_at _ _ _ rfl) (by intro u hu; simp at hu; subst hu; rfl) (by have := HLL.out; unfold maxLen; omega) (by have := HLL.out; omega) (by have := HSI2.out; simpa using this) ?_
                intro v' w4 hown hgrow hblk
                obtain ⟨A4, c4, rfl⟩ := own_slice hown
                have HPU := hid (HI2.out.push (a := a) HSI2.out HK.out hown hgrow hblk)
                have hf1 := HPU.out.1
                have hf2 := HPU.out.2.1
                have hf3 := HPU.out.2.2.1
                clear hown hgrow hblk
                try go_simp
                refine hK _ _ ?_
                clear hK K
                refine wpAny_take (i := 9) (v := ?_) rfl (by kernel_rfl) (by kernel_rfl) (by kernel_rfl) (fun _ _ _ h => h) (Or.inl ⟨by rfl, ?_⟩) ?_
                rotate_left
                · intro w; go_simp; try with_reducible rfl
                refine wpAny_ready (rs := [10]) (by kernel_rfl) (by simp) ?_
                refine AllReady.cons rfl (fun K hK => ?_) ?_
                · skip
                  go_simp
                  refine hK _ _ ?_
                  clear hK K
                  refine wpAny_done (by kernel_rfl) ?_ _
                  exact And.intro ((cal_below HB2.out HI.out.tab.lt).trans2 HPU.out.2.2.2.2) ⟨_, HPU.out.2.2.2.1⟩
                exact AllReady.nil
              exact AllReady.nil
            refine AllReady.cons rfl (fun K hK => ?_) ?_
            · skip
              refine step_append_at rfl (.tmp 22) (.tmp 24) 27 rfl (W0.heap.size + 2) 3 i3t (.int .i64 0) 1 8 Try.underlying27 hti3 hz03 hz13 hz23 rfl (by decide) (vs k) (behE pre k).length ((behE pre k).map (.int .i64)) rfl (HI2.out.tab.row k HK.out) _ 1 1 [.int .i64 a] rfl rfl (one_at _ _ _ rfl) (by intro u hu; simp at hu; subst hu; rfl) (by have := HLL.out; unfold maxLen; omega) (by have := HLL.out; omega) (by have := HSI2.out; simpa using this) ?_
              intro v' w4 hown hgrow hblk
              obtain ⟨A4, c4, rfl⟩ := own_slice hown
              have HPU := hid (HI2.out.push (a := a) HSI2.out HK.out hown hgrow hblk)
              have hf1 := HPU.out.1
              have hf2 := HPU.out.2.1
              have hf3 := HPU.out.2.2.1
              clear hown hgrow hblk
              try go_simp
              refine hK _ _ ?_
              clear hK K
              refine wpAny_ready (rs := [0]) (by kernel_rfl) (by simp) ?_
              refine AllReady.cons rfl (fun K hK => ?_) ?_
              · skip
                go_simp
                refine hK _ _ ?_
                clear hK K
                refine wpAny_take (i := 9) (v := ?_) rfl (by kernel_rfl) (by kernel_rfl) (by kernel_rfl) (fun _ _ _ h => h) (Or.inl ⟨by rfl, ?_⟩) ?_
                rotate_left
                · intro w; go_simp; try with_reducible rfl
                refine wpAny_ready (rs := [10]) (by kernel_rfl) (by simp) ?_
                refine AllReady.cons rfl (fun K hK => ?_) ?_
                · skip
                  go_simp
                  refine hK _ _ ?_
                  clear hK K
                  refine wpAny_done (by kernel_rfl) ?_ _
                  exact And.intro ((cal_below HB2.out HI.out.tab.lt).trans2 HPU.out.2.2.2.2) ⟨_, HPU.out.2.2.2.1⟩
                exact AllReady.nil
              exact AllReady.nil
            exact AllReady.nil
          exact AllReady.nil
        exact AllReady.nil
      exact AllReady.nil
  case done =>
    rintro W ⟨vs, hI⟩ hK
    have hcv := cells_at hI.cell
    have HI := hid hI
    have HK := hid hK
    clear hI hK
    go_wp2
    refine ⟨by simp, .inl ⟨_, _, rfl, run_takeDeferred HK.out, ?_⟩⟩
    have h1 := HTC.out
    have h2 := HSZ.out
    have h3 := HI.out.tab.lt
    refine ⟨_, results_tmp rfl _ _ _, ⟨T, T + 1, vs, rfl, hid ?_, hid ⟨h1.1, ?_, HI.out.bel.trans (below_put _ (by have := HO.out.size; omega))⟩⟩⟩
    · exact tab_as ((tab_low HI.out.tab (by omega) (by omega)).at (World.putObj_heap_other (by omega)) (fun i g hi q => World.putObj_heap_other (by have := (row_lt (HI.out.tab.row i hi) q).1; omega))) (fun _ _ => rfl) (eds_len _ _)
    · simp
      omega
  case stop =>
    rintro c pre W hpre hix hK
    exact absurd hix id
end Go.Proofs.Ytbmjhkimeeahhaa
