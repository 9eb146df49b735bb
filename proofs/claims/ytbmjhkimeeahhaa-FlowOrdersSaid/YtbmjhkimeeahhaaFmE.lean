/- FlowOrders, as a call: it returns true, and leaves what was as it was. No conditions. -/
import Derived.Test.YtbmjhkimeeahhaaFmC
import Derived.Test.YtbmjhkimeeahhaaFlT
import Derived.Test.YtbmjhkimeeahhaaFlW
import Derived.Deep.RegionHeld3
namespace Go.Proofs.Ytbmjhkimeeahhaa
open Go.RowKit Go.Maps Go.Shelf
set_option linter.unusedVariables false
set_option linter.unusedSimpArgs false
attribute [local go_sem] Oper.semAt_some
theorem res4 {x : Array Value} {b : Nat} {W : World} {v : Value} (h6 : x[6]?.getD undef = .pointer (some ⟨b, 0, none⟩)) (hb : W.heap[b]? = some (.cells #[v] 4 (0, 0))) :
    (results Try.f4 x).run Try.prog W = .ok v W := by
  have c0 : W.cell? ⟨b, 0, none⟩ = some v := cells_at hb 0
  simp [results, Try.results4, go_sem, h6, c0]
theorem leave4 {n S b : Nat} {Q : Ending → World → Prop} {W : World} {tm : Array Value} {v : Value} (hD : W.heap[S]? = some (.deferred (some []))) (h4 : tm[6]?.getD undef = .pointer (some ⟨b, 0, none⟩))
    (hb : W.heap[b]? = some (.cells #[v] 4 (0, 0))) (e : b ≠ S) (hQ : Q (.returned v) (W.putObj S (.deferred none))) :
    bodyPostM Fence.wide n Try.prog Try.f4 Q Exit.ret { tmps := tm, defers := [{ target := .collected S, args := #[] }] } W :=
  ⟨by simp, .inl ⟨_, _, rfl, run_takeDeferred hD, _, res4 h4 ((World.putObj_heap_other e).trans hb), hQ⟩⟩
/-- The law's first three boxes: the code, the bound, the answer. -/
structure OB (w : World) (cv : Array Value) (stop : Int) (W : World) : Prop where
  bel : Below w.heap.size w W
  c : W.heap[w.heap.size]? = some (.cells cv 30 (0, 0))
  s : W.heap[w.heap.size + 1]? = some (.cells #[.int .i64 stop] 3 (0, 0))
  r : W.heap[w.heap.size + 1 + 1]? = some (.cells #[.bool false] 4 (0, 0))
theorem OB.start (w : World) (cv : Array Value) (stop : Int) : OB w cv stop (((w.alloc (.cells cv 30)).alloc (.cells #[.int .i64 stop] 3)).alloc (.cells #[.bool false] 4)) := by
  refine ⟨below3a _ _ _ _, box3a _ _ _ _ _, box3b _ _ _ _ _, ?_⟩
  have := heap_alloc_new ((w.alloc (.cells cv 30)).alloc (.cells #[.int .i64 stop] 3)) (.cells #[.bool false] 4)
  rwa [World.size_alloc, World.size_alloc] at this
section
variable {w W W' : World} {cv : Array Value} {stop : Int}
theorem OB.low {N : Nat} (h : OB w cv stop W) (hb : Below N W W') (hN : w.heap.size + 3 ≤ N) : OB w cv stop W' :=
  ⟨h.bel.trans (hb.mono (by omega)), (hb.block _ (by omega)).trans h.c, (hb.block _ (by omega)).trans h.s, (hb.block _ (by omega)).trans h.r⟩
theorem OB.size (h : OB w cv stop W) : w.heap.size + 3 ≤ W.heap.size := (Array.getElem?_eq_some_iff.1 h.r).1
theorem OB.later (h : OB w cv stop W) (hb : Below W.heap.size W W') : OB w cv stop W' := h.low hb h.size
theorem OB.set (h : OB w cv stop W) (b : Bool) : Below w.heap.size w (W.setCell ⟨w.heap.size + 1 + 1, 0, none⟩ (.bool b)) ∧ (W.setCell ⟨w.heap.size + 1 + 1, 0, none⟩ (.bool b)).heap[w.heap.size + 1 + 1]? = some (.cells #[.bool b] 4 (0, 0)) :=
  ⟨h.bel.setCell (by show w.heap.size ≤ w.heap.size + 1 + 1; omega) _, by simp [World.setCell, Array.getElem?_modify, h.r]⟩
end
/-- A slice of these numbers. -/
def IsN (W : World) (v : Value) (L : List Nat) : Prop := ∃ A c, v = .slice A L.length c ∧ IntsM W A (L.map (fun (k : Nat) => (k : Int)))
theorem IsN.later {W W' : World} {v : Value} {L : List Nat} (h : IsN W v L) (hb : Below W.heap.size W W') : IsN W' v L := by
  obtain ⟨A, c, e, h⟩ := h
  exact ⟨A, c, e, h.later int_stays hb⟩
theorem isN_own {W : World} {base : Nat} {v : Value} {L : List Nat} (h : OwnN W base v L) (hl : L.length ≤ 9223372036854775807) : IsN W v L := by
  have h1 := h
  unfold OwnN at h1
  rw [show natV L = (L.map (fun (k : Nat) => (k : Int))).map (Value.int .i64) from by simp [natV]] at h1
  obtain ⟨A, c, e, hA⟩ := ints_owns h1 (by simpa using hl)
  exact ⟨A, c, by simpa using e, hA⟩
theorem eqL_refl (xs : List Int) : eqL (· == ·) xs xs = true := eqL_yes rfl (fun i x y _ h1 h2 => by rw [h1] at h2; cases h2; simp)
theorem same_n {L : List Nat} {v1 v2 : Value} {w : World} (h1 : IsN w v1 L) (h2 : IsN w v2 L) : Calls Try.prog 17 #[v1, v2] w fun e w' => e = .returned (.bool true) ∧ Hid (Below w.heap.size w w') := by
  obtain ⟨A, c, rfl, h1⟩ := h1
  obtain ⟨A2, c2, rfl, h2⟩ := h2
  have := numbers_i _ _ A A2 c c2 true w h1 h2 (eqL_refl _)
  simpa [List.length_map] using this
/-- What the law's blocks hold while it goes from one to the next. -/
structure OP (w : World) (cv : Array Value) (stop : Int) (base P : Nat) (vL : Value) (L : List Nat) (cnt : Nat) (W : World) : Prop where
  ob : OB w cv stop W
  l : W.heap[P]? = some (.cells #[vL] 27 (0, 0))
  n : W.heap[P + 1]? = some (.cells #[.int .i64 cnt] 3 (0, 0))
  row : OwnN W base vL L
  lt : ∀ g, vL.ownBlock = some g → g < P
  lo : w.heap.size + 3 ≤ P
section
variable {w W W' : World} {cv : Array Value} {stop : Int} {base P cnt : Nat} {vL : Value} {L : List Nat}
theorem OP.low {N : Nat} (h : OP w cv stop base P vL L cnt W) (hb : Below N W W') (hN : P + 2 ≤ N) : OP w cv stop base P vL L cnt W' := by
  have h1 := h.lo
  exact ⟨h.ob.low hb (by omega), (hb.block _ (by omega)).trans h.l, (hb.block _ (by omega)).trans h.n, row_at h.row (fun g q => hb.block g (by have := h.lt g q; omega)), h.lt, h.lo⟩
theorem OP.later (h : OP w cv stop base P vL L cnt W) (hb : Below W.heap.size W W') : OP w cv stop base P vL L cnt W' := h.low hb (by have := (Array.getElem?_eq_some_iff.1 h.n).1; omega)
theorem OP.drew (h : OP w cv stop base P vL L cnt W) : OP w cv stop base P vL L cnt W.drew := h.later (below_drew1 W)
theorem OP.count (h : OP w cv stop base P vL L cnt W) (v : Int) (hv : v = ((cnt + 1 : Nat) : Int)) : OP w cv stop base P vL L (cnt + 1) (W.setCell ⟨P + 1, 0, none⟩ (.int .i64 v)) := by
  subst hv
  have hne : ∀ i, i ≠ P + 1 → (W.setCell ⟨P + 1, 0, none⟩ (.int .i64 ((cnt + 1 : Nat) : Int))).heap[i]? = W.heap[i]? := fun i hi => Below.heap_setCell _ _ _ _ hi
  have h1 := h.lo
  exact ⟨h.ob.low ((Below.refl P W).setCell (p := ⟨P + 1, 0, none⟩) (by show P ≤ P + 1; omega) _) h.lo, (hne _ (by omega)).trans h.l, set_here h.n 0 _, row_at h.row (fun g q => hne g (by have := h.lt g q; omega)), h.lt, h.lo⟩
/-- What a region reads. -/
def CN (w : World) (cv : Array Value) (P cnt : Nat) (W : World) : Prop := (∀ i, W.cell? ⟨w.heap.size, i, none⟩ = cv[i]?) ∧ W.cell? ⟨P + 1, 0, none⟩ = some (.int .i64 cnt)
theorem OP.cn (h : OP w cv stop base P vL L cnt W) : (∀ i, W.cell? ⟨w.heap.size, i, none⟩ = cv[i]?) ∧ W.cell? ⟨P + 1, 0, none⟩ = some (.int .i64 cnt) := ⟨cells_at h.ob.c, cells_at h.n 0⟩
theorem OP.cnset (h : OP w cv stop base P vL L cnt W) (v : Value) : (∀ i, (W.setCell ⟨w.heap.size + 1 + 1, 0, none⟩ v).cell? ⟨w.heap.size, i, none⟩ = cv[i]?) ∧ (W.setCell ⟨w.heap.size + 1 + 1, 0, none⟩ v).cell? ⟨P + 1, 0, none⟩ = some (.int .i64 cnt) := by
  have h1 := h.lo
  have hne : ∀ i, i ≠ w.heap.size + 1 + 1 → (W.setCell ⟨w.heap.size + 1 + 1, 0, none⟩ v).heap[i]? = W.heap[i]? := fun i hi => Below.heap_setCell _ _ _ _ hi
  exact ⟨cells_at ((hne _ (by omega)).trans h.ob.c), cells_at ((hne _ (by omega)).trans h.n) 0⟩
/-- The end. -/
theorem OP.end_ {D : Nat} {W2 : World} (h : OP w cv stop base P vL L cnt W2) (hD : P + 2 ≤ D) (hK : W2.heap[D]? = some (.deferred (some []))) :
    (W2.setCell ⟨w.heap.size + 1 + 1, 0, none⟩ (.bool true)).heap[D]? = some (.deferred (some [])) ∧ (W2.setCell ⟨w.heap.size + 1 + 1, 0, none⟩ (.bool true)).heap[w.heap.size + 1 + 1]? = some (.cells #[.bool true] 4 (0, 0)) ∧ w.heap.size + 1 + 1 ≠ D ∧
      Below w.heap.size w ((W2.setCell ⟨w.heap.size + 1 + 1, 0, none⟩ (.bool true)).putObj D (.deferred none)) := by
  have h1 := h.lo
  have h2 := h.ob.set true
  exact ⟨(Below.heap_setCell _ _ _ _ (by show D ≠ w.heap.size + 1 + 1; omega)).trans hK, h2.2, by omega, h2.1.trans (below_put _ (by omega))⟩
end
theorem pre_get {pre L : List Nat} {x : Nat} (hp : pre ++ [x] <+: L) : L[pre.length]? = some x ∧ pre.length < L.length := by
  obtain ⟨t, rfl⟩ := hp
  simp
set_option maxRecDepth 100000 in
set_option maxHeartbeats 8000000 in
theorem orders_law (x : CoD) (va fa ia : Option Addr) (vc fc ic : Nat) (k stop : Int) (w : World) (hC : CoM w x va fa ia) :
    Calls Try.prog 4 #[.agg (CoV x va vc fa fc ia ic), .int .i64 k, .int .i64 stop] w fun e w' => e = .returned (.bool true) ∧ Hid (Below w.heap.size w w') := by
  have HS := hid (OB.start w (CoV x va vc fa fc ia ic) stop)
  have HC := hid hC
  obtain ⟨L, hL⟩ := from_is x k
  obtain ⟨O, hO⟩ := order_is x
  have HL := hid hL
  have HO := hid hO
  clear hC hL hO
  refine (callsIn_wide (n := 10)).1 ?_
  refine callsIn_of_wp_marks Try.func4 rfl trivial ?_ rfl
  simp only [Try.ntmps4, List.size_toArray, List.length_cons, List.length_nil, Nat.reduceAdd, Nat.reduceSub, Array.replicate_succ, Array.replicate_zero, List.push_toArray, List.append_toArray, List.nil_append, List.cons_append]
  refine wpIn_wide.2 ?_
  go_wp2_with (first
    | (go_at_call 8; refine (alive_i _).mono ?_; rintro e w1 ⟨rfl, hb⟩; have H1 := hid (HS.out.later hb.out); have hc1 := cells_at H1.out.c; clear HS hb)
    | (go_at_call 7; go_must (refine (light8 x va fa ia vc fc ic _ (HC.out.later H1.out.bel)).mono ?_); rintro e w2 ⟨⟨l, rfl, hl⟩, hb⟩; have H2 := hid (H1.out.later hb.out); have HLt := hid hl; have hxc := cells_at H2.out.c; clear hb hl hc1))
  all_goals clear H1
  · have hr2 := frozen_no H2.out.r 0
    have hr3 := cells_at H2.out.r
    go_wp2_with (go_at_call 8; refine (alive_i _).mono ?_; rintro e w3 ⟨rfl, hb⟩; have H3 := hid (H2.out.later hb.out); clear hb; have hr4 := frozen_no H3.out.r 0; have hr5 := cells_at H3.out.r)
    have e := H3.out.set true
    exact ⟨_, res4 (b := w.heap.size + 1 + 1) (v := .bool true) rfl e.2, rfl, hid e.1⟩
  · have hn := HLt.out (by cases l <;> simp_all)
    have HN : Hid (x.ins.length ≤ 150) := hid hn
    have HRF := hid (rfrom_f x va fa ia vc fc ic w w2 k L (by omega) HC.out.ins H2.out.bel HL.out)
    clear HLt hn
    go_wp2_with (first
      | (go_at_call 15; go_must (refine HRF.out.mono ?_); rintro e w3 ⟨v, rfl, ho, hb⟩; have H3 := hid (H2.out.later hb.out); obtain ⟨A, c, rfl⟩ := own_slice ho.out; have HR3 := hid ho.out; have hx3 := cells_at (lay (below2 w3 (.cells #[.slice A L.length c] 27) (.cells #[.int .i64 0] 3)) H3.out.c); clear ho hb hxc)
      | (go_at_call 16; refine (from_f _ rfl k _).mono ?_; rintro e w4 ⟨rfl, rfl⟩))
    have hch := chain4 w3 #[.slice A L.length c] #[.int .i64 ((0 : Nat) : Int)] (CoV x va vc fa fc ia ic) #[.int .i64 k] 27 3 30 3
    have hch5 := chain5 w3 #[.slice A L.length c] #[.int .i64 ((0 : Nat) : Int)] (CoV x va vc fa fc ia ic) #[.int .i64 k] 27 3 30 3
    have hb4 := below4a w3 (.cells #[.slice A L.length c] 27) (.cells #[.int .i64 ((0 : Nat) : Int)] 3) (.cells (CoV x va vc fa fc ia ic) 30) (.cells #[.int .i64 k] 3)
    have hsz : ((((w3.alloc (.cells #[.slice A L.length c] 27)).alloc (.cells #[.int .i64 ((0 : Nat) : Int)] 3)).alloc (.cells (CoV x va vc fa fc ia ic) 30)).alloc (.cells #[.int .i64 k] 3)).heap.size = w3.heap.size + 4 := by simp
    have hOP : OP w (CoV x va vc fa fc ia ic) stop w2.heap.size w3.heap.size (.slice A L.length c) L 0 ((((w3.alloc (.cells #[.slice A L.length c] 27)).alloc (.cells #[.int .i64 ((0 : Nat) : Int)] 3)).alloc (.cells (CoV x va vc fa fc ia ic) 30)).alloc (.cells #[.int .i64 k] 3)) :=
      ⟨H3.out.later hb4, hch.1, hch5.1, row_at HR3.out (fun g q => hb4.block g (row_lt HR3.out q).2), fun g q => (row_lt HR3.out q).2, H3.out.size⟩
    obtain ⟨W0, hW0⟩ : ∃ W0, ((((w3.alloc (.cells #[.slice A L.length c] 27)).alloc (.cells #[.int .i64 0] 3)).alloc (.cells #[.string x.nm, .int .i64 x.pr, .slice va x.vs.length vc, .bool x.rt.t.p, .string x.rt.t.name, .int .i64 x.rt.cls, .slice fa x.fr.length fc, .slice ia x.ins.length ic] 30)).alloc (.cells #[.int .i64 k] 3)) = W0 := ⟨_, rfl⟩
    have hW0' : ((((w3.alloc (.cells #[.slice A L.length c] 27)).alloc (.cells #[.int .i64 ((0 : Nat) : Int)] 3)).alloc (.cells (CoV x va vc fa fc ia ic) 30)).alloc (.cells #[.int .i64 k] 3)) = W0 := hW0
    rw [hW0'] at hch hch5 hsz hOP
    rw [hW0]
    have hO0 : Below w.heap.size w W0 := hOP.ob.bel
    have hseq := from_s 9 (by decide) x va fa ia vc fc ic w W0 k (w3.heap.size + 1 + 1) (w3.heap.size + 1 + 1 + 1) (w3.heap.size + 1) L (by have := HN.out; omega) HC.out.ins (by have := H3.out.size; omega) (by omega) hO0 hch.2.1 hch.2.2 HL.out
    obtain ⟨P, hP⟩ : ∃ P, w3.heap.size = P := ⟨_, rfl⟩
    rw [hP] at hOP hsz hseq ⊢
    have HOP := hid hOP
    have HSZ := hid hsz
    have HLL : Hid (L.length ≤ 150) := hid (by
      have h1 := HL.out
      have h2 := HN.out
      rcases h1 with ⟨-, rfl⟩ | ⟨a, l', -, ha, hw⟩
      · simp
      · have := hw.len ha; omega)
    have HLO : Hid (O.length ≤ 9223372036854775807) := hid (by have := HO.out.facts.2.2; have := HN.out; omega)
    have HOF := hid (fun W hb => order_f x va fa ia vc fc ic w W O (by have := HN.out; omega) HC.out.ins hb HO.out)
    have HRO := hid (fun W hb => rorder_f x va fa ia vc fc ic w W O (by have := HN.out; omega) HC.out.ins hb HO.out)
    clear hch hch5 hsz hOP hW0 hW0' hO0 hP hb4 hx3 H2 H3 HR3 HRF
    refine (wpIn_wide (n := 10)).1 ?_
    refine range_low 10 (by decide) (gf := 28) (lb := #[.pointer (some ⟨P + 1 + 1, 0, none⟩), .pointer (some ⟨P + 1 + 1 + 1, 0, none⟩)]) rfl (enters_of Try.func28 (by kernel_rfl) rfl) hseq (by have := HSZ.out; omega) (fun _ => rfl)
      (fun pre W => OP w (CoV x va vc fa fc ia ic) stop w2.heap.size P (.slice A L.length c) L pre.length W ∧ ¬ (0 < stop ∧ stop ≤ pre.length))
      (fun cc pre W => cc = .exit 0 ∧ OP w (CoV x va vc fa fc ia ic) stop w2.heap.size P (.slice A L.length c) L pre.length W ∧ stop = pre.length ∧ 0 < pre.length)
      (fun pre A B h hb => ⟨h.1.low hb (by have := HSZ.out; omega), h.2⟩) (fun cc pre A B h hb => ⟨h.1, h.2.1.low hb (by have := HSZ.out; omega), h.2.2⟩)
      ⟨HOP.out, by simp only [List.length_nil]; omega⟩
      (fun y => { tmps := #[Value.agg (CoV x va vc fa fc ia ic), Value.int .i64 k, Value.int .i64 stop, Value.pointer (some ⟨w.heap.size, 0, none⟩), undef, Value.pointer (some ⟨w.heap.size + 1, 0, none⟩), Value.pointer (some ⟨w.heap.size + 1 + 1, 0, none⟩), Value.pointer (some ⟨P, 0, none⟩), Value.pointer (some ⟨P + 1, 0, none⟩), Value.int .i64 (y : Int), undef, Value.bool true, Value.bool false, Value.agg #[.string x.nm, .int .i64 x.pr, .slice va x.vs.length vc, .bool x.rt.t.p, .string x.rt.t.name, .int .i64 x.rt.cls, .slice fa x.fr.length fc, .slice ia x.ins.length ic], Value.bool l, Value.bool false, undef, Value.agg #[.string x.nm, .int .i64 x.pr, .slice va x.vs.length vc, .bool x.rt.t.p, .string x.rt.t.name, .int .i64 x.rt.cls, .slice fa x.fr.length fc, .slice ia x.ins.length ic], Value.int .i64 k, Value.slice A L.length c, Value.agg #[.string x.nm, .int .i64 x.pr, .slice va x.vs.length vc, .bool x.rt.t.p, .string x.rt.t.name, .int .i64 x.rt.cls, .slice fa x.fr.length fc, .slice ia x.ins.length ic], Value.int .i64 k, Value.func (.func 28) #[] #[.pointer (some ⟨P + 1 + 1, 0, none⟩), .pointer (some ⟨P + 1 + 1 + 1, 0, none⟩)], Value.int .i64 (y : Int), undef, undef, undef, undef, undef, undef, undef, undef, undef, undef, undef, undef, undef, undef, undef, undef, undef, undef, undef, undef, undef, undef, undef, undef, undef, undef, undef, undef, undef, undef, undef, undef, undef, undef, undef, undef, undef, undef, undef, undef], defers := [] })
      ?assign ?body ?done ?stop
    case assign =>
      intro lr y W K hK
      gi_wp2
      exact hK
    case body =>
      rintro lr pre y W hpre hsz ⟨hp, hst⟩
      obtain ⟨hy, hlt⟩ := pre_get hpre
      obtain ⟨b1, rfl, hb1, -, hc1⟩ := ownN_cell hp.row hy
      have hs9 := cells_at hp.ob.s
      have hl9 := cells_at hp.l
      have hn9 := cells_at hp.n
      have hnf := frozen_no hp.n 0
      have HP := hid hp
      have HSt := hid hst
      have hlt4 : ¬ (L.length : Int) ≤ (pre.length : Int) := by omega
      have hlt5 : (pre.length : Int) < (L.length : Int) := by omega
      have hp9 : pre.length < 1000 := by have := HLL.out; omega
      have HE9 := hid (HP.out.count ((pre.length : Int) + 1) (by omega))
      have hs10 := cells_at HE9.out.ob.s
      have hn10 := cells_at HE9.out.n
      have hyy : ((y : Int) != (y : Int)) = false := by simp
      clear hp hst hy hpre hb1
      cases e3 : (((pre.length : Int) + 1) == stop)
      case true =>
        gi_wp2
        exact ⟨⟨by simp [World.setCell], fun i h1 h2 => Below.heap_setCell _ _ _ _ (by show i ≠ P + 1; have := HSZ.out; omega)⟩, rfl, by rw [List.length_append]; exact HE9.out, by simp at e3; rw [← e3]; simp, by simp⟩
      case false =>
        gi_wp2
        exact ⟨⟨rfl, rfl, rfl, by simp [World.setCell], fun i h1 h2 => Below.heap_setCell _ _ _ _ (fun e => h2 (by rw [e]))⟩, by rw [List.length_append]; exact HE9.out, fun h0 => by have h4 := HSt.out; have h5 : (pre ++ [y]).length = pre.length + 1 := (by simp); simp at e3; omega⟩
    case done =>
      rintro W ⟨hp, hst⟩ hK
      have hs9 := cells_at hp.ob.s
      have hl9 := cells_at hp.l
      have hn9 := cells_at hp.n
      have HI := hid hp
      have HK := hid hK
      clear hp hK
      have eLL : ((L.length : Int) == (L.length : Int)) = true := by simp
      by_cases h0 : 0 < stop
      · have h1 : ¬ stop < (L.length : Int) := by omega
        clear hst
        go_wp2
        have HP0 := hid HI.out.drew
        have HK0 : Hid (W.drew.heap[W0.heap.size]? = some (.deferred (some []))) := hid HK.out
        have hcn := HI.out.cn
        have T1 : True := trivial
        go_region_held3 (fun W => (∀ i, W.cell? ⟨w.heap.size, i, none⟩ = (CoV x va vc fa fc ia ic)[i]?) ∧ W.cell? ⟨P + 1, 0, none⟩ = some (.int .i64 (L.length : Int)))
          (first | exact HP0.out.cn | exact HP1.out.cn | exact HP2.out.cn | exact HP3.out.cn | exact HP4.out.cn | exact HP4.out.cnset _)
          (first
          | (go_at_call 18; have tok := HP0; clear HP0; have tk := HK0; clear HK0; go_must (refine (HOF.out _ tok.out.ob.bel).mono ?_); rintro e v0 ⟨u, rfl, hu, hb⟩; have HP1 := hid (tok.out.later hb.out); have HK1 := hid ((hb.out.block _ (Array.getElem?_eq_some_iff.1 tk.out).1).trans tk.out); have HU := hid (isN_own hu.out HLO.out); clear hb tok tk hu)
          | (go_at_call 19; have tok := HP1; clear HP1; have tk := HK1; clear HK1; go_must (refine (HRO.out _ tok.out.ob.bel).mono ?_); rintro e v1 ⟨u2, rfl, hu, hb⟩; have HP2 := hid (tok.out.later hb.out); have HK2 := hid ((hb.out.block _ (Array.getElem?_eq_some_iff.1 tk.out).1).trans tk.out); have HU2 := hid (isN_own hu.out HLO.out); have HU := hid (HU.out.later hb.out); clear hb tok tk hu)
          | (go_at_call 17; have tok := HP2; clear HP2; have tk := HK2; clear HK2; go_must (refine (same_n HU.out HU2.out).mono ?_); rintro e v2 ⟨rfl, hb⟩; have HP3 := hid (tok.out.later hb.out); have HK3 := hid ((hb.out.block _ (Array.getElem?_eq_some_iff.1 tk.out).1).trans tk.out); clear hb tok tk)
          | (go_at_call 8; have tok := HP3; clear HP3; have tk := HK3; clear HK3; go_must (refine (alive_i _).mono ?_); rintro e v3 ⟨rfl, hb⟩; have HP4 := hid (tok.out.later hb.out); have HK4 := hid ((hb.out.block _ (Array.getElem?_eq_some_iff.1 tk.out).1).trans tk.out); have hrc := cells_at HP4.out.ob.r; have hrf := frozen_no HP4.out.ob.r 0; clear hb tok tk))
        all_goals
          go_wp2
          have e := HP4.out.end_ (by have := HSZ.out; omega) HK4.out
          exact leave4 (S := W0.heap.size) (b := w.heap.size + 1 + 1) (v := .bool true) e.1 rfl e.2.1 e.2.2.1 ⟨rfl, hid e.2.2.2⟩
      · clear hst
        go_wp2
        have HP0 := hid HI.out.drew
        have HK0 : Hid (W.drew.heap[W0.heap.size]? = some (.deferred (some []))) := hid HK.out
        have hcn := HI.out.cn
        have T1 : True := trivial
        go_region_held3 (fun W => (∀ i, W.cell? ⟨w.heap.size, i, none⟩ = (CoV x va vc fa fc ia ic)[i]?) ∧ W.cell? ⟨P + 1, 0, none⟩ = some (.int .i64 (L.length : Int)))
          (first | exact HP0.out.cn | exact HP1.out.cn | exact HP2.out.cn | exact HP3.out.cn | exact HP4.out.cn | exact HP4.out.cnset _)
          (first
          | (go_at_call 18; have tok := HP0; clear HP0; have tk := HK0; clear HK0; go_must (refine (HOF.out _ tok.out.ob.bel).mono ?_); rintro e v0 ⟨u, rfl, hu, hb⟩; have HP1 := hid (tok.out.later hb.out); have HK1 := hid ((hb.out.block _ (Array.getElem?_eq_some_iff.1 tk.out).1).trans tk.out); have HU := hid (isN_own hu.out HLO.out); clear hb tok tk hu)
          | (go_at_call 19; have tok := HP1; clear HP1; have tk := HK1; clear HK1; go_must (refine (HRO.out _ tok.out.ob.bel).mono ?_); rintro e v1 ⟨u2, rfl, hu, hb⟩; have HP2 := hid (tok.out.later hb.out); have HK2 := hid ((hb.out.block _ (Array.getElem?_eq_some_iff.1 tk.out).1).trans tk.out); have HU2 := hid (isN_own hu.out HLO.out); have HU := hid (HU.out.later hb.out); clear hb tok tk hu)
          | (go_at_call 17; have tok := HP2; clear HP2; have tk := HK2; clear HK2; go_must (refine (same_n HU.out HU2.out).mono ?_); rintro e v2 ⟨rfl, hb⟩; have HP3 := hid (tok.out.later hb.out); have HK3 := hid ((hb.out.block _ (Array.getElem?_eq_some_iff.1 tk.out).1).trans tk.out); clear hb tok tk)
          | (go_at_call 8; have tok := HP3; clear HP3; have tk := HK3; clear HK3; go_must (refine (alive_i _).mono ?_); rintro e v3 ⟨rfl, hb⟩; have HP4 := hid (tok.out.later hb.out); have HK4 := hid ((hb.out.block _ (Array.getElem?_eq_some_iff.1 tk.out).1).trans tk.out); have hrc := cells_at HP4.out.ob.r; have hrf := frozen_no HP4.out.ob.r 0; clear hb tok tk))
        all_goals
          go_wp2
          have e := HP4.out.end_ (by have := HSZ.out; omega) HK4.out
          exact leave4 (S := W0.heap.size) (b := w.heap.size + 1 + 1) (v := .bool true) e.1 rfl e.2.1 e.2.2.1 ⟨rfl, hid e.2.2.2⟩
    case stop =>
      rintro cc pre W hpre ⟨rfl, hp, hst, hpos⟩ hK
      have hle := hpre.length_le
      have hs9 := cells_at hp.ob.s
      have hl9 := cells_at hp.l
      have hn9 := cells_at hp.n
      have HI := hid hp
      have HK := hid hK
      have h0 : 0 < stop := by omega
      clear hp hK hpre
      by_cases h1 : stop < (L.length : Int)
      · have h2 : ((pre.length : Int) == stop) = true := by simp; omega
        have HST := hid hst
        clear hst
        refine wpIn_wide.2 ?_
        go_wp2
        have HP0 := hid HI.out.drew
        have HK0 : Hid (W.drew.heap[W0.heap.size]? = some (.deferred (some []))) := hid HK.out
        have hcn := HI.out.cn
        have T1 : True := trivial
        go_region_held3 (fun W => (∀ i, W.cell? ⟨w.heap.size, i, none⟩ = (CoV x va vc fa fc ia ic)[i]?) ∧ W.cell? ⟨P + 1, 0, none⟩ = some (.int .i64 (pre.length : Int)))
          (first | exact HP0.out.cn | exact HP1.out.cn | exact HP2.out.cn | exact HP3.out.cn | exact HP4.out.cn | exact HP4.out.cnset _)
          (first
          | (go_at_call 18; have tok := HP0; clear HP0; have tk := HK0; clear HK0; go_must (refine (HOF.out _ tok.out.ob.bel).mono ?_); rintro e v0 ⟨u, rfl, hu, hb⟩; have HP1 := hid (tok.out.later hb.out); have HK1 := hid ((hb.out.block _ (Array.getElem?_eq_some_iff.1 tk.out).1).trans tk.out); have HU := hid (isN_own hu.out HLO.out); clear hb tok tk hu)
          | (go_at_call 19; have tok := HP1; clear HP1; have tk := HK1; clear HK1; go_must (refine (HRO.out _ tok.out.ob.bel).mono ?_); rintro e v1 ⟨u2, rfl, hu, hb⟩; have HP2 := hid (tok.out.later hb.out); have HK2 := hid ((hb.out.block _ (Array.getElem?_eq_some_iff.1 tk.out).1).trans tk.out); have HU2 := hid (isN_own hu.out HLO.out); have HU := hid (HU.out.later hb.out); clear hb tok tk hu)
          | (go_at_call 17; have tok := HP2; clear HP2; have tk := HK2; clear HK2; go_must (refine (same_n HU.out HU2.out).mono ?_); rintro e v2 ⟨rfl, hb⟩; have HP3 := hid (tok.out.later hb.out); have HK3 := hid ((hb.out.block _ (Array.getElem?_eq_some_iff.1 tk.out).1).trans tk.out); clear hb tok tk)
          | (go_at_call 8; have tok := HP3; clear HP3; have tk := HK3; clear HK3; go_must (refine (alive_i _).mono ?_); rintro e v3 ⟨rfl, hb⟩; have HP4 := hid (tok.out.later hb.out); have HK4 := hid ((hb.out.block _ (Array.getElem?_eq_some_iff.1 tk.out).1).trans tk.out); have hrc := cells_at HP4.out.ob.r; have hrf := frozen_no HP4.out.ob.r 0; clear hb tok tk))
        all_goals
          go_wp2
          have e := HP4.out.end_ (by have := HSZ.out; omega) HK4.out
          exact leave4 (S := W0.heap.size) (b := w.heap.size + 1 + 1) (v := .bool true) e.1 rfl e.2.1 e.2.2.1 ⟨rfl, hid e.2.2.2⟩
      · have h2 : ((pre.length : Int) == (L.length : Int)) = true := by simp; omega
        have HST := hid hst
        clear hst
        refine wpIn_wide.2 ?_
        go_wp2
        have HP0 := hid HI.out.drew
        have HK0 : Hid (W.drew.heap[W0.heap.size]? = some (.deferred (some []))) := hid HK.out
        have hcn := HI.out.cn
        have T1 : True := trivial
        go_region_held3 (fun W => (∀ i, W.cell? ⟨w.heap.size, i, none⟩ = (CoV x va vc fa fc ia ic)[i]?) ∧ W.cell? ⟨P + 1, 0, none⟩ = some (.int .i64 (pre.length : Int)))
          (first | exact HP0.out.cn | exact HP1.out.cn | exact HP2.out.cn | exact HP3.out.cn | exact HP4.out.cn | exact HP4.out.cnset _)
          (first
          | (go_at_call 18; have tok := HP0; clear HP0; have tk := HK0; clear HK0; go_must (refine (HOF.out _ tok.out.ob.bel).mono ?_); rintro e v0 ⟨u, rfl, hu, hb⟩; have HP1 := hid (tok.out.later hb.out); have HK1 := hid ((hb.out.block _ (Array.getElem?_eq_some_iff.1 tk.out).1).trans tk.out); have HU := hid (isN_own hu.out HLO.out); clear hb tok tk hu)
          | (go_at_call 19; have tok := HP1; clear HP1; have tk := HK1; clear HK1; go_must (refine (HRO.out _ tok.out.ob.bel).mono ?_); rintro e v1 ⟨u2, rfl, hu, hb⟩; have HP2 := hid (tok.out.later hb.out); have HK2 := hid ((hb.out.block _ (Array.getElem?_eq_some_iff.1 tk.out).1).trans tk.out); have HU2 := hid (isN_own hu.out HLO.out); have HU := hid (HU.out.later hb.out); clear hb tok tk hu)
          | (go_at_call 17; have tok := HP2; clear HP2; have tk := HK2; clear HK2; go_must (refine (same_n HU.out HU2.out).mono ?_); rintro e v2 ⟨rfl, hb⟩; have HP3 := hid (tok.out.later hb.out); have HK3 := hid ((hb.out.block _ (Array.getElem?_eq_some_iff.1 tk.out).1).trans tk.out); clear hb tok tk)
          | (go_at_call 8; have tok := HP3; clear HP3; have tk := HK3; clear HK3; go_must (refine (alive_i _).mono ?_); rintro e v3 ⟨rfl, hb⟩; have HP4 := hid (tok.out.later hb.out); have HK4 := hid ((hb.out.block _ (Array.getElem?_eq_some_iff.1 tk.out).1).trans tk.out); have hrc := cells_at HP4.out.ob.r; have hrf := frozen_no HP4.out.ob.r 0; clear hb tok tk))
        all_goals
          go_wp2
          have e := HP4.out.end_ (by have := HSZ.out; omega) HK4.out
          exact leave4 (S := W0.heap.size) (b := w.heap.size + 1 + 1) (v := .bool true) e.1 rfl e.2.1 e.2.2.1 ⟨rfl, hid e.2.2.2⟩
end Go.Proofs.Ytbmjhkimeeahhaa
