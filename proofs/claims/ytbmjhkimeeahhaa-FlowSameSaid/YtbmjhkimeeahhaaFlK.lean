/- The stack of a walk as deep as it can go, in memory, beside what its caller's functions write. No conditions. -/
import Derived.Test.YtbmjhkimeeahhaaFlG
import Derived.Laws.OwnMore
namespace Go.Proofs.Ytbmjhkimeeahhaa
open Go.RowKit Go.Maps
set_option linter.unusedVariables false
set_option linter.unusedSimpArgs false
/-- A new slice of numbers, as long as its block. -/
def NewEd (N : Nat) (W : World) (v : Value) (L : List Int) : Prop :=
  (L = [] ∧ v = .slice none 0 0) ∨ ∃ b cs, v = .slice (some ⟨b, 0, none⟩) L.length L.length ∧ N ≤ b ∧ W.heap[b]? = some (.cells cs 3 (0, 0)) ∧ cs.toList = L.map (Value.int .i64)
theorem new_ed (w : World) (o : Obj) (L : List Int) (cs : Array Value) (hc : cs.toList = L.map (Value.int .i64)) (n : Nat) (hn : L.length = n) : NewEd w.heap.size ((w.alloc o).alloc (.cells cs 3)) (.slice (some ⟨w.heap.size + 1, 0, none⟩) n n) L := by
  subst hn
  refine .inr ⟨w.heap.size + 1, cs, rfl, by omega, ?_, hc⟩
  have := heap_alloc_new (w.alloc o) (.cells cs 3)
  rwa [World.size_alloc] at this
set_option maxRecDepth 100000 in
set_option maxHeartbeats 4000000 in
theorem next_c (r : InD) (q : Int) (h0 : 0 ≤ q) (h1 : q < 1000000) (ao mo : Option Addr) (ac mc : Nat) (w : World) :
    Calls Try.prog 37 #[.agg (InV r ao ac mo mc), .int .i64 q] w fun e w' => ∃ v, e = .returned v ∧ Hid (NewEd w.heap.size w' v (nextL r q)) ∧ Hid (Below w.heap.size w w') := by
  obtain ⟨op, d, a, b, tt, el, f, n, l, c, sg, xs, ms⟩ := r
  have HB := hid (below2 w)
  have HB1 := hid (below1 w)
  by_cases o16 : op = 16
  · subst o16
    go_enter Try.func37, Try.ntmps37
    go_wp2
    go_ret
    exact ⟨_, rfl, hid (by rw [nextL_16]; exact new_ed _ _ [tt] _ rfl 1 rfl), hid (HB.out _ _)⟩
  by_cases o17 : op = 17
  · subst o17
    by_cases e : tt = el
    · have e' : (tt == el) = true := by simpa using e
      have HE := hid e
      clear e
      go_enter Try.func37, Try.ntmps37
      go_wp2
      go_ret
      exact ⟨_, rfl, hid (by rw [nextL_17a HE.out]; exact new_ed _ _ [tt] _ rfl 1 rfl), hid (HB.out _ _)⟩
    · have e' : (tt == el) = false := by simpa using e
      have HE := hid e
      clear e
      go_enter Try.func37, Try.ntmps37
      go_wp2
      go_ret
      exact ⟨_, rfl, hid (by rw [nextL_17b HE.out]; exact new_ed _ _ [tt, el] _ rfl 2 rfl), hid (HB.out _ _)⟩
  by_cases o18 : op = 18
  · subst o18
    go_enter Try.func37, Try.ntmps37
    go_wp2
    go_ret
    exact ⟨_, rfl, hid (by rw [nextL_18]; exact .inl ⟨rfl, rfl⟩), hid (HB1.out _)⟩
  have hwr : IntKind.i64.wrap (q + 1) = q + 1 := by rw [IntKind.wrap_i64]; omega
  have hq : (q == 9223372036854775807) = false := by simp; omega
  go_enter Try.func37, Try.ntmps37
  go_wp2
  go_ret
  exact ⟨_, rfl, hid (by rw [nextL_else o16 o17 o18]; exact new_ed _ _ [q + 1] _ rfl 1 rfl), hid (HB.out _ _)⟩
/-- An entry of the stack: a place, and the edges that are left, where they lie. -/
structure StE where
  (k : Nat) (A : Option Addr) (L : List Int)
abbrev stF (e : StE) : List Value := [.int .i64 e.k, .slice e.A e.L.length e.L.length]
theorem stF_len (e : StE) : (stF e).length = 2 := rfl
/-- Of the edges those to an instruction. -/
def toN (n : Nat) (L : List Int) : List Nat := (L.filter (inN n)).map Int.toNat
def runS (n : Nat) (S : List StE) : List (Nat × List Nat) := S.map fun e => (e.k, toN n e.L)
theorem toN_in {n : Nat} {y : Int} {L : List Int} (h : inN n y = true) : toN n (y :: L) = y.toNat :: toN n L := by simp [toN, List.filter, h]
theorem toN_out {n : Nat} {y : Int} {L : List Int} (h : inN n y = false) : toN n (y :: L) = toN n L := by simp [toN, List.filter, h]
theorem nxE_of {x : CoD} {k : Nat} {r : InD} (h : x.ins[k]? = some r) : toN x.ins.length (nextL r k) = nxE x k := by simp [toN, nxE, edgesL, h]
/-- Numbers in a block that the caller's functions do not write. -/
def EdM (W : World) (fp : World → Nat → Prop) (A : Option Addr) (L : List Int) : Prop :=
  L = [] ∨ ∃ b o cs, A = some ⟨b, o, none⟩ ∧ W.heap[b]? = some (.cells cs 3 (0, 0)) ∧ ¬ fp W b ∧ ∀ i y, L[i]? = some y → cs[o + i]? = some (.int .i64 y)
/-- What a function of the caller's leaves: blocks that it does not name lie as they lay, and what it names, is what it named, or new. -/
structure CalS (fp : World → Nat → Prop) (A B : World) : Prop where
  os : B.os = A.os
  tape : B.tape = A.tape
  output : B.output = A.output
  size : A.heap.size ≤ B.heap.size
  block : ∀ k, k < A.heap.size → ¬ fp A k → B.heap[k]? = A.heap[k]?
  fp : ∀ k, fp B k → fp A k ∨ A.heap.size ≤ k
/-- What a caller is: its facts, and the blocks that they speak of, bear whatever else a walk writes. -/
structure Cal (B0 N0 : Nat) (J : List Nat → List Nat → World → Prop) (fp : World → Nat → Prop) : Prop where
  keep : ∀ {s l A B}, J s l A → Below B0 A B → (∀ k, k < A.heap.size → fp A k → B.heap[k]? = A.heap[k]?) → J s l B ∧ ∀ k, fp B k ↔ fp A k
  lt : ∀ {s l A k}, J s l A → fp A k → N0 ≤ k ∧ k < A.heap.size
/-- What holds of memory while a walk goes on. -/
structure WS (B0 N0 C M n : Nat) (w0 : World) (J : List Nat → List Nat → World → Prop) (fp : World → Nat → Prop) (cv : Array Value) (W : World) (seen left : List Nat) (m : Met) (v : Value) (S : List StE) : Prop where
  j : J seen left W
  old : Below N0 w0 W
  box : W.heap[C]? = some (.cells cv 30 (0, 0))
  bl : BlM W M n m
  row : W.ownsRow B0 79 2 v S.length (S.reverse.flatMap stF)
  ed : ∀ e ∈ S, EdM W fp e.A e.L
  ap : ∀ k, fp W k → k ≠ C ∧ k ≠ M ∧ v.ownBlock ≠ some k
  lo : B0 ≤ C ∧ B0 ≤ M ∧ N0 ≤ B0 ∧ B0 ≤ W.heap.size
  ks : ∀ e ∈ S, e.k < n
section
variable {B0 N0 C M n : Nat} {w0 : World} {J : List Nat → List Nat → World → Prop} {fp : World → Nat → Prop} {cv : Array Value} {W W' : World} {seen left : List Nat} {m : Met} {v : Value} {S : List StE}
theorem row_not79 {base e size l : Nat} {v : Value} {xs : List Value} {b t : Nat} {cs : Array Value} (hr : W.ownsRow base e size v l xs) (hb : W.heap[b]? = some (.cells cs t (0, 0))) (ht : t ≠ e) : v.ownBlock ≠ some b := by
  intro q
  rcases hr.2 with ⟨e0, -⟩ | ⟨g', cap, cur, e0, -, h2, -⟩
  · rw [e0] at q; simp [Value.ownBlock] at q
  · rw [e0] at q
    simp [Value.ownBlock] at q
    subst q
    rw [hb] at h2
    injection h2 with h2
    injection h2 with _ h2
    exact ht h2
/-- A step of the walk's own. -/
theorem WS.step {m' : Met} {v' : Value} {S' : List StE} (hc : Cal B0 N0 J fp) (h : WS B0 N0 C M n w0 J fp cv W seen left m v S) (hb : Below B0 W W') (hk : ∀ k, k < W.heap.size → k ≠ M → v.ownBlock ≠ some k → W'.heap[k]? = W.heap[k]?)
    (hbl : BlM W' M n m') (hrow : W'.ownsRow B0 79 2 v' S'.length (S'.reverse.flatMap stF)) (hv : ∀ g, v'.ownBlock = some g → v.ownBlock = some g ∨ W.heap.size ≤ g) (hed : ∀ e ∈ S', (∀ k, fp W' k ↔ fp W k) → EdM W fp e.A e.L ∨ EdM W' fp e.A e.L) (hks : ∀ e ∈ S', e.k < n) :
    WS B0 N0 C M n w0 J fp cv W' seen left m' v' S' := by
  have hlt : ∀ k, fp W k → k < W.heap.size := fun k hf => (hc.lt h.j hf).2
  obtain ⟨j, hfp⟩ := hc.keep h.j hb (fun k hl hf => hk k hl (h.ap k hf).2.1 (h.ap k hf).2.2)
  have hM : ∀ {b t : Nat} {cs : Array Value}, W.heap[b]? = some (.cells cs t (0, 0)) → t ≠ 79 → t ≠ 4 → W'.heap[b]? = some (.cells cs t (0, 0)) := fun {b t cs} hb h1 h2 => by
    refine (hk b (Array.getElem?_eq_some_iff.1 hb).1 (fun e => ?_) (row_not79 h.row hb h1)).trans hb
    subst e
    obtain ⟨cs', h3, -⟩ := h.bl
    rw [h3] at hb
    injection hb with hb
    injection hb with _ hb
    exact h2 hb.symm
  refine ⟨j, h.old.trans (hb.mono h.lo.2.2.1), hM h.box (by decide) (by decide), hbl, hrow, fun e he => ?_, fun k hf => ?_, ⟨h.lo.1, h.lo.2.1, h.lo.2.2.1, Nat.le_trans h.lo.2.2.2 hb.size⟩, hks⟩
  · rcases hed e he hfp with (h0 | ⟨b, o, cs, e1, e2, e3, e4⟩) | h0
    · exact .inl h0
    · exact .inr ⟨b, o, cs, e1, hM e2 (by decide) (by decide), fun q => e3 ((hfp b).1 q), e4⟩
    · exact h0
  · have hf' := (hfp k).1 hf
    refine ⟨(h.ap k hf').1, (h.ap k hf').2.1, fun q => ?_⟩
    rcases hv k q with h1 | h1
    · exact (h.ap k hf').2.2 h1
    · have := hlt k hf'; omega
/-- A function of the caller's. -/
theorem WS.call {seen' left' : List Nat} (hc : Cal B0 N0 J fp) (h : WS B0 N0 C M n w0 J fp cv W seen left m v S) (hs : CalS fp W W') (hj : J seen' left' W') : WS B0 N0 C M n w0 J fp cv W' seen' left' m v S := by
  have hold : Below N0 W W' := ⟨hs.os, hs.tape, hs.output, hs.size, fun k hk => hs.block k (by have := h.lo; omega) (fun hf => by have := (hc.lt h.j hf).1; omega)⟩
  have hC := (Array.getElem?_eq_some_iff.1 h.box).1
  have hno : ∀ k, k < W.heap.size → ¬ fp W k → ¬ fp W' k := fun k hk hf hf' => by
    rcases hs.fp k hf' with h1 | h1
    · exact hf h1
    · omega
  refine ⟨hj, h.old.trans hold, (hs.block C hC (fun hf => (h.ap C hf).1 rfl)).trans h.box, h.bl.at (hs.block M h.bl.lt (fun hf => (h.ap M hf).2.1 rfl)), row_at h.row (fun g q => hs.block g (row_lt h.row q).2 (fun hf => (h.ap g hf).2.2 q)), fun e he => ?_, fun k hf => ?_, ⟨h.lo.1, h.lo.2.1, h.lo.2.2.1, Nat.le_trans h.lo.2.2.2 hs.size⟩, h.ks⟩
  · rcases h.ed e he with h0 | ⟨b, o, cs, e1, e2, e3, e4⟩
    · exact .inl h0
    · have hb := (Array.getElem?_eq_some_iff.1 e2).1
      exact .inr ⟨b, o, cs, e1, (hs.block b hb e3).trans e2, hno b hb e3, e4⟩
  · rcases hs.fp k hf with h1 | h1
    · exact h.ap k h1
    · refine ⟨by omega, by have := h.bl.lt; omega, fun q => ?_⟩
      have := (row_lt h.row q).2
      omega
/-- What is at the top of the stack. -/
theorem WS.top {e : StE} (h : WS B0 N0 C M n w0 J fp cv W seen left m v (e :: S)) : ∃ g cap, v = .slice (some ⟨g, 0, none⟩) (S.length + 1) cap ∧ W.cell? ⟨g, S.length * 2, none⟩ = some (.int .i64 e.k) ∧ W.cell? ⟨g, S.length * 2 + 1, none⟩ = some (.slice e.A e.L.length e.L.length) ∧ (∀ i, W.frozen? ⟨g, i, none⟩ = false) ∧ S.length + 1 ≤ cap := by
  have h0 := h.row
  rcases h.row.2 with ⟨-, h1⟩ | ⟨g, cap, cur, rfl, h1, h2, h3, h4, h5, h6⟩
  · simp at h1
  · have hl : ((e :: S).reverse.flatMap stF) = S.reverse.flatMap stF ++ stF e := by simp
    have hl2 : (S.reverse.flatMap stF).length = S.length * 2 := by rw [flat_len stF_len]; simp
    refine ⟨g, cap, rfl, ?_, ?_, fun i => h0.frozenAt i, by simpa using h3⟩
    · rw [h0.cellAt _ (by simp), hl, List.getElem?_append_right (by omega), hl2, Nat.sub_self]; rfl
    · rw [h0.cellAt _ (by simp; omega), hl, List.getElem?_append_right (by omega), hl2, show S.length * 2 + 1 - S.length * 2 = 1 by omega]; rfl
/-- The first edge that is left. -/
theorem EdM.first {A : Option Addr} {y : Int} {L : List Int} (h : EdM W fp A (y :: L)) : ∃ b o, A = some ⟨b, o, none⟩ ∧ W.cell? ⟨b, o, none⟩ = some (.int .i64 y) := by
  rcases h with h | ⟨b, o, cs, h1, h2, -, h4⟩
  · cases h
  · exact ⟨b, o, h1, by rw [cells_at h2]; exact h4 0 y rfl⟩
theorem EdM.rest {b o : Nat} {y : Int} {L : List Int} (h : EdM W fp (some ⟨b, o, none⟩) (y :: L)) (A : Option Addr) (hA : L ≠ [] → A = some ⟨b, o + 1, none⟩) : EdM W fp A L := by
  rcases h with h | ⟨b', o', cs, h1, h2, h3, h4⟩
  · cases h
  · cases h1
    by_cases hL : L = []
    · exact .inl hL
    · exact .inr ⟨b, o + 1, cs, hA hL, h2, h3, fun i u hu => by have := h4 (i + 1) u hu; rwa [show o + 1 + i = o + (i + 1) by omega]⟩
theorem EdM.new {v : Value} {L : List Int} {N : Nat} (h : NewEd N W v L) (hf : ∀ k, fp W k → k < N) : ∃ A, v = .slice A L.length L.length ∧ EdM W fp A L := by
  rcases h with ⟨rfl, rfl⟩ | ⟨b, cs, rfl, h1, h2, h3⟩
  · exact ⟨none, rfl, .inl rfl⟩
  · refine ⟨_, rfl, .inr ⟨b, 0, cs, rfl, h2, fun q => by have := hf b q; omega, fun i y hy => ?_⟩⟩
    rw [Nat.zero_add, ← Array.getElem?_toList, h3, List.getElem?_map, hy]
    rfl
/-- A place is met. -/
theorem WS.met (hc : Cal B0 N0 J fp) (h : WS B0 N0 C M n w0 J fp cv W seen left m v S) (k : Nat) : WS B0 N0 C M n w0 J fp cv (W.setCell ⟨M, k, none⟩ (.bool true)) seen left (mark m k) v S := by
  have hne : ∀ i, i ≠ M → (W.setCell ⟨M, k, none⟩ (.bool true)).heap[i]? = W.heap[i]? := fun i hi => Below.heap_setCell _ _ _ _ hi
  refine h.step hc ((Below.refl _ _).setCell (p := ⟨M, k, none⟩) h.lo.2.1 _) (fun i _ hi _ => hne i hi) (h.bl.set k) (row_at h.row (fun g q => hne g (fun e => h.bl.not h.row (by decide) (e ▸ q)))) (fun g q => .inl q) (fun e he _ => .inl (h.ed e he)) h.ks
/-- Whatever is new changes nothing. -/
theorem WS.later (hc : Cal B0 N0 J fp) (h : WS B0 N0 C M n w0 J fp cv W seen left m v S) (hb : Below W.heap.size W W') : WS B0 N0 C M n w0 J fp cv W' seen left m v S :=
  h.step hc (hb.mono h.lo.2.2.2) (fun k hk _ _ => hb.block k hk) (h.bl.later hb) (row_at h.row (fun g q => hb.block g (row_lt h.row q).2)) (fun g q => .inl q) (fun e he _ => .inl (h.ed e he)) h.ks
/-- One more on the stack. -/
theorem WS.push {e : StE} {v' : Value} (hc : Cal B0 N0 J fp) (h : WS B0 N0 C M n w0 J fp cv W seen left m v S) (hrow : W'.ownsRow B0 79 2 v' (S.length + 1) (S.reverse.flatMap stF ++ stF e)) (hg : W.grownBy W' v.ownBlock) (hv : v'.ownBlock = v.ownBlock ∨ v'.ownBlock = some W.heap.size) (he : EdM W fp e.A e.L) (hk : e.k < n) :
    WS B0 N0 C M n w0 J fp cv W' seen left m v' (e :: S) := by
  have hb : Below B0 W W' := (Below.refl _ _).grown hg h.lo.2.2.2 (fun k q => (row_lt h.row q).1)
  refine h.step hc hb (fun k hl h1 h2 => hg.block k hl (fun q => h2 q.symm)) (h.bl.grown hg (h.bl.not h.row (by decide))) (by simpa using hrow) (fun g q => ?_) (fun e' he' _ => ?_) (fun e' he' => ?_)
  · rcases hv with h1 | h1
    · exact .inl (h1 ▸ q)
    · rw [h1] at q; cases q; exact .inr (Nat.le_refl _)
  · rcases List.mem_cons.1 he' with rfl | he'
    · exact .inl he
    · exact .inl (h.ed e' he')
  · rcases List.mem_cons.1 he' with rfl | he'
    · exact hk
    · exact h.ks e' he'
/-- The top is left. -/
theorem WS.pop {e : StE} {g cap : Nat} (hc : Cal B0 N0 J fp) (h : WS B0 N0 C M n w0 J fp cv W seen left m (.slice (some ⟨g, 0, none⟩) (S.length + 1) cap) (e :: S)) : WS B0 N0 C M n w0 J fp cv W seen left m (.slice (some ⟨g, 0, none⟩) S.length cap) S := by
  have hl : ((e :: S).reverse.flatMap stF) = S.reverse.flatMap stF ++ stF e := by simp
  have hl2 : (S.reverse.flatMap stF).length = S.length * 2 := by rw [flat_len stF_len]; simp
  refine h.step hc (Below.refl _ _) (fun _ _ _ _ => rfl) h.bl ⟨hl2, ?_⟩ (fun g q => .inl q) (fun e' he' _ => .inl (h.ed e' (List.mem_cons_of_mem _ he'))) (fun e' he' => h.ks e' (List.mem_cons_of_mem _ he'))
  rcases h.row.2 with ⟨h1, -⟩ | ⟨g', cap', cur, e1, h1, h2, h3, h4, h5, h6⟩
  · cases h1
  · injection e1 with e1 _ e2
    injection e1 with e1
    injection e1 with e1
    subst e1 e2
    refine .inr ⟨g, cap, cur, rfl, h1, h2, by simp at h3; omega, h4, h5, ?_⟩
    rw [hl] at h6
    have := congrArg (List.take (S.length * 2)) h6
    rw [List.take_take, List.take_append_of_le_length (by omega), show min (S.length * 2) ((e :: S).length * 2) = S.length * 2 by simp] at this
    rw [this, List.take_of_length_le (by omega)]
/-- An edge of the top is gone. -/
theorem WS.edge {e : StE} {A' : Option Addr} {y : Int} {L : List Int} {g cap : Nat} (hc : Cal B0 N0 J fp) (h : WS B0 N0 C M n w0 J fp cv W seen left m (.slice (some ⟨g, 0, none⟩) (S.length + 1) cap) (e :: S)) (he : EdM W fp A' L) :
    WS B0 N0 C M n w0 J fp cv (W.setCell ⟨g, S.length * 2 + 1, none⟩ (.slice A' L.length L.length)) seen left m (.slice (some ⟨g, 0, none⟩) (S.length + 1) cap) (⟨e.k, A', L⟩ :: S) := by
  have hl : ((e :: S).reverse.flatMap stF) = S.reverse.flatMap stF ++ stF e := by simp
  have hl2 : (S.reverse.flatMap stF).length = S.length * 2 := by rw [flat_len stF_len]; simp
  have hs := World.ownsRow.stored h.row (S.length * 2 + 1) (.slice A' L.length L.length)
  have hgl := row_lt h.row (g := g) rfl
  have hne : ∀ i, i ≠ g → (W.setCell ⟨g, S.length * 2 + 1, none⟩ (.slice A' L.length L.length)).heap[i]? = W.heap[i]? := fun i hi => Below.heap_setCell _ _ _ _ hi
  have hMg : M ≠ g := fun q => h.bl.not h.row (by decide) (by rw [q]; rfl)
  refine h.step hc ((Below.refl _ _).setCell (p := ⟨g, S.length * 2 + 1, none⟩) hgl.1 _) (fun k _ _ hk => hne k (fun q => hk (by rw [q]; rfl))) (h.bl.at (hne M hMg)) ?_ (fun g q => .inl q) (fun e' he' _ => ?_) (fun e' he' => ?_)
  · have h1 := hs.1
    rw [hl, List.set_append_right _ _ (by omega), hl2, show S.length * 2 + 1 - S.length * 2 = 1 by omega] at h1
    simpa using h1
  · rcases List.mem_cons.1 he' with rfl | he'
    · exact .inl he
    · exact .inl (h.ed e' (List.mem_cons_of_mem _ he'))
  · rcases List.mem_cons.1 he' with rfl | he'
    · exact h.ks e (by simp)
    · exact h.ks e' (List.mem_cons_of_mem _ he')
end
end Go.Proofs.Ytbmjhkimeeahhaa
