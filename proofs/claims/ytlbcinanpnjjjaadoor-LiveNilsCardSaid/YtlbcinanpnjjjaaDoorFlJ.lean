/- A loop over an iterator that keeps its state in cells of its own, and a body that writes one block. No conditions. -/
import Derived.Test.YtlbcinanpnjjjaaDoorFlG
import Derived.RangeFuncNested
import Derived.RangeFuncBound
import Derived.RangeFuncCalls
import Derived.RangeFuncLeaves
import Derived.Shelf.Abstract
import Derived.OwnWalkIn
import Derived.TacticsInMore
import Derived.LoopNIn
import Derived.LoopIn
import Derived.Maps.OwnIn
namespace Go.Proofs.YtlbcinanpnjjjaaDoor
open Go.RowKit Go.Maps Go.Shelf
set_option linter.unusedVariables false
set_option linter.unusedSimpArgs false
/-- What a round leaves of what lay: all but the body's block and the loop's record. -/
structure LowKept (l Nb : Nat) (W W' : World) : Prop where
  os : W'.os = W.os
  tape : W'.tape = W.tape
  output : W'.output = W.output
  size : W.heap.size ≤ W'.heap.size
  block : ∀ k, k < W.heap.size → k ≠ Nb → k ≠ l → W'.heap[k]? = W.heap[k]?
theorem LowKept.trans {l Nb : Nat} {A B C : World} (h : LowKept l Nb A B) (k : LowKept l Nb B C) : LowKept l Nb A C :=
  ⟨k.os.trans h.os, k.tape.trans h.tape, k.output.trans h.output, Nat.le_trans h.size k.size, fun i hi h1 h2 => (k.block i (Nat.lt_of_lt_of_le hi h.size) h1 h2).trans (h.block i hi h1 h2)⟩
/-- An iterator gives L, one by one, whatever it does with blocks of its own. -/
def SeqLow {α : Type} (n gf : Nat) (lb : Array Value) (enc : α → Array Value) (Nb : Nat) (L : List α) (w : World) : Prop :=
  ∀ (l : Nat) (J Jx : List α → World → Prop) (W : World), Below w.heap.size w W → w.heap.size ≤ l → l < W.heap.size →
    (∀ pre A B, J pre A → Below W.heap.size A B → J pre B) → (∀ pre A B, Jx pre A → Below W.heap.size A B → Jx pre B) →
    (∀ pre x W1, J pre W1 → pre ++ [x] <+: L → W.heap.size ≤ W1.heap.size → YieldAt Fence.wide (n - 1) Tryd.prog l (enc x) W1 fun e W' =>
      (e = .returned (.bool true) ∧ J (pre ++ [x]) W' ∧ LowKept l Nb W1 W') ∨ (e = .returned (.bool false) ∧ Jx (pre ++ [x]) W' ∧ W1.heap.size ≤ W'.heap.size)) →
    J [] W →
    CallsIn Fence.wide n Tryd.prog gf (#[.func (.yield l) #[] #[]] ++ lb) W fun e W' => (∃ v, e = .returned v) ∧ (J L W' ∨ ∃ pre, pre <+: L ∧ Jx pre W')
/-- Blocks from S on lie as they lay. -/
structure Stay (S : Nat) (W W' : World) : Prop where
  size : W.heap.size ≤ W'.heap.size
  block : ∀ k, S ≤ k → k < W.heap.size → W'.heap[k]? = W.heap[k]?
def postLow {α : Type} (S Nb : Nat) (I : List α → World → Prop) (Ix : Code → List α → World → Prop) (xs : List α) (W : World) : Exit → Act → World → Prop
  | .normal, _, W' => W.grownBy W' (some Nb) ∧ I xs W'
  | .ret, _, W' => Stay S W W' ∧ Ix .ret xs W'
  | .exit id, _, W' => Stay S W W' ∧ Ix (.exit id) xs W'
  | _, _, _ => False
theorem below_put {B l : Nat} {A : World} (o : Obj) (hl : B ≤ l) : Below B A (A.putObj l o) := ⟨rfl, rfl, rfl, by simp [World.putObj], fun k hk => World.putObj_heap_other (by omega)⟩
theorem range_low {α : Type} {g : Operand} {ps : Array Tmp} {assign body : Code} {Q : Exit → Act → World → Prop} {a : Act} {w : World} (n : Nat) (hn : 2 ≤ n) {gf : Nat} {lb : Array Value} {enc : α → Array Value} {Nb : Nat} {L : List α}
    (hg : a.eval g = .func (.func gf) #[] lb) (eg : ∀ args w, (callFunc gf args).run Tryd.prog w = .ok (.enter gf args) w) (hseq : SeqLow (n - 1) gf lb enc Nb L w) (hNb : Nb < w.heap.size) (hps : ∀ x, (enc x).size = ps.size)
    (I : List α → World → Prop) (Ix : Code → List α → World → Prop)
    (hI : ∀ pre A B, I pre A → Below w.heap.size A B → I pre B) (hIx : ∀ c pre A B, Ix c pre A → Below w.heap.size A B → Ix c pre B)
    (h0 : I [] w) (a₁ : α → Act)
    (hassign : ∀ (l : Nat) (x : α) (W : World) (K : Act → World → Prop), K (a₁ x) W →
      assign.wpIn (Fence.wide.inRound l) (n - 1 - 1) Tryd.prog (Exit.then K (fun _ _ _ => False)) { tmps := (ps.zip (enc x)).foldl (fun t (p, v) => t.setIfInBounds p v) a.tmps, defers := [] } W)
    (hbody : ∀ (l : Nat) (pre : List α) (x : α) (W : World), pre ++ [x] <+: L → w.heap.size ≤ W.heap.size → I pre W →
      body.wpIn (Fence.wide.inRound l) (n - 1 - 1) Tryd.prog (postLow w.heap.size Nb I Ix (pre ++ [x]) W) (a₁ x) W)
    (hdone : ∀ (W : World), I L W → W.heap[w.heap.size]? = some (.deferred (some [])) → Q .normal { a with defers := { target := .collected w.heap.size, args := #[] } :: a.defers } W)
    (hstop : ∀ (c : Code) (pre : List α) (W : World), pre <+: L → Ix c pre W → W.heap[w.heap.size]? = some (.deferred (some [])) →
      c.wpIn Fence.wide n Tryd.prog Q { a with defers := { target := .collected w.heap.size, args := #[] } :: a.defers } W) :
    (Code.rangeFunc g ps assign body).wpIn Fence.wide n Tryd.prog Q a w := by
  refine wpIn_rangeFunc ?_
  intro fn _
  obtain ⟨rec, hrec⟩ : ∃ rec : LoopState → Option Code → Loop, rec = fun st pe => { state := st, pending := pe, fn, tmps := a.tmps, params := ps, assign, body, defers := w.heap.size } := ⟨_, rfl⟩
  obtain ⟨W1, hW1⟩ : ∃ W1, (w.alloc (.deferred (some []))).alloc (.loop (rec .ready none)) = W1 := ⟨_, rfl⟩
  have hS1 : W1.heap.size = w.heap.size + 2 := by rw [← hW1]; simp
  have hL1 : W1.heap[w.heap.size + 1]? = some (.loop (rec .ready none)) := by
    rw [← hW1]; have := heap_alloc_new (w.alloc (.deferred (some []))) (.loop (rec .ready none)); rwa [World.size_alloc] at this
  have hK1 : W1.heap[w.heap.size]? = some (.deferred (some [])) := by
    rw [← hW1]; exact (Below.heap_alloc _ _ _ (by simp)).trans (heap_alloc_new w _)
  have hb1 : Below w.heap.size w W1 := by rw [← hW1]; exact below2 _ _ _
  have hBI : ∀ (pre : List α) (A B : World), I pre A ∧ A.heap[w.heap.size + 1]? = some (.loop (rec .ready none)) ∧ A.heap[w.heap.size]? = some (.deferred (some [])) → Below W1.heap.size A B → I pre B ∧ B.heap[w.heap.size + 1]? = some (.loop (rec .ready none)) ∧ B.heap[w.heap.size]? = some (.deferred (some [])) :=
    fun pre A B h hb => ⟨hI _ _ _ h.1 (hb.mono (by omega)), (hb.block _ (by omega)).trans h.2.1, (hb.block _ (by omega)).trans h.2.2⟩
  refine ⟨w.heap.size + 1, [{ target := .collected w.heap.size, args := #[] }], W1, { target := .fn (.func gf) lb, args := #[.func (.yield (w.heap.size + 1)) #[] #[]] }, W1, gf,
    #[.func (.yield (w.heap.size + 1)) #[] #[]] ++ lb, W1, ?_, ?_, ?_, ?_, fun _ => by omega, ?_⟩
  · rw [← hW1, hrec]; exact run_enterLoop_outer _ _ _ _ _
  · simp only [resolve, hg]
    simp [go_sem]
  · intro f' _; trivial
  · simp [invoke, go_sem, eg]
  · refine (hseq (w.heap.size + 1)
      (fun pre W => I pre W ∧ W.heap[w.heap.size + 1]? = some (.loop (rec .ready none)) ∧ W.heap[w.heap.size]? = some (.deferred (some [])))
      (fun pre W => ∃ c, Ix c pre W ∧ W.heap[w.heap.size + 1]? = some (.loop (rec .done (some c))) ∧ W.heap[w.heap.size]? = some (.deferred (some [])))
      W1 hb1 (by omega) (by omega) hBI
      (fun pre A B h hb => by obtain ⟨c, h1, h2, h3⟩ := h; exact ⟨c, hIx _ _ _ _ h1 (hb.mono (by omega)), (hb.block _ (by omega)).trans h2, (hb.block _ (by omega)).trans h3⟩)
      ?_ ⟨hI _ _ _ h0 hb1, hL1, hK1⟩).mono ?_
    · intro pre x W2 ⟨hi, hl, hk⟩ hel hsz
      have hla : w.heap.size + 1 < W2.heap.size := (Array.getElem?_eq_some_iff.1 hl).1
      have hy := run_yield (P := Tryd.prog) (args := enc x) hl (by rw [hrec]; exact hps x)
      rw [hrec] at hy
      have hbr := run_beginRound (P := Tryd.prog) hl (by rw [hrec])
      obtain ⟨W4, hW4⟩ : ∃ W4, W2.putObj (w.heap.size + 1) (.loop { rec .ready none with state := .busy }) = W4 := ⟨_, rfl⟩
      have hs4 : W4.heap.size = W2.heap.size := by rw [← hW4]; simp [World.putObj]
      have old4 : ∀ k, k ≠ w.heap.size + 1 → W4.heap[k]? = W2.heap[k]? := fun k hk => by rw [← hW4]; exact World.putObj_heap_other hk
      have hl4 : W4.heap[w.heap.size + 1]? = some (.loop { rec .ready none with state := .busy }) := by rw [← hW4]; exact World.putObj_heap_same (by omega)
      have hk4 : W4.heap[w.heap.size]? = some (.deferred (some [])) := (old4 _ (by omega)).trans hk
      have hi4 : I pre W4 := by rw [← hW4]; exact hI _ _ _ hi (below_put _ (by omega))
      rw [hW4] at hbr
      refine ⟨fn, _, assign, body, hy, roundIn_of_wpIn trivial (hassign (w.heap.size + 1) x W2 _ ?_)⟩
      refine ⟨W4, hbr, wpIn_mono (hbody (w.heap.size + 1) pre x W4 hel (by omega) hi4) ?_⟩
      have fin : ∀ (jump : Option Code) (W5 : World), Stay w.heap.size W4 W5 →
          (Instr.endRound (w.heap.size + 1) jump).run Tryd.prog W5 = .ok (.bool jump.isNone) (W5.putObj (w.heap.size + 1) (.loop (rec (if jump.isNone then .ready else .done) jump))) ∧
          (W5.putObj (w.heap.size + 1) (.loop (rec (if jump.isNone then .ready else .done) jump))).heap[w.heap.size + 1]? = some (.loop (rec (if jump.isNone then .ready else .done) jump)) ∧
          (W5.putObj (w.heap.size + 1) (.loop (rec (if jump.isNone then .ready else .done) jump))).heap[w.heap.size]? = some (.deferred (some [])) ∧
          Below w.heap.size W5 (W5.putObj (w.heap.size + 1) (.loop (rec (if jump.isNone then .ready else .done) jump))) := fun jump W5 hd => by
        have hl5 : W5.heap[w.heap.size + 1]? = some (.loop { rec .ready none with state := .busy }) := (hd.block _ (by omega) (by omega)).trans hl4
        have hk5 : W5.heap[w.heap.size]? = some (.deferred (some [])) := (hd.block _ (by omega) (by omega)).trans hk4
        have hr := run_endRound (P := Tryd.prog) jump hl5
        have hsz5 := hd.size
        rw [hrec] at hr ⊢
        exact ⟨hr, World.putObj_heap_same (by omega), (World.putObj_heap_other (by omega)).trans hk5, below_put _ (by omega)⟩
      rintro e a3 W5 hp
      cases e with
      | normal =>
        obtain ⟨hd, hi5⟩ := hp
        have hst : Stay w.heap.size W4 W5 := ⟨hd.size, fun k h1 h2 => hd.block k h2 (fun e => by injection e with e; omega)⟩
        obtain ⟨hr, g1, g2, g3⟩ := fin none W5 hst
        refine ⟨_, _, hr, .inl ⟨rfl, ⟨hI _ _ _ hi5 g3, g1, g2⟩, ⟨by rw [show (W5.putObj _ _).os = W5.os from rfl, hd.os, ← hW4]; rfl, by rw [show (W5.putObj _ _).tape = W5.tape from rfl, hd.tape, ← hW4]; rfl, by rw [show (W5.putObj _ _).output = W5.output from rfl, hd.output, ← hW4]; rfl, by have := hd.size; simp [World.putObj]; omega, fun k h1 h2 h3 => ?_⟩⟩⟩
        rw [World.putObj_heap_other h3, hd.block k (by omega) (fun e => by injection e with e; omega), old4 _ h3]
      | ret =>
        obtain ⟨hd, hi5⟩ := hp
        obtain ⟨hr, g1, g2, g3⟩ := fin (some .ret) W5 hd
        exact ⟨_, _, hr, .inr ⟨rfl, ⟨.ret, hIx _ _ _ _ hi5 g3, g1, g2⟩, by have := hd.size; simp [World.putObj]; omega⟩⟩
      | exit id =>
        obtain ⟨hd, hi5⟩ := hp
        obtain ⟨hr, g1, g2, g3⟩ := fin (some (.exit id)) W5 hd
        exact ⟨_, _, hr, .inr ⟨rfl, ⟨.exit id, hIx _ _ _ _ hi5 g3, g1, g2⟩, by have := hd.size; simp [World.putObj]; omega⟩⟩
      | goto t => exact hp.elim
      | panic ch => exact hp.elim
      | outgrown => exact hp.elim
    · rintro e W2 ⟨⟨v, rfl⟩, (⟨hi, hl, hk⟩ | ⟨pre, hpre, c, hi, hl, hk⟩)⟩
      · refine ⟨none, _, by have := run_endLoop (P := Tryd.prog) hl (by rw [hrec]; simp); rw [hrec] at this; exact this, ?_⟩
        exact hdone _ (hI _ _ _ hi (below_put _ (by omega))) ((World.putObj_heap_other (by omega)).trans hk)
      · refine ⟨some c, _, by have := run_endLoop (P := Tryd.prog) hl (by rw [hrec]; simp); rw [hrec] at this; exact this, ?_⟩
        exact hstop c pre _ hpre (hIx _ _ _ _ hi (below_put _ (by omega))) ((World.putObj_heap_other (by omega)).trans hk)
end Go.Proofs.YtlbcinanpnjjjaaDoor
