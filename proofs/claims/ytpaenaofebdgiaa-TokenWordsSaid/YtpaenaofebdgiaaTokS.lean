/- The law of a loop over the tokens of a text. Condition: at most 1000000 bytes. -/
import Derived.Test.YtpaenaofebdgiaaTokN
namespace Go.Proofs.Ytpaenaofebdgiaa
open Go.RowKit

/-- Blocks S, S+1, S+2 (the loop's own, and the iterator's) may have turned; there may be new blocks. -/
structure Near (S : Nat) (A B : World) : Prop where
  os : B.os = A.os
  tape : B.tape = A.tape
  output : B.output = A.output
  size : A.heap.size ≤ B.heap.size
  block : ∀ k, k < A.heap.size → k < S ∨ S + 3 ≤ k → B.heap[k]? = A.heap[k]?
theorem Near.trans {S : Nat} {A B C : World} (h : Near S A B) (k : Near S B C) : Near S A C :=
  ⟨k.os.trans h.os, k.tape.trans h.tape, k.output.trans h.output, Nat.le_trans h.size k.size, fun i hi hs => (k.block i (Nat.lt_of_lt_of_le hi h.size) hs).trans (h.block i hi hs)⟩
theorem Near.of_only {S b : Nat} {A B : World} (h : Only b A B) (h1 : S ≤ b) (h2 : b < S + 3) : Near S A B :=
  ⟨h.os, h.tape, h.output, h.size, fun k hk hs => h.block k hk (fun e => by cases e; omega)⟩
theorem Near.alloc {S : Nat} {A B : World} (h : Near S A B) (o : Obj) : Near S A (B.alloc o) :=
  ⟨h.os, h.tape, h.output, by rw [World.size_alloc]; have := h.size; omega, fun k hk hs => (Below.heap_alloc B o k (Nat.lt_of_lt_of_le hk h.size)).trans (h.block k hk hs)⟩
theorem Near.put {S l : Nat} {A B : World} (h : Near S A B) (o : Obj) (h1 : S ≤ l) (h2 : l < S + 3) : Near S A (B.putObj l o) :=
  ⟨h.os, h.tape, h.output, by rw [show (B.putObj l o).heap.size = B.heap.size by simp [World.putObj]]; exact h.size, fun k hk hs => (World.putObj_heap_other (by omega)).trans (h.block k hk hs)⟩

/-- What a body leaves alone. -/
structure Held (S N : Nat) (Wa W W' : World) : Prop where
  size : W.heap.size ≤ W'.heap.size
  block : ∀ k, k < N → (S ≤ k ∧ k < S + 3) ∨ Wa.heap.size ≤ k → W'.heap[k]? = W.heap[k]?

/-- How a body may be left. -/
def postT (S N : Nat) (I : List El → World → Prop) (Ix : Code → List El → World → Prop) (xs : List El) (Wa W : World) : Exit → Act → World → Prop
  | .normal, _, W' => Held S N Wa W W' ∧ I xs W'
  | .ret, _, W' => Held S N Wa W W' ∧ Ix .ret xs W'
  | .exit id, _, W' => Held S N Wa W W' ∧ Ix (.exit id) xs W'
  | _, _, _ => False

/-- A loop over the tokens of a text. -/
theorem range_tokens {g : Operand} {ps : Array Tmp} {assign body : Code} {Q : Exit → Act → World → Prop} {a : Act} {w : World} (n : Nat) (hn : 2 ≤ n) (Bs : Nat) (s : ByteArray) (hs : s.size ≤ 1000000)
    (hg : a.eval g = .func (.func 25) #[] #[.pointer (some ⟨Bs, 0, none⟩)]) (hsrc : w.cell? ⟨Bs, 0, none⟩ = some (.string s)) (hps : ps.size = 2)
    (I : List El → World → Prop) (Ix : Code → List El → World → Prop)
    (hI : ∀ pre A B, I pre A → Near w.heap.size A B → I pre B) (hIx : ∀ c pre A B, Ix c pre A → Near w.heap.size A B → Ix c pre B)
    (h0 : I [] w) (o1 o2 : El → Obj) (a₁ : El → Nat → Act)
    (hassign : ∀ (l : Nat) (x : El) (W : World) (K : Act → World → Prop), K (a₁ x W.heap.size) ((W.alloc (o1 x)).alloc (o2 x)) →
      assign.wpIn (Fence.wide.inRound l) (n - 1 - 1) Try.prog (Exit.then K (fun _ _ _ => False)) { tmps := (ps.zip (encE x)).foldl (fun t (p, v) => t.setIfInBounds p v) a.tmps, defers := [] } W)
    (hbody : ∀ (l : Nat) (pre : List El) (x : El) (rest : List El) (Wa W : World) (N : Nat), elems (scanL s.data.toList) = pre ++ x :: rest → I pre Wa → Near w.heap.size Wa W → Wa.heap.size ≤ N → w.heap.size + 3 ≤ N →
      W.heap.size = N + 2 → W.heap[N]? = some (o1 x) → W.heap[N + 1]? = some (o2 x) →
      body.wpIn (Fence.wide.inRound l) (n - 1 - 1) Try.prog (postT w.heap.size N I Ix (pre ++ [x]) Wa W) (a₁ x N) W)
    (hdone : ∀ (W : World), I (elems (scanL s.data.toList)) W → W.heap[w.heap.size]? = some (.deferred (some [])) → Q .normal { a with defers := { target := .collected w.heap.size, args := #[] } :: a.defers } W)
    (hstop : ∀ (c : Code) (pre : List El) (x : El) (rest : List El) (W : World), elems (scanL s.data.toList) = pre ++ x :: rest → Ix c (pre ++ [x]) W → W.heap[w.heap.size]? = some (.deferred (some [])) →
      c.wpIn Fence.wide n Try.prog Q { a with defers := { target := .collected w.heap.size, args := #[] } :: a.defers } W) :
    (Code.rangeFunc g ps assign body).wpIn Fence.wide n Try.prog Q a w := by
  refine wpIn_rangeFunc ?_
  intro fn _
  obtain ⟨rec, hrec⟩ : ∃ rec : LoopState → Option Code → Loop, rec = fun st pe => { state := st, pending := pe, fn, tmps := a.tmps, params := ps, assign, body, defers := w.heap.size } := ⟨_, rfl⟩
  obtain ⟨W1, hW1⟩ : ∃ W1, (w.alloc (.deferred (some []))).alloc (.loop (rec .ready none)) = W1 := ⟨_, rfl⟩
  have hS1 : W1.heap.size = w.heap.size + 2 := by rw [← hW1]; simp
  have hL1 : W1.heap[w.heap.size + 1]? = some (.loop (rec .ready none)) := by
    rw [← hW1]; have := heap_alloc_new (w.alloc (.deferred (some []))) (.loop (rec .ready none)); rwa [World.size_alloc] at this
  have hK1 : W1.heap[w.heap.size]? = some (.deferred (some [])) := by
    rw [← hW1]; exact (Below.heap_alloc _ _ _ (by simp)).trans (heap_alloc_new w _)
  have near1 : Near w.heap.size w W1 := by
    rw [← hW1]; exact ((⟨rfl, rfl, rfl, Nat.le_refl _, fun _ _ _ => rfl⟩ : Near w.heap.size w w).alloc _).alloc _
  have hsrc1 : W1.cell? ⟨Bs, 0, none⟩ = some (.string s) := by
    rw [← hW1]; exact (World.grownBy_alloc _ _ none).cell ((World.grownBy_alloc _ _ none).cell hsrc (by simp)) (by simp)
  refine ⟨w.heap.size + 1, [{ target := .collected w.heap.size, args := #[] }], W1, { target := .fn (.func 25) #[.pointer (some ⟨Bs, 0, none⟩)], args := #[.func (.yield (w.heap.size + 1)) #[] #[]] }, W1, 25,
    #[.func (.yield (w.heap.size + 1)) #[] #[], .pointer (some ⟨Bs, 0, none⟩)], W1, ?_, ?_, ?_, ?_, fun _ => by omega, ?_⟩
  · rw [← hW1, hrec]; exact run_enterLoop_outer _ _ _ _ _
  · simp only [resolve, hg]
    simp [go_sem]
  · intro f' _; trivial
  · simp [invoke, go_sem]
  · refine (each_in (n - 1) (w.heap.size + 1) Bs s
      (fun pre W => I pre W ∧ W.heap[w.heap.size + 1]? = some (.loop (rec .ready none)) ∧ W.heap[w.heap.size]? = some (.deferred (some [])))
      (fun pre W => ∃ c, Ix c pre W ∧ W.heap[w.heap.size + 1]? = some (.loop (rec .done (some c))) ∧ W.heap[w.heap.size]? = some (.deferred (some [])))
      W1 hs (by omega) hsrc1 ⟨hI _ _ _ h0 near1, hL1, hK1⟩ ?_).mono ?_
    · intro pre x rest Wa W2 hel ⟨hi, hl, hk⟩ hon hB0
      rw [hS1] at hon hB0
      have hla : w.heap.size + 1 < Wa.heap.size := (Array.getElem?_eq_some_iff.1 hl).1
      have hl2 : W2.heap[w.heap.size + 1]? = some (.loop (rec .ready none)) := (hon.block _ hla (fun e => by injection e with e; omega)).trans hl
      have hk2 : W2.heap[w.heap.size]? = some (.deferred (some [])) := (hon.block _ (by omega) (fun e => by injection e with e; omega)).trans hk
      have hsz2 := hon.size
      have hy := run_yield (P := Try.prog) (args := encE x) hl2 (by rw [hrec]; exact hps.symm)
      rw [hrec] at hy
      obtain ⟨W3, hW3⟩ : ∃ W3, (W2.alloc (o1 x)).alloc (o2 x) = W3 := ⟨_, rfl⟩
      have hs3 : W3.heap.size = W2.heap.size + 2 := by rw [← hW3]; simp
      have old3 : ∀ k, k < W2.heap.size → W3.heap[k]? = W2.heap[k]? := fun k hk => by
        rw [← hW3]; exact (Below.heap_alloc _ _ _ (by rw [World.size_alloc]; omega)).trans (Below.heap_alloc _ _ _ hk)
      have hl3 : W3.heap[w.heap.size + 1]? = some (.loop (rec .ready none)) := (old3 _ (by omega)).trans hl2
      have hk3 : W3.heap[w.heap.size]? = some (.deferred (some [])) := (old3 _ (by omega)).trans hk2
      have n0 : W3.heap[W2.heap.size]? = some (o1 x) := by
        rw [← hW3]; exact (Below.heap_alloc _ _ _ (by simp)).trans (heap_alloc_new W2 _)
      have n1 : W3.heap[W2.heap.size + 1]? = some (o2 x) := by
        rw [← hW3]; have := heap_alloc_new (W2.alloc (o1 x)) (o2 x); rwa [World.size_alloc] at this
      have hbr := run_beginRound (P := Try.prog) hl3 (by rw [hrec])
      obtain ⟨W4, hW4⟩ : ∃ W4, W3.putObj (w.heap.size + 1) (.loop { rec .ready none with state := .busy }) = W4 := ⟨_, rfl⟩
      rw [hW4] at hbr
      have hs4 : W4.heap.size = W2.heap.size + 2 := by rw [← hW4, ← hs3]; simp [World.putObj]
      have old4 : ∀ k, k ≠ w.heap.size + 1 → W4.heap[k]? = W3.heap[k]? := fun k hk => by rw [← hW4]; exact World.putObj_heap_other hk
      have hl4 : W4.heap[w.heap.size + 1]? = some (.loop { rec .ready none with state := .busy }) := by rw [← hW4]; exact World.putObj_heap_same (by omega)
      have near4 : Near w.heap.size Wa W4 := by
        rw [← hW4, ← hW3]
        exact (((Near.of_only hon (by omega) (by omega)).alloc _).alloc _).put _ (by omega) (by omega)
      have hb4 := hbody (w.heap.size + 1) pre x rest Wa W4 W2.heap.size hel hi near4 hsz2 (by omega) hs4 ((old4 _ (by omega)).trans n0) ((old4 _ (by omega)).trans n1)
      refine ⟨fn, _, assign, body, hy, roundIn_of_wpIn trivial (hassign (w.heap.size + 1) x W2 _ ?_)⟩
      rw [hW3]
      refine ⟨W4, hbr, wpIn_mono hb4 ?_⟩
      have fin : ∀ (jump : Option Code) (W5 : World), Held w.heap.size W2.heap.size Wa W4 W5 →
          (Instr.endRound (w.heap.size + 1) jump).run Try.prog W5 = .ok (.bool jump.isNone) (W5.putObj (w.heap.size + 1) (.loop (rec (if jump.isNone then .ready else .done) jump))) ∧
          (W5.putObj (w.heap.size + 1) (.loop (rec (if jump.isNone then .ready else .done) jump))).heap[w.heap.size + 1]? = some (.loop (rec (if jump.isNone then .ready else .done) jump)) ∧
          (W5.putObj (w.heap.size + 1) (.loop (rec (if jump.isNone then .ready else .done) jump))).heap[w.heap.size]? = some (.deferred (some [])) ∧
          Near w.heap.size W5 (W5.putObj (w.heap.size + 1) (.loop (rec (if jump.isNone then .ready else .done) jump))) ∧
          Kept (w.heap.size + 2) Wa W2 (W5.putObj (w.heap.size + 1) (.loop (rec (if jump.isNone then .ready else .done) jump))) := fun jump W5 hd => by
        have hl5 : W5.heap[w.heap.size + 1]? = some (.loop { rec .ready none with state := .busy }) := (hd.block _ (by omega) (.inl ⟨by omega, by omega⟩)).trans hl4
        have hk5 : W5.heap[w.heap.size]? = some (.deferred (some [])) := (hd.block _ (by omega) (.inl ⟨by omega, by omega⟩)).trans ((old4 _ (by omega)).trans hk3)
        have hr := run_endRound (P := Try.prog) jump hl5
        have hsz5 := hd.size
        rw [hrec] at hr ⊢
        refine ⟨hr, World.putObj_heap_same (by omega), (World.putObj_heap_other (by omega)).trans hk5, Near.put ⟨rfl, rfl, rfl, Nat.le_refl _, fun _ _ _ => rfl⟩ _ (by omega) (by omega), ?_⟩
        have hp : ∀ k, k ≠ w.heap.size + 1 → (W5.putObj (w.heap.size + 1) (.loop ((fun st pe => { state := st, pending := pe, fn, tmps := a.tmps, params := ps, assign, body, defers := w.heap.size } : LoopState → Option Code → Loop) (if jump.isNone then .ready else .done) jump))).heap[k]? = W5.heap[k]? := fun k hk => World.putObj_heap_other hk
        refine ⟨?_, ?_, ?_⟩
        · simp [World.putObj]; omega
        · rw [hp _ (by omega), hd.block _ (by omega) (.inl ⟨by omega, by omega⟩), old4 _ (by omega), old3 _ (by omega)]
        · intro k h1 h2
          rw [hp _ (by omega), hd.block _ h2 (.inr h1), old4 _ (by omega), old3 _ h2]
      rintro e a3 W5 hp
      cases e with
      | normal =>
        obtain ⟨hd, hi5⟩ := hp
        obtain ⟨hr, g1, g2, g3, g4⟩ := fin none W5 hd
        exact ⟨_, _, hr, .inl ⟨rfl, ⟨hI _ _ _ hi5 g3, g1, g2⟩, by rw [hS1]; exact g4⟩⟩
      | ret =>
        obtain ⟨hd, hi5⟩ := hp
        obtain ⟨hr, g1, g2, g3, g4⟩ := fin (some .ret) W5 hd
        exact ⟨_, _, hr, .inr ⟨rfl, .ret, hIx _ _ _ _ hi5 g3, g1, g2⟩⟩
      | exit id =>
        obtain ⟨hd, hi5⟩ := hp
        obtain ⟨hr, g1, g2, g3, g4⟩ := fin (some (.exit id)) W5 hd
        exact ⟨_, _, hr, .inr ⟨rfl, .exit id, hIx _ _ _ _ hi5 g3, g1, g2⟩⟩
      | goto t => exact hp.elim
      | panic ch => exact hp.elim
      | outgrown => exact hp.elim
    · rintro e W2 ⟨⟨v, rfl⟩, (⟨Wa, ⟨hi, hl, hk⟩, hon⟩ | ⟨pre, x, rest, Wa, hel, ⟨c, hi, hl, hk⟩, hon⟩)⟩
      · rw [hS1] at hon
        have hl2 := (hon.block _ (Array.getElem?_eq_some_iff.1 hl).1 (fun e => by injection e with e; omega)).trans hl
        have hk2 := (hon.block _ (Array.getElem?_eq_some_iff.1 hk).1 (fun e => by injection e with e; omega)).trans hk
        have hn2 := Near.of_only (S := w.heap.size) hon (by omega) (by omega)
        refine ⟨none, _, by have := run_endLoop (P := Try.prog) hl2 (by rw [hrec]; simp); rw [hrec] at this; exact this, ?_⟩
        exact hdone _ (hI _ _ _ hi (hn2.put _ (by omega) (by omega))) ((World.putObj_heap_other (by omega)).trans hk2)
      · rw [hS1] at hon
        have hl2 := (hon.block _ (Array.getElem?_eq_some_iff.1 hl).1 (fun e => by injection e with e; omega)).trans hl
        have hk2 := (hon.block _ (Array.getElem?_eq_some_iff.1 hk).1 (fun e => by injection e with e; omega)).trans hk
        have hn2 := Near.of_only (S := w.heap.size) hon (by omega) (by omega)
        refine ⟨some c, _, by have := run_endLoop (P := Try.prog) hl2 (by rw [hrec]; simp); rw [hrec] at this; exact this, ?_⟩
        exact hstop c pre x rest _ hel (hIx _ _ _ _ hi (hn2.put _ (by omega) (by omega))) ((World.putObj_heap_other (by omega)).trans hk2)
end Go.Proofs.Ytpaenaofebdgiaa
