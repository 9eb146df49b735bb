/- A loop over an iterator, with a body that writes what it names. No conditions. -/
import Derived.Test.YtbmjhkimeeahhaaFlJ
import Derived.Test.YtbmjhkimeeahhaaFlK
namespace Go.Proofs.Ytbmjhkimeeahhaa
open Go.RowKit Go.Maps Go.Shelf
set_option linter.unusedVariables false
set_option linter.unusedSimpArgs false
/-- A caller's facts, and the blocks that they speak of. -/
structure CalE {α : Type} (B0 : Nat) (Inp : Nat → Prop) (J : List α → World → Prop) (fp : World → Nat → Prop) : Prop where
  keep : ∀ {pre A B}, J pre A → Below B0 A B → (∀ k, k < A.heap.size → fp A k → B.heap[k]? = A.heap[k]?) → J pre B ∧ ∀ k, fp B k ↔ fp A k
  lt : ∀ {pre A k}, J pre A → fp A k → k < A.heap.size ∧ ¬ Inp k
/-- An iterator gives L, one by one; it reads the blocks of Inp, and what it has made. -/
def SeqFp {α : Type} (n gf : Nat) (lb : Array Value) (enc : α → Array Value) (Inp : Nat → Prop) (L : List α) (w : World) : Prop :=
  ∀ (l : Nat) (J Jx : List α → World → Prop) (fp : World → Nat → Prop) (W : World), Below w.heap.size w W → CalE W.heap.size Inp J fp →
    (∀ pre x W1, J pre W1 → pre ++ [x] <+: L → W.heap.size ≤ W1.heap.size → YieldAt Fence.wide (n - 1) Try.prog l (enc x) W1 fun e W' =>
      (e = .returned (.bool true) ∧ J (pre ++ [x]) W' ∧ CalS fp W1 W') ∨ (e = .returned (.bool false) ∧ Jx (pre ++ [x]) W')) →
    J [] W →
    CallsIn Fence.wide n Try.prog gf (#[.func (.yield l) #[] #[]] ++ lb) W fun e W' => (∃ v, e = .returned v) ∧ (J L W' ∨ ∃ pre, pre <+: L ∧ Jx pre W')
def postFp {α : Type} (S : Nat) (fp : World → Nat → Prop) (I : List α → World → Prop) (Ix : Code → List α → World → Prop) (xs : List α) (W : World) : Exit → Act → World → Prop
  | .normal, _, W' => CalS fp W W' ∧ I xs W'
  | .ret, _, W' => Stay S W W' ∧ Ix .ret xs W'
  | .exit id, _, W' => Stay S W W' ∧ Ix (.exit id) xs W'
  | _, _, _ => False
theorem range_fp {α : Type} {g : Operand} {ps : Array Tmp} {assign body : Code} {Q : Exit → Act → World → Prop} {a : Act} {w : World} (n : Nat) (hn : 2 ≤ n) {gf : Nat} {lb : Array Value} {enc : α → Array Value} {Inp : Nat → Prop} {L : List α}
    (hg : a.eval g = .func (.func gf) #[] lb) (eg : ∀ args w, (callFunc gf args).run Try.prog w = .ok (.enter gf args) w) (hseq : SeqFp (n - 1) gf lb enc Inp L w) (hInp : ∀ k, Inp k → k < w.heap.size) (hps : ∀ x, (enc x).size = ps.size)
    (fp : World → Nat → Prop) (I : List α → World → Prop) (Ix : Code → List α → World → Prop)
    (hI : ∀ pre A B, I pre A → Below w.heap.size A B → (∀ k, k < A.heap.size → fp A k → B.heap[k]? = A.heap[k]?) → I pre B ∧ ∀ k, fp B k ↔ fp A k)
    (hlt : ∀ pre A k, I pre A → fp A k → k < A.heap.size ∧ ¬ Inp k ∧ k ≠ w.heap.size ∧ k ≠ w.heap.size + 1)
    (hIx : ∀ c pre A B, Ix c pre A → Below w.heap.size A B → Ix c pre B)
    (h0 : I [] w) (a₁ : α → Act)
    (hassign : ∀ (l : Nat) (x : α) (W : World) (K : Act → World → Prop), K (a₁ x) W →
      assign.wpIn (Fence.wide.inRound l) (n - 1 - 1) Try.prog (Exit.then K (fun _ _ _ => False)) { tmps := (ps.zip (enc x)).foldl (fun t (p, v) => t.setIfInBounds p v) a.tmps, defers := [] } W)
    (hbody : ∀ (l : Nat) (pre : List α) (x : α) (W : World), pre ++ [x] <+: L → w.heap.size + 2 ≤ W.heap.size → I pre W →
      body.wpIn (Fence.wide.inRound l) (n - 1 - 1) Try.prog (postFp w.heap.size fp I Ix (pre ++ [x]) W) (a₁ x) W)
    (hdone : ∀ (W : World), I L W → W.heap[w.heap.size]? = some (.deferred (some [])) → Q .normal { a with defers := { target := .collected w.heap.size, args := #[] } :: a.defers } W)
    (hstop : ∀ (c : Code) (pre : List α) (W : World), pre <+: L → Ix c pre W → W.heap[w.heap.size]? = some (.deferred (some [])) →
      c.wpIn Fence.wide n Try.prog Q { a with defers := { target := .collected w.heap.size, args := #[] } :: a.defers } W) :
    (Code.rangeFunc g ps assign body).wpIn Fence.wide n Try.prog Q a w := by
  refine wpIn_rangeFunc ?_
  intro fn _
  obtain ⟨rec, hrec⟩ : ∃ rec : LoopState → Option Code → Loop, rec = fun st pe => { state := st, pending := pe, fn, tmps := a.tmps, params := ps, assign, body, defers := w.heap.size } := ⟨_, rfl⟩
  obtain ⟨W1, hW1⟩ : ∃ W1, (w.alloc (.deferred (some []))).alloc (.loop (rec .ready none)) = W1 := ⟨_, rfl⟩
  have hS1 : W1.heap.size = w.heap.size + 2 := by rw [← hW1]; simp
  have hL1 : W1.heap[w.heap.size + 1]? = some (.loop (rec .ready none)) := by
    rw [← hW1]; have := heap_alloc_new (w.alloc (.deferred (some []))) (.loop (rec .ready none)); rwa [World.size_alloc] at this
  have hK1 : W1.heap[w.heap.size]? = some (.deferred (some [])) := by
    rw [← hW1]; exact (Below.heap_alloc _ _ _ (by simp)).trans (heap_alloc_new w _)
  have hb1 : Below w.heap.size w W1 := by rw [← hW1]; exact below2 _ _ _
  have hput : ∀ {pre : List α} {A : World} (o : Obj), I pre A → I pre (A.putObj (w.heap.size + 1) o) ∧ ∀ k, fp (A.putObj (w.heap.size + 1) o) k ↔ fp A k := fun o h =>
    hI _ _ _ h (below_put _ (by omega)) (fun k hk hf => World.putObj_heap_other (hlt _ _ _ h hf).2.2.2)
  have hcal : CalE W1.heap.size Inp (fun pre W => I pre W ∧ W.heap[w.heap.size + 1]? = some (.loop (rec .ready none)) ∧ W.heap[w.heap.size]? = some (.deferred (some []))) (fun A k => fp A k ∨ k = w.heap.size ∨ k = w.heap.size + 1) := by
    refine ⟨fun {pre A B} h hb hk => ?_, fun {pre A k} h hf => ?_⟩
    · obtain ⟨h1, h2⟩ := hI _ _ _ h.1 (hb.mono (by omega)) (fun k hl hf => hk k hl (.inl hf))
      exact ⟨⟨h1, (hb.block _ (by omega)).trans h.2.1, (hb.block _ (by omega)).trans h.2.2⟩, fun k => by rw [h2 k]⟩
    · rcases hf with hf | rfl | rfl
      · exact ⟨(hlt _ _ _ h.1 hf).1, (hlt _ _ _ h.1 hf).2.1⟩
      · exact ⟨(Array.getElem?_eq_some_iff.1 h.2.2).1, fun q => by have := hInp _ q; omega⟩
      · exact ⟨(Array.getElem?_eq_some_iff.1 h.2.1).1, fun q => by have := hInp _ q; omega⟩
  refine ⟨w.heap.size + 1, [{ target := .collected w.heap.size, args := #[] }], W1, { target := .fn (.func gf) lb, args := #[.func (.yield (w.heap.size + 1)) #[] #[]] }, W1, gf,
    #[.func (.yield (w.heap.size + 1)) #[] #[]] ++ lb, W1, ?_, ?_, ?_, ?_, fun _ => by omega, ?_⟩
  · rw [← hW1, hrec]; exact run_enterLoop_outer _ _ _ _ _
  · simp only [resolve, hg]
    simp [go_sem]
  · intro f' _; trivial
  · simp [invoke, go_sem, eg]
  · refine (hseq (w.heap.size + 1) _
      (fun pre W => ∃ c, Ix c pre W ∧ W.heap[w.heap.size + 1]? = some (.loop (rec .done (some c))) ∧ W.heap[w.heap.size]? = some (.deferred (some [])))
      _ W1 hb1 hcal ?_ ⟨(hI _ _ _ h0 hb1 (fun k hk _ => hb1.block k hk)).1, hL1, hK1⟩).mono ?_
    · intro pre x W2 ⟨hi, hl, hk⟩ hel hsz
      have hla : w.heap.size + 1 < W2.heap.size := (Array.getElem?_eq_some_iff.1 hl).1
      have hy := run_yield (P := Try.prog) (args := enc x) hl (by rw [hrec]; exact hps x)
      rw [hrec] at hy
      have hbr := run_beginRound (P := Try.prog) hl (by rw [hrec])
      have hi4' := hput (.loop { rec .ready none with state := .busy }) hi
      obtain ⟨W4, hW4⟩ : ∃ W4, W2.putObj (w.heap.size + 1) (.loop { rec .ready none with state := .busy }) = W4 := ⟨_, rfl⟩
      have hs4 : W4.heap.size = W2.heap.size := by rw [← hW4]; simp [World.putObj]
      have old4 : ∀ k, k ≠ w.heap.size + 1 → W4.heap[k]? = W2.heap[k]? := fun k hk => by rw [← hW4]; exact World.putObj_heap_other hk
      have hl4 : W4.heap[w.heap.size + 1]? = some (.loop { rec .ready none with state := .busy }) := by rw [← hW4]; exact World.putObj_heap_same (by omega)
      have hk4 : W4.heap[w.heap.size]? = some (.deferred (some [])) := (old4 _ (by omega)).trans hk
      rw [hW4] at hbr hi4'
      obtain ⟨hi4, hfp4⟩ := hi4'
      have ho4 : W4.os = W2.os ∧ W4.tape = W2.tape ∧ W4.output = W2.output := by rw [← hW4]; exact ⟨rfl, rfl, rfl⟩
      refine ⟨fn, _, assign, body, hy, roundIn_of_wpIn trivial (hassign (w.heap.size + 1) x W2 _ ?_)⟩
      refine ⟨W4, hbr, wpIn_mono (hbody (w.heap.size + 1) pre x W4 hel (by omega) hi4) ?_⟩
      have fin : ∀ (jump : Option Code) (W5 : World), Stay w.heap.size W4 W5 →
          (Instr.endRound (w.heap.size + 1) jump).run Try.prog W5 = .ok (.bool jump.isNone) (W5.putObj (w.heap.size + 1) (.loop (rec (if jump.isNone then .ready else .done) jump))) ∧
          (W5.putObj (w.heap.size + 1) (.loop (rec (if jump.isNone then .ready else .done) jump))).heap[w.heap.size + 1]? = some (.loop (rec (if jump.isNone then .ready else .done) jump)) ∧
          (W5.putObj (w.heap.size + 1) (.loop (rec (if jump.isNone then .ready else .done) jump))).heap[w.heap.size]? = some (.deferred (some [])) ∧
          Below w.heap.size W5 (W5.putObj (w.heap.size + 1) (.loop (rec (if jump.isNone then .ready else .done) jump))) := fun jump W5 hd => by
        have hl5 : W5.heap[w.heap.size + 1]? = some (.loop { rec .ready none with state := .busy }) := (hd.block _ (by omega) (by omega)).trans hl4
        have hk5 : W5.heap[w.heap.size]? = some (.deferred (some [])) := (hd.block _ (by omega) (by omega)).trans hk4
        have hr := run_endRound (P := Try.prog) jump hl5
        have hsz5 := hd.size
        rw [hrec] at hr ⊢
        exact ⟨hr, World.putObj_heap_same (by omega), (World.putObj_heap_other (by omega)).trans hk5, below_put _ (by omega)⟩
      rintro e a3 W5 hp
      cases e with
      | normal =>
        obtain ⟨hd, hi5⟩ := hp
        have hl5 : W5.heap[w.heap.size + 1]? = some (.loop { rec .ready none with state := .busy }) := (hd.block _ (by omega) (fun hf => (hlt _ _ _ hi4 hf).2.2.2 rfl)).trans hl4
        have hk5 : W5.heap[w.heap.size]? = some (.deferred (some [])) := (hd.block _ (by omega) (fun hf => (hlt _ _ _ hi4 hf).2.2.1 rfl)).trans hk4
        have hsz5 := hd.size
        have hr : (Instr.endRound (w.heap.size + 1) none).run Try.prog W5 = .ok (.bool true) (W5.putObj (w.heap.size + 1) (.loop (rec .ready none))) := by
          have := run_endRound (P := Try.prog) none hl5
          rw [hrec] at this ⊢
          exact this
        obtain ⟨hi6, hfp6⟩ := hput (.loop (rec .ready none)) hi5
        have g1 : (W5.putObj (w.heap.size + 1) (.loop (rec .ready none))).heap[w.heap.size + 1]? = some (.loop (rec .ready none)) := World.putObj_heap_same (by omega)
        have g2 : (W5.putObj (w.heap.size + 1) (.loop (rec .ready none))).heap[w.heap.size]? = some (.deferred (some [])) := (World.putObj_heap_other (by omega)).trans hk5
        refine ⟨_, _, hr, .inl ⟨rfl, ⟨hi6, g1, g2⟩, ⟨?_, ?_, ?_, ?_, fun k h1 h2 => ?_, fun k h1 => ?_⟩⟩⟩
        · exact hd.os.trans ho4.1
        · exact hd.tape.trans ho4.2.1
        · exact hd.output.trans ho4.2.2
        · simp [World.putObj]; omega
        · rw [World.putObj_heap_other (fun e => h2 (.inr (.inr e))), hd.block k (by omega) (fun hf => h2 (.inl ((hfp4 k).1 hf))), old4 k (fun e => h2 (.inr (.inr e)))]
        · rcases h1 with h1 | h1
          · rcases hd.fp k ((hfp6 k).1 h1) with h3 | h3
            · exact .inl (.inl ((hfp4 k).1 h3))
            · exact .inr (by omega)
          · exact .inl (.inr h1)
      | ret =>
        obtain ⟨hd, hi5⟩ := hp
        obtain ⟨hr, g1, g2, g3⟩ := fin (some .ret) W5 hd
        exact ⟨_, _, hr, .inr ⟨rfl, .ret, hIx _ _ _ _ hi5 g3, g1, g2⟩⟩
      | exit id =>
        obtain ⟨hd, hi5⟩ := hp
        obtain ⟨hr, g1, g2, g3⟩ := fin (some (.exit id)) W5 hd
        exact ⟨_, _, hr, .inr ⟨rfl, .exit id, hIx _ _ _ _ hi5 g3, g1, g2⟩⟩
      | goto t => exact hp.elim
      | panic ch => exact hp.elim
      | outgrown => exact hp.elim
    · rintro e W2 ⟨⟨v, rfl⟩, (⟨hi, hl, hk⟩ | ⟨pre, hpre, c, hi, hl, hk⟩)⟩
      · refine ⟨none, _, by have := run_endLoop (P := Try.prog) hl (by rw [hrec]; simp); rw [hrec] at this; exact this, ?_⟩
        exact hdone _ (hI _ _ _ hi (below_put _ (by omega)) (fun k hk hf => World.putObj_heap_other (hlt _ _ _ hi hf).2.2.2)).1 ((World.putObj_heap_other (by omega)).trans hk)
      · refine ⟨some c, _, by have := run_endLoop (P := Try.prog) hl (by rw [hrec]; simp); rw [hrec] at this; exact this, ?_⟩
        exact hstop c pre _ hpre (hIx _ _ _ _ hi (below_put _ (by omega))) ((World.putObj_heap_other (by omega)).trans hk)
end Go.Proofs.Ytbmjhkimeeahhaa
