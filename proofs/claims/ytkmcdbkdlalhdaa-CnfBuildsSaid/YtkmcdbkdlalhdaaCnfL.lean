/- A builder of formulas: what its methods leave. Conditions: at most 200000 clauses of at most 200000 numbers. -/
import Derived.Test.YtkmcdbkdlalhdaaCnfJ
import Derived.Test.YtkmcdbkdlalhdaaCnfK
import Derived.Deep.RegionLaw
namespace Go.Proofs.Ytkmcdbkdlalhdaa
open Go.RowKit Go.Maps Go.Lib Go.Sort
set_option linter.unusedVariables false
set_option linter.unusedSimpArgs false
abbrev bldP (g : Nat) : Value := .pointer (some ⟨g, 0, none⟩)
structure Bld (w : World) (base g : Nat) (N : Int) (A : Option Addr) (n c : Nat) (ls : List (List Int)) : Prop where
  box : w.heap[g]? = some (.cells #[.int .i64 N, .slice A n c] 64 (0, 0))
  lo : base ≤ g
  row : OwnL w base A n c ls
/-- Only block g, and the row that A lies in, may have turned. -/
structure Kept (w w' : World) (g : Nat) (A : Option Addr) : Prop where
  os : w'.os = w.os
  tape : w'.tape = w.tape
  output : w'.output = w.output
  size : w.heap.size ≤ w'.heap.size
  block : ∀ k, k < w.heap.size → k ≠ g → (∀ a, A = some a → a.block ≠ k) → w'.heap[k]? = w.heap[k]?
theorem Kept.refl (w : World) (g : Nat) (A : Option Addr) : Kept w w g A := ⟨rfl, rfl, rfl, Nat.le_refl _, fun _ _ _ _ => rfl⟩
theorem Bld.blk {w : World} {base g n c : Nat} {N : Int} {A : Option Addr} {ls : List (List Int)} (h : Bld w base g N A n c ls) : ∀ a, A = some a → base ≤ a.block ∧ a.block ≠ g := by
  intro a ha
  obtain ⟨vs, h1, -⟩ := h.row
  rcases h1.2 with ⟨e, -⟩ | ⟨g', cap, cur, e, h2, h3, -⟩
  · injection e with e; rw [ha] at e; cases e
  · injection e with e
    rw [ha] at e
    injection e with e
    subst e
    refine ⟨h2, ?_⟩
    rintro rfl
    have := h3.symm.trans h.box
    simp at this
theorem Kept.below {w w' : World} {base g n c : Nat} {N : Int} {A : Option Addr} {ls : List (List Int)} (h : Bld w base g N A n c ls) (hk : Kept w w' g A) (hb : base ≤ w.heap.size) : Below base w w' :=
  ⟨hk.os, hk.tape, hk.output, hk.size, fun k h1 => hk.block k (by omega) (by have := h.lo; omega) (fun a ha => by have := (h.blk a ha).1; omega)⟩
theorem Bld.below {w w' : World} {base g n c : Nat} {N : Int} {A : Option Addr} {ls : List (List Int)} (h : Bld w base g N A n c ls) (hb : Below w.heap.size w w') : Bld w' base g N A n c ls :=
  ⟨old_block hb (Array.getElem?_eq_some_iff.1 h.box).1 h.box, h.lo, h.row.below hb⟩
theorem new_i (w : World) : Calls Try.prog 17 #[] w fun e w' => e = .returned (bldP w.heap.size) ∧ Hid (Bld w' w.heap.size w.heap.size 0 none 0 0 []) ∧ Hid (Below w.heap.size w w') := by
  have HB := hid (below1 w (.cells #[.int .i64 0, .slice none 0 0] 64))
  have HX := hid (heap_alloc_new w (.cells #[.int .i64 0, .slice none 0 0] 64))
  go_enter Try.func17, Try.ntmps17
  go_wp2
  go_ret
  exact ⟨rfl, hid ⟨HX.out, Nat.le_refl _, OwnL.nil _ _⟩, HB⟩
theorem OwnL.set1 {W : World} {base n c k t : Nat} {A : Option Addr} {ls : List (List Int)} {cs : Array Value} (h : OwnL W base A n c ls) (hk : W.heap[k]? = some (.cells cs t (0, 0))) (h3 : t ≠ 3) (h40 : t ≠ 40) (i : Nat) (u : Value) :
    OwnL (W.setCell ⟨k, i, none⟩ u) base A n c ls := by
  have hg : W.grownBy (W.setCell ⟨k, i, none⟩ u) (some k) := ⟨rfl, rfl, rfl, by simp [World.setCell], fun i hi hne => by
    have : k ≠ i := fun e => hne (by rw [e])
    simp [World.setCell, Array.getElem?_modify, this]⟩
  refine h.grown hg fun j t' cur e ht hh => ?_
  cases e
  rw [hk] at hh
  injection hh with hh
  injection hh with _ hh
  rcases ht with rfl | rfl
  · exact h3 hh
  · exact h40 hh
theorem kept_set (W : World) (k i : Nat) (u : Value) (A : Option Addr) : Kept W (W.setCell ⟨k, i, none⟩ u) k A :=
  ⟨rfl, rfl, rfl, by simp [World.setCell], fun j hj hne _ => by simp [World.setCell, Array.getElem?_modify, Ne.symm hne]⟩
theorem set_at {W : World} {k t : Nat} {v0 v1 : Value} (u : Value) (h : W.heap[k]? = some (.cells #[v0, v1] t (0, 0))) : (W.setCell ⟨k, 0, none⟩ u).heap[k]? = some (.cells #[u, v1] t (0, 0)) ∧ (W.setCell ⟨k, 1, none⟩ u).heap[k]? = some (.cells #[v0, u] t (0, 0)) := by
  constructor <;> simp [World.setCell, Array.getElem?_modify, h]
theorem var_i (base g n c : Nat) (N : Nat) (A : Option Addr) (ls : List (List Int)) (w : World) (h : Bld w base g N A n c ls) (hN : N ≤ 100000) :
    Calls Try.prog 19 #[bldP g] w fun e w' => e = .returned (.int .i64 (N + 1 : Nat)) ∧ Hid (Bld w' base g (N + 1 : Nat) A n c ls) ∧ Hid (Kept w w' g A) := by
  obtain ⟨M, HM⟩ : ∃ M : Nat, Hid (N + 1 = M) := ⟨_, hid rfl⟩
  rw [HM.out]
  have hw : IntKind.i64.wrap ((N : Int) + 1) = M := by rw [IntKind.wrap_i64]; have := HM.out; omega
  have hx := cells_at h.box
  have hf := frozen_no h.box
  have H := hid h
  have HK := hid (kept_set w g 0 (.int .i64 M) A)
  have HS := hid ((set_at (.int .i64 M) h.box).1)
  have HR := hid (h.row.set1 h.box (by decide) (by decide) 0 (.int .i64 M))
  have hx2 := cells_at HS.out
  clear h
  go_enter Try.func19, Try.ntmps19
  go_wp2
  go_ret
  exact ⟨rfl, hid ⟨HS.out, H.out.lo, HR.out⟩, HK⟩
theorem var_nil (w : World) : Calls Try.prog 19 #[.pointer none] w fun e w' => e = .returned (.int .i64 0) ∧ w' = w := by
  go_enter Try.func19, Try.ntmps19
  go_wp2
  go_ret
  exact ⟨rfl, rfl⟩
end Go.Proofs.Ytkmcdbkdlalhdaa
