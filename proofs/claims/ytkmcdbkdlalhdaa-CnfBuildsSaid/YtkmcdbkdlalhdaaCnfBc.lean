/- What holds between the steps of a builder that is tried. No conditions. -/
import Derived.Test.YtkmcdbkdlalhdaaCnfBb
import Derived.Test.YtkmcdbkdlalhdaaCnfQ
namespace Go.Proofs.Ytkmcdbkdlalhdaa
open Go.RowKit Go.Maps Go.Lib Go.Sort
set_option linter.unusedVariables false
set_option linter.unusedSimpArgs false
/-- Block b is none of the builder's, and not the wanted formula's own. -/
def Apart (g k : Nat) (A : Option Addr) (b : Nat) : Prop := b ≠ g ∧ b ≠ k ∧ ∀ a, A = some a → a.block ≠ b
/-- w: the world at first; the builder lies in block g, with N variables and the clauses ls; the formula that is wanted in block k, with M variables and the clauses ms. -/
structure BS (w W : World) (g k : Nat) (N : Int) (A : Option Addr) (n c : Nat) (ls : List (List Int)) (M : Int) (A2 : Option Addr) (n2 c2 : Nat) (ms : List (List Int)) : Prop where
  below : Below w.heap.size w W
  bld : Bld W w.heap.size g N A n c ls
  box : W.heap[k]? = some (formO M A2 n2 c2 24)
  gk : g < k
  want : ListsP W (Apart g k A) A2 n2 ms
section
variable {w W W' : World} {g k ko n c n2 c2 n' c' n6 c6 : Nat} {N M N' M' : Int} {A A2 A' A6 : Option Addr} {ls ms ls' ms' : List (List Int)} {cs : Array Value}
theorem row_ne {j t : Nat} (h : OwnL W n' A n c ls) (hj : W.heap[j]? = some (.cells cs t (0, 0))) (ht : t ≠ 40) : ∀ a, A = some a → a.block ≠ j := by
  rintro a rfl rfl
  obtain ⟨vs, h1, -⟩ := h
  rcases h1.2 with ⟨e, -⟩ | ⟨g', cap, cur, e, h2, h3, -⟩
  · injection e with e; cases e
  · injection e with e
    injection e with e
    subst e
    rw [h3] at hj
    injection hj with hj
    injection hj with _ hj
    exact ht hj.symm
theorem row_lt (h : OwnL W n' A n c ls) : ∀ a, A = some a → a.block < W.heap.size := by
  rintro a rfl
  obtain ⟨vs, h1, -⟩ := h
  exact (h1.lt a.block rfl).2
theorem BS.later (h : BS w W g k N A n c ls M A2 n2 c2 ms) (hb : Below W.heap.size W W') : BS w W' g k N A n c ls M A2 n2 c2 ms :=
  ⟨after h.below hb h.below.size, h.bld.below hb, old_block hb (Array.getElem?_eq_some_iff.1 h.box).1 h.box, h.gk, h.want.keep hb.size fun b _ hl => hb.block b hl⟩
/-- The builder has turned. -/
theorem BS.bstep (h : BS w W g k N A n c ls M A2 n2 c2 ms) (hb : Bld W' w.heap.size g N' A' n' c' ls') (hk : Kept W W' g A) (hA : A' = A ∨ ∀ a, A' = some a → W.heap.size ≤ a.block) : BS w W' g k N' A' n' c' ls' M A2 n2 c2 ms := by
  have hx := (Array.getElem?_eq_some_iff.1 h.box).1
  refine ⟨h.below.trans (hk.below h.bld h.below.size), hb, (hk.block k hx (by have := h.gk; omega) (row_ne h.bld.row h.box (by decide))).trans h.box, h.gk, ?_⟩
  refine ((h.want.imp (P' := fun b => Apart g k A b ∧ b < W.heap.size) fun b hl hp => ⟨hp, hl⟩).keep hk.size fun b hp hl => hk.block b hl hp.1.1 hp.1.2.2).imp fun b hl hp => ?_
  refine ⟨hp.1.1, hp.1.2.1, ?_⟩
  rcases hA with rfl | hA
  · exact hp.1.2.2
  · intro a ha
    have := hA a ha
    have := hp.2
    omega
/-- A block of another kind stays while the builder turns. -/
theorem BS.oth (h : BS w W g k N A n c ls M A2 n2 c2 ms) (hk : Kept W W' g A) {t : Nat} (hg : ko ≠ g) (ht : t ≠ 40) (ho : W.heap[ko]? = some (.cells cs t (0, 0))) : W'.heap[ko]? = some (.cells cs t (0, 0)) :=
  (hk.block ko (Array.getElem?_eq_some_iff.1 ho).1 hg (row_ne h.bld.row ho ht)).trans ho
theorem Bld.put2 (h : Bld W n' g N A n c ls) (hk : W.heap[k]? = some (formO M A2 n2 c2 24)) (hg : g ≠ k) (u0 u1 : Value) : Bld ((W.setCell ⟨k, 0, none⟩ u0).setCell ⟨k, 1, none⟩ u1) n' g N A n c ls :=
  ⟨put2_other u0 u1 (Ne.symm hg) h.box, h.lo, h.row.put2 hk (by decide) (by decide) u0 u1⟩
/-- The wanted formula has turned. -/
theorem BS.put (h : BS w W g k N A n c ls M A2 n2 c2 ms) (hL : ListsP W' (fun b => Apart g k A b ∨ W.heap.size ≤ b) A6 n6 ms') (hb : Below W.heap.size W W') : BS w ((W'.setCell ⟨k, 0, none⟩ (.int .i64 M')).setCell ⟨k, 1, none⟩ (.slice A6 n6 c6)) g k N A n c ls M' A6 n6 c6 ms' := by
  have h' := h.later hb
  have hgl := (Array.getElem?_eq_some_iff.1 h.bld.box).1
  have hkl := (Array.getElem?_eq_some_iff.1 h.box).1
  have hgk := h.gk
  have hg0 := h.bld.lo
  refine ⟨put2_below _ _ h'.below (by omega), h'.bld.put2 h'.box (by omega) _ _, put2_heap _ _ h'.box, hgk, ?_⟩
  have h2 : ListsP W' (Apart g k A) A6 n6 ms' := hL.imp fun b hl hp => by
    rcases hp with hp | hp
    · exact hp
    · refine ⟨by omega, by omega, fun a ha => ?_⟩
      have := row_lt h.bld.row a ha
      omega
  refine h2.keep (by simp [World.setCell]) fun b hp hl => ?_
  have e := hp.2.1
  simp [World.setCell, Array.getElem?_modify, Ne.symm e]
theorem BS.setN_oth (h : BS w W g k N A n c ls M A2 n2 c2 ms) {t : Nat} (hk : ko ≠ k) (ho : W.heap[ko]? = some (.cells cs t (0, 0))) : (W.setCell ⟨k, 0, none⟩ (.int .i64 M')).heap[ko]? = some (.cells cs t (0, 0)) := by
  have : k ≠ ko := Ne.symm hk
  simp only [World.setCell, Array.getElem?_modify, this, if_false]
  exact ho
theorem BS.setN (h : BS w W g k N A n c ls M A2 n2 c2 ms) : BS w (W.setCell ⟨k, 0, none⟩ (.int .i64 M')) g k N A n c ls M' A2 n2 c2 ms := by
  have hgk := h.gk
  have hg0 := h.bld.lo
  refine ⟨h.below.setCell (by show w.heap.size ≤ k; omega) _, ⟨?_, hg0, h.bld.row.set1 h.box (by decide) (by decide) 0 _⟩, (set_at (.int .i64 M') h.box).1, hgk, h.want.keep (by simp [World.setCell]) fun b hp hl => ?_⟩
  · have : k ≠ g := by omega
    simp only [World.setCell, Array.getElem?_modify, this, if_false]
    exact h.bld.box
  · have e := hp.2.1
    simp [World.setCell, Array.getElem?_modify, Ne.symm e]
end
theorem IntsP.ints {w : World} {P : Nat → Prop} {A : Option Addr} {n c : Nat} {xs : List Int} (h : IntsP w P (.slice A n c) xs) : Ints w w.heap.size A n xs := by
  obtain ⟨A', c', e, -, -, h⟩ := h
  injection e with e1 e2 e3
  subst e1 e2 e3
  exact h.vals
theorem IntsP.later {w W : World} {v : Value} {xs : List Int} (h : IntsP w (fun j => j < w.heap.size) v xs) (hb : Below w.heap.size w W) : IntsP W (fun j => j < w.heap.size) v xs := h.keep hb.size fun b hp hl => hb.block b hp
theorem BS.arg {w W : World} {g k n c n2 c2 : Nat} {N M : Int} {A A2 : Option Addr} {ls ms : List (List Int)} (h : BS w W g k N A n c ls M A2 n2 c2 ms) {v : Value} {xs : List Int} (hi : IntsP w (fun j => j < w.heap.size) v xs) : IntsP W (Apart g k A) v xs :=
  (hi.later h.below).imp fun b hl hp => ⟨by have := h.bld.lo; omega, by have := h.bld.lo; have := h.gk; omega, fun a ha => by have := (h.bld.blk a ha).1; omega⟩
/-- A call of the tried builder lies in five cells. -/
def OpAt (w : World) (A : Option Addr) (i : Nat) : Prop :=
  ∃ b off kd x y A3 l3 c3 A4 l4 c4 xs ys, A = some ⟨b, off, none⟩ ∧ b < w.heap.size ∧ w.cell? ⟨b, off + i * 5, none⟩ = some (.int .i64 kd) ∧ w.cell? ⟨b, off + i * 5 + 1, none⟩ = some (.int .i64 x) ∧ w.cell? ⟨b, off + i * 5 + 2, none⟩ = some (.int .i64 y) ∧ w.cell? ⟨b, off + i * 5 + 3, none⟩ = some (.slice A3 l3 c3) ∧ w.cell? ⟨b, off + i * 5 + 4, none⟩ = some (.slice A4 l4 c4) ∧
    IntsP w (fun j => j < w.heap.size) (.slice A3 l3 c3) xs ∧ IntsP w (fun j => j < w.heap.size) (.slice A4 l4 c4) ys
end Go.Proofs.Ytkmcdbkdlalhdaa
