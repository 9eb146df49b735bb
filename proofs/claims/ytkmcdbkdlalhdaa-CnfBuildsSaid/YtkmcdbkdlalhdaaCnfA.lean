/- Words for memory: a slice of numbers, of truths, of clauses; what a call leaves. No conditions. -/
import Derived.Test.YtkmcdbkdlalhdaaProg
import Derived.WalkKit
import Derived.BigQuiet
import Derived.Deep.QuietTactic
import Derived.Deep.LoopGhost
import Derived.RegionTactic
import Derived.WalkSpells
import Derived.Outline
import Derived.Laws.NewBlocks
import Derived.Laws.ResultCell
import Derived.Maps.Own
import Derived.Maps.OwnOps
import Derived.Maps.OwnSet
import Derived.Maps.AppendAt
import Derived.Lib.SliceRun
namespace Go.Proofs.Ytkmcdbkdlalhdaa
open Go.RowKit Go.Maps
set_option linter.unusedVariables false
set_option linter.unusedSimpArgs false
theorem hid {p : Prop} (h : p) : Hid p := h
theorem old_block {n : Nat} {w W : World} {o : Obj} {k : Nat} (h : Below n w W) (hk : k < n) (hb : w.heap[k]? = some o) : W.heap[k]? = some o := (h.block k hk).trans hb
theorem cells_at {W : World} {k t : Nat} {vs : Array Value} (h : W.heap[k]? = some (.cells vs t (0, 0))) (i : Nat) : W.cell? ⟨k, i, none⟩ = vs[i]? := by
  simp [World.cell?, h]
theorem after {n : Nat} {w w1 w2 : World} (h : Below n w w1) (h2 : Below w1.heap.size w1 w2) (hn : n ≤ w1.heap.size) : Below n w w2 := h.trans (h2.mono hn)
theorem below1 (w : World) (o : Obj) : Below w.heap.size w (w.alloc o) := (Below.refl _ _).alloc (Nat.le_refl _) _
theorem below2 (w : World) (o p : Obj) : Below w.heap.size w ((w.alloc o).alloc p) := (below1 w o).alloc (by simp) _
theorem below3 (w : World) (o p q : Obj) : Below w.heap.size w (((w.alloc o).alloc p).alloc q) := (below2 w o p).alloc (by simp; omega) _
theorem below_drewN {n : Nat} {w W : World} (h : Below n w W) (k : Nat) : Below n w (W.drewN k) := ⟨h.os, h.tape, h.output, h.size, h.block⟩
theorem ret_bool {a b : Bool} (h : a = b) : Ending.returned (.bool a) = .returned (.bool b) := by rw [h]

/-- The slice at A of n places holds the values xs, below block B. -/
def Vals (w : World) (B : Nat) (A : Option Addr) (n : Nat) (xs : List Value) : Prop :=
  xs.length = n ∧ (n = 0 ∨ ∃ b off, A = some ⟨b, off, none⟩ ∧ b < B ∧ ∀ j u, xs[j]? = some u → w.cell? ⟨b, off + j, none⟩ = some u)
section
variable {w w' : World} {B B' n : Nat} {A : Option Addr} {xs : List Value}
theorem Vals.keep (h : Vals w B A n xs) (hk : ∀ p : Addr, p.block < B → w'.cell? p = w.cell? p) : Vals w' B A n xs :=
  ⟨h.1, h.2.imp id fun ⟨b, off, e, hb, hc⟩ => ⟨b, off, e, hb, fun j u hu => (hk _ hb).trans (hc j u hu)⟩⟩
theorem Vals.more (h : Vals w B A n xs) (hB : B ≤ B') : Vals w B' A n xs :=
  ⟨h.1, h.2.imp id fun ⟨b, off, e, hb, hc⟩ => ⟨b, off, e, Nat.lt_of_lt_of_le hb hB, hc⟩⟩
theorem Vals.below (h : Vals w B A n xs) (hb : Below B w w') : Vals w' B A n xs := h.keep fun _ hp => hb.cell hp
theorem Vals.at_ (h : Vals w B A n xs) {k : Nat} (hk : k < n) : ∃ b off u, A = some ⟨b, off, none⟩ ∧ b < B ∧ xs[k]? = some u ∧ w.cell? ⟨b, off + k, none⟩ = some u := by
  rcases h.2 with h0 | ⟨b, off, e, hb, hc⟩
  · omega
  · have hl : k < xs.length := by have := h.1; omega
    exact ⟨b, off, xs[k], e, hb, List.getElem?_eq_getElem hl, hc k _ (List.getElem?_eq_getElem hl)⟩
theorem Vals.of_own {base : Nat} {e : TypeId} {c : Nat} (h : w.ownsRow base e 1 (.slice A n c) n xs) : Vals w w.heap.size A n xs := by
  have hl : xs.length = n := by have := h.1; omega
  refine ⟨hl, ?_⟩
  rcases Nat.eq_zero_or_pos n with h0 | hn
  · exact .inl h0
  · obtain ⟨g, hA, hlt⟩ : ∃ g, A = some ⟨g, 0, none⟩ ∧ g < w.heap.size := by
      rcases h.2 with ⟨-, e⟩ | ⟨g, cap, cur, hv, -, hg, -⟩
      · omega
      · exact ⟨g, by injection hv, (Array.getElem?_eq_some_iff.1 hg).1⟩
    subst hA
    refine .inr ⟨g, 0, rfl, hlt, fun j u hu => ?_⟩
    have := h.cells (g := g) rfl j u hu
    unfold Addr.add at this
    split at this
    · rename_i hj; subst hj; simpa using this
    · simpa using this
end
/-- .. numbers. -/
def Ints (w : World) (B : Nat) (A : Option Addr) (n : Nat) (xs : List Int) : Prop := Vals w B A n (xs.map (Value.int .i64))
/-- .. truths. -/
def Bools (w : World) (B : Nat) (A : Option Addr) (n : Nat) (xs : List Bool) : Prop := Vals w B A n (xs.map Value.bool)
/-- The value is a slice of numbers. -/
def IsInts (w : World) (B : Nat) (v : Value) (xs : List Int) : Prop := ∃ A c, v = .slice A xs.length c ∧ xs.length ≤ c ∧ c ≤ 9223372036854775807 ∧ Ints w B A xs.length xs
/-- The slice at A of n places holds the clauses ls. -/
def Lists (w : World) (B : Nat) (A : Option Addr) (n : Nat) (ls : List (List Int)) : Prop :=
  ∃ vs : List Value, Vals w B A n vs ∧ vs.length = ls.length ∧ ∀ (i : Nat) (xs : List Int), ls[i]? = some xs → ∃ v, vs[i]? = some v ∧ IsInts w B v xs
section
variable {w w' : World} {B B' n : Nat} {A : Option Addr}
theorem Ints.len {xs : List Int} (h : Ints w B A n xs) : xs.length = n := by have := h.1; simpa using this
theorem Ints.below {xs : List Int} (h : Ints w B A n xs) (hb : Below B w w') : Ints w' B A n xs := Vals.below h hb
theorem Ints.more {xs : List Int} (h : Ints w B A n xs) (hB : B ≤ B') : Ints w B' A n xs := Vals.more h hB
theorem Ints.at_ {xs : List Int} (h : Ints w B A n xs) {k : Nat} (hk : k < n) : ∃ b off x, A = some ⟨b, off, none⟩ ∧ b < B ∧ xs[k]? = some x ∧ w.cell? ⟨b, off + k, none⟩ = some (.int .i64 x) := by
  obtain ⟨b, off, u, e, hb, hu, hc⟩ := Vals.at_ h hk
  rw [List.getElem?_map] at hu
  cases hx : xs[k]? with
  | none => rw [hx] at hu; cases hu
  | some x => rw [hx] at hu; cases hu; exact ⟨b, off, x, e, hb, rfl, hc⟩
theorem Bools.len {xs : List Bool} (h : Bools w B A n xs) : xs.length = n := by have := h.1; simpa using this
theorem Bools.below {xs : List Bool} (h : Bools w B A n xs) (hb : Below B w w') : Bools w' B A n xs := Vals.below h hb
theorem Bools.more {xs : List Bool} (h : Bools w B A n xs) (hB : B ≤ B') : Bools w B' A n xs := Vals.more h hB
theorem Bools.at_ {xs : List Bool} (h : Bools w B A n xs) {k : Nat} (hk : k < n) : ∃ b off x, A = some ⟨b, off, none⟩ ∧ b < B ∧ xs[k]? = some x ∧ w.cell? ⟨b, off + k, none⟩ = some (.bool x) := by
  obtain ⟨b, off, u, e, hb, hu, hc⟩ := Vals.at_ h hk
  rw [List.getElem?_map] at hu
  cases hx : xs[k]? with
  | none => rw [hx] at hu; cases hu
  | some x => rw [hx] at hu; cases hu; exact ⟨b, off, x, e, hb, rfl, hc⟩
theorem IsInts.below {v : Value} {xs : List Int} (h : IsInts w B v xs) (hb : Below B w w') : IsInts w' B v xs := by
  obtain ⟨A, c, e, h1, h2, h3⟩ := h
  exact ⟨A, c, e, h1, h2, h3.below hb⟩
theorem IsInts.more {v : Value} {xs : List Int} (h : IsInts w B v xs) (hB : B ≤ B') : IsInts w B' v xs := by
  obtain ⟨A, c, e, h1, h2, h3⟩ := h
  exact ⟨A, c, e, h1, h2, h3.more hB⟩
theorem Lists.len {ls : List (List Int)} (h : Lists w B A n ls) : ls.length = n := by
  obtain ⟨vs, h1, h2, -⟩ := h
  have := h1.1; omega
theorem Lists.below {ls : List (List Int)} (h : Lists w B A n ls) (hb : Below B w w') : Lists w' B A n ls := by
  obtain ⟨vs, h1, h2, h3⟩ := h
  exact ⟨vs, h1.below hb, h2, fun i xs hx => let ⟨v, hv, hi⟩ := h3 i xs hx; ⟨v, hv, hi.below hb⟩⟩
theorem Lists.more {ls : List (List Int)} (h : Lists w B A n ls) (hB : B ≤ B') : Lists w B' A n ls := by
  obtain ⟨vs, h1, h2, h3⟩ := h
  exact ⟨vs, h1.more hB, h2, fun i xs hx => let ⟨v, hv, hi⟩ := h3 i xs hx; ⟨v, hv, hi.more hB⟩⟩
theorem Lists.at_ {ls : List (List Int)} (h : Lists w B A n ls) {k : Nat} (hk : k < n) :
    ∃ b off xs A' c, A = some ⟨b, off, none⟩ ∧ b < B ∧ ls[k]? = some xs ∧ w.cell? ⟨b, off + k, none⟩ = some (.slice A' xs.length c) ∧ xs.length ≤ c ∧ c ≤ 9223372036854775807 ∧ Ints w B A' xs.length xs := by
  have hl := h.len
  obtain ⟨vs, h1, h2, h3⟩ := h
  obtain ⟨b, off, u, e, hb, hu, hc⟩ := h1.at_ hk
  obtain ⟨v, hv, A', c, rfl, i1, i2, i3⟩ := h3 k ls[k] (List.getElem?_eq_getElem (by omega))
  rw [hu] at hv; cases hv
  exact ⟨b, off, _, A', c, e, hb, List.getElem?_eq_getElem (by omega), hc, i1, i2, i3⟩
end
theorem Ints.nil (w : World) (B : Nat) (A : Option Addr) : Ints w B A 0 [] := ⟨rfl, .inl rfl⟩
theorem Ints.own {w : World} {base : Nat} {A : Option Addr} {n c : Nat} {xs : List Int} (h : w.ownsRow base 3 1 (.slice A n c) n (xs.map (Value.int .i64))) : Ints w w.heap.size A n xs := Vals.of_own h
end Go.Proofs.Ytkmcdbkdlalhdaa
