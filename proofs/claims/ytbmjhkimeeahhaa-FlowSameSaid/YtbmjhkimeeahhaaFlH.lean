/- What is reached, by the reference. Condition: fewer than a million instructions. -/
import Derived.Test.YtbmjhkimeeahhaaFlG
namespace Go.Proofs.Ytbmjhkimeeahhaa
open Go.RowKit Go.Maps
set_option linter.unusedVariables false
set_option linter.unusedSimpArgs false
theorem nodup_le : ∀ (n : Nat) (l : List Nat), l.Nodup → (∀ y ∈ l, y < n) → l.length ≤ n
  | 0, l, _, h => by
    cases l with
    | nil => simp
    | cons a l => exact absurd (h a (by simp)) (by omega)
  | n + 1, l, hd, h => by
    have h1 := nodup_le n (l.erase n) (hd.erase n) (fun y hy => by
      have h2 := (hd.mem_erase_iff).1 hy
      have := h y h2.2
      have := h2.1
      omega)
    have h3 := @List.length_erase _ _ _ n l
    split at h3 <;> omega
abbrev natV (l : List Nat) : List Value := l.map (fun (k : Nat) => Value.int .i64 (k : Int))
/-- The list that waits, in memory, and what was met. -/
structure RS (w0 W : World) (G n : Nat) (nx : Nat → List Nat) (i : Nat) (es : List Nat) (v : Value) (todo : List Nat) (out : Met) : Prop where
  bel : Below w0.heap.size w0 W
  bl : BlM W G n out
  row : W.ownsRow w0.heap.size 3 1 v todo.length (natV todo)
  wait : Wait nx 0 i es todo out
  lt : ∀ y ∈ todo, y < n
section
variable {w0 W W' : World} {G n i : Nat} {nx : Nat → List Nat} {es : List Nat} {v : Value} {todo : List Nat} {out : Met}
theorem RS.later (h : RS w0 W G n nx i es v todo out) (hb : Below W.heap.size W W') : RS w0 W' G n nx i es v todo out :=
  ⟨after h.bel hb h.bel.size, h.bl.later hb, row_at h.row (fun g q => hb.block g (row_lt h.row q).2), h.wait, h.lt⟩
theorem RS.len (h : RS w0 W G n nx i es v todo out) : todo.length ≤ n := nodup_le n todo h.wait.nodup h.lt
theorem RS.form (h : RS w0 W G n nx i es v todo out) (hn : n < 1000000) : ∃ A c, v = .slice A todo.length c ∧ IntsM W A (todo.map (fun (k : Nat) => (k : Int))) := by
  have h1 := h.row
  have h2 := h.len
  rw [show natV todo = (todo.map (fun (k : Nat) => (k : Int))).map (Value.int .i64) from by simp [natV]] at h1
  have := ints_owns h1 (by simp; omega)
  obtain ⟨A, c, e, hA⟩ := this
  exact ⟨A, c, by simpa using e, hA⟩
theorem RS.skip {k : Nat} (h : RS w0 W G n nx i (k :: es) v todo out) (hi : i < todo.length) (hk : out k = true) : RS w0 W G n nx i es v todo out := ⟨h.bel, h.bl, h.row, h.wait.skip hi hk, h.lt⟩
theorem RS.next (h : RS w0 W G n nx i [] v todo out) (hi : i < todo.length) {y : Nat} (hy : todo[i + 1]? = some y) : RS w0 W G n nx (i + 1) (nx y) v todo out := ⟨h.bel, h.bl, h.row, h.wait.next hi y hy, h.lt⟩
/-- One more waits: it is marked, then appended. -/
theorem RS.push {k : Nat} {W1 W2 W3 : World} {v' : Value} (h : RS w0 W G n nx i (k :: es) v todo out) (hi : i < todo.length) (hk : out k = false) (hkn : k < n) (hG : w0.heap.size ≤ G)
    (h1 : W1 = W.setCell ⟨G, k, none⟩ (.bool true)) (h2 : Below W1.heap.size W1 W2) (h3 : W3.ownsRow w0.heap.size 3 1 v' (todo.length + 1) (natV todo ++ [.int .i64 k])) (hg : W2.grownBy W3 v.ownBlock) : RS w0 W3 G n nx i es v' (todo ++ [k]) (mark out k) := by
  subst h1
  have hne := h.bl.not h.row (by decide)
  have hbl := (h.bl.set k).later h2
  have hs : (W.setCell ⟨G, k, none⟩ (.bool true)).heap.size = W.heap.size := by simp [World.setCell]
  have hb1 : Below w0.heap.size w0 (W.setCell ⟨G, k, none⟩ (.bool true)) := h.bel.setCell hG _
  have hb2 := after hb1 h2 hb1.size
  refine ⟨hb2.grown hg hb2.size (fun g q => (row_lt h.row q).1), hbl.grown hg hne, by simpa [natV] using h3, h.wait.push hi hk, fun y hy => ?_⟩
  rcases List.mem_append.1 hy with hy | hy
  · exact h.lt y hy
  · rw [List.mem_singleton] at hy
    omega
theorem RS.row2 {k : Nat} {W1 W2 : World} (h : RS w0 W G n nx i es v todo out) (h1 : W1 = W.setCell ⟨G, k, none⟩ (.bool true)) (h2 : Below W1.heap.size W1 W2) : W2.ownsRow w0.heap.size 3 1 v todo.length (natV todo) := by
  subst h1
  have hne := h.bl.not h.row (by decide)
  refine row_at h.row (fun g q => ?_)
  have hl := (row_lt h.row q).2
  rw [h2.block g (by simp [World.setCell]; exact hl)]
  exact Below.heap_setCell _ _ _ _ (fun e => hne (by rw [q]; simp at e; rw [e]))
end
end Go.Proofs.Ytbmjhkimeeahhaa
