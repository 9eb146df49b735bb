/- Scan in two forms, tokens in their cells. Condition: at most 1000000 bytes. -/
import Derived.Test.YtpaenaofebdgiaaTokV
import Derived.Test.YtpaenaofebdgiaaTokW
namespace Go.Proofs.Ytpaenaofebdgiaa
open Go.RowKit
set_option linter.unusedVariables false
set_option linter.unusedSimpArgs false
theorem scan_bad (s : ByteArray) (w : World) (hs : s.size ≤ 1000000) {d : D} (hd : (scanL s.data.toList).2 = some d) :
    Calls Try.prog 14 #[.string s] w fun e w' => e = .returned (.tuple #[.slice none 0 0, diagV 1 d.fault d.line d.col]) ∧ Hid (Below w.heap.size w w') := by
  refine (scan_i s w hs).mono ?_
  rintro e w' ⟨hb, ⟨hn, -⟩ | ⟨d', hd', he⟩⟩
  · rw [hd] at hn; cases hn
  · rw [hd] at hd'; injection hd' with h; subst h; exact ⟨he, hb⟩
theorem scan_ok (s : ByteArray) (w : World) (hs : s.size ≤ 1000000) (hd : (scanL s.data.toList).2 = none) (h0 : (scanL s.data.toList).1.length ≠ 0) :
    Calls Try.prog 14 #[.string s] w fun e w' => ∃ g cap, e = .returned (.tuple #[.slice (some ⟨g, 0, none⟩) (scanL s.data.toList).1.length cap, .agg #[.int .i64 0, .int .i64 0, .int .i64 0, .int .i64 0]]) ∧ (scanL s.data.toList).1.length ≤ cap ∧ cap ≤ 9223372036854775807 ∧
      Hid (Below w.heap.size w w') ∧ Hid (w.heap.size ≤ g ∧ g < w'.heap.size) ∧ Hid (∀ j u, (((scanL s.data.toList).1.map elT).flatMap tokCells)[j]? = some u → w'.cell? ⟨g, j, none⟩ = some u) := by
  refine (scan_i s w hs).mono ?_
  rintro e w' ⟨hb, ⟨hn, v, rfl, hown⟩ | ⟨d', hd', he⟩⟩
  · obtain ⟨g, cap, rfl, h1, h2, h3, hc⟩ := row_cell hown h0
    exact ⟨g, cap, rfl, h1, h2, hb, ⟨h3, (hown.lt g rfl).2⟩, hc⟩
  · rw [hd] at hd'; cases hd'
theorem flat_get : ∀ (xs : List El) (i j : Nat) (x : El), xs[i]? = some x → j < 5 → (xs.flatMap tokCells)[i * 5 + j]? = (tokCells x)[j]?
  | [], i, j, x, h, _ => by simp at h
  | y :: r, 0, j, x, h, hj => by
    simp at h; subst h
    rw [List.flatMap_cons, List.getElem?_append_left (by simp [tokCells]; omega)]
    simp
  | y :: r, i + 1, j, x, h, hj => by
    simp at h
    rw [List.flatMap_cons, List.getElem?_append_right (by simp [tokCells]; omega)]
    have := flat_get r i j x h hj
    rw [show (i + 1) * 5 + j - (tokCells y).length = i * 5 + j by simp [tokCells]; omega]
    exact this
theorem pos_nl {s : ByteArray} {b l c : Nat} (hb : b < s.size) (h : posL s.data.toList b = (l, c)) (h10 : ((s[b].toNat : Int) == 10) = true) : posL s.data.toList (b + 1) = (l + 1, 1) := by
  rw [posL_succ (drop_at s b hb), h]
  have e : (s[b] == 10) = true := by rw [← beqI]; exact h10
  have e' : s[b] = 10 := by simpa using e
  simp [stepP, e']
theorem pos_no {s : ByteArray} {b l c : Nat} (hb : b < s.size) (h : posL s.data.toList b = (l, c)) (h10 : ((s[b].toNat : Int) == 10) = false) : posL s.data.toList (b + 1) = (l, c + 1) := by
  rw [posL_succ (drop_at s b hb), h]
  have e : (s[b] == 10) = false := by rw [← beqI]; exact h10
  have e' : ¬ s[b] = 10 := by simpa using e
  simp [stepP, e']
theorem blk2f {W : World} {k t : Nat} {v0 v1 : Value} (h : W.heap[k]? = some (.cells #[v0, v1] t (0, 0))) :
    W.cell? ⟨k, 0, none⟩ = some v0 ∧ W.cell? ⟨k, 1, none⟩ = some v1 ∧ W.frozen? ⟨k, 0, none⟩ = false ∧ W.frozen? ⟨k, 1, none⟩ = false := by
  simp [World.cell?, World.frozen?, h]
theorem put2_heap {W : World} {k t N : Nat} {v0 v1 : Value} (u0 u1 : Value) (h : W.heap[k]? = some (.cells #[v0, v1] t (0, 0))) : (((W.drewN N).setCell ⟨k, 0, none⟩ u0).setCell ⟨k, 1, none⟩ u1).heap[k]? = some (.cells #[u0, u1] t (0, 0)) := by

  simp [World.setCell, Array.getElem?_modify, h]
theorem put1_heap {W : World} {k t N : Nat} {v0 v1 : Value} (u1 : Value) (h : W.heap[k]? = some (.cells #[v0, v1] t (0, 0))) : ((W.drewN N).setCell ⟨k, 1, none⟩ u1).heap[k]? = some (.cells #[v0, u1] t (0, 0)) := by

  simp [World.setCell, Array.getElem?_modify, h]
end Go.Proofs.Ytpaenaofebdgiaa
