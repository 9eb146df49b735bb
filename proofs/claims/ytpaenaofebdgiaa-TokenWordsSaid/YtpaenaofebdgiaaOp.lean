/- A slice of tokens that came in, opened. No conditions. -/
import Derived.Test.YtpaenaofebdgiaaWd
import Derived.Deep.Slices
import Derived.Deep.Fields
import Derived.ChangeSame
namespace Go.Proofs.Ytpaenaofebdgiaa
open Go.RowKit Go.ChangeShapes Go.WideShapes Go.Deep
set_option linter.unusedVariables false
set_option linter.unusedSimpArgs false
section
variable {H : Type} {enc : TypeId × Value → H} {w : World} {base : Nat} {spare : Nat → Bool} {held : Bool}
theorem trod_int1 {n t : Nat} {k : IntKind} {v : Value} {o : Option (DataW H × List MemPlace)} (ht : Try.prog.underlying t = some (.int k)) (h : DataW.trod enc Try.prog w base spare held n t [v] = o) (ho : o.isSome = true) : ∃ m, v = .int k m := by
  obtain ⟨y, hy⟩ := Option.isSome_iff_exists.1 ho
  obtain ⟨m, hc, -, -⟩ := DataW.trod_int ht (h.trans hy)
  exact ⟨m, by simpa using hc⟩
theorem trod_str1 {n t : Nat} {v : Value} {o : Option (DataW H × List MemPlace)} (ht : Try.prog.underlying t = some .string) (h : DataW.trod enc Try.prog w base spare held n t [v] = o) (ho : o.isSome = true) : ∃ m : ByteArray, v = .string m := by
  obtain ⟨y, hy⟩ := Option.isSome_iff_exists.1 ho
  obtain ⟨m, hc, -, -⟩ := DataW.trod_string ht (h.trans hy)
  exact ⟨m, by simpa using hc⟩
theorem some_at {α : Type} {l : List α} {i n : Nat} (hl : l.length = n) (hi : i < n) : (l[i]?).isSome = true := by
  rw [List.getElem?_eq_getElem (by omega)]; rfl
theorem open_tok {fuel : Nat} {cs : List Value} {x : DataW H × List MemPlace} (h : DataW.trod enc Try.prog w base spare held fuel 27 cs = some x) : ∃ t : Tk, cs = tkCells t := by
  obtain ⟨ys, n, -, -, hlen, hyl, hf⟩ := DataW.trod_struct Try.underlying27 h
  have h5 : Try.prog.cellsOf 27 = 5 := by kernel_rfl
  have c3 : Try.prog.cellsOf 3 = 1 := by kernel_rfl
  have c9 : Try.prog.cellsOf 9 = 1 := by kernel_rfl
  have c2 : Try.prog.cellsOf 2 = 1 := by kernel_rfl
  have c25 : Try.prog.cellsOf 25 = 2 := by kernel_rfl
  rw [h5] at hlen
  have hyl4 : ys.length = 4 := hyl
  match cs, hlen with
  | [v0, v1, v2, v3, v4], _ =>
    have f0 : DataW.trod enc Try.prog w base spare held n 3 (List.take (Try.prog.cellsOf 3) [v0, v1, v2, v3, v4]) = ys[0]? := hf 0 _ rfl
    have f1 : DataW.trod enc Try.prog w base spare held n 9 (List.take (Try.prog.cellsOf 9) [v1, v2, v3, v4]) = ys[1]? := hf 1 _ rfl
    have f2 : DataW.trod enc Try.prog w base spare held n 2 (List.take (Try.prog.cellsOf 2) [v2, v3, v4]) = ys[2]? := hf 2 _ rfl
    have f3 : DataW.trod enc Try.prog w base spare held n 25 (List.take (Try.prog.cellsOf 25) [v3, v4]) = ys[3]? := hf 3 _ rfl
    rw [c3] at f0
    rw [c9] at f1
    rw [c2] at f2
    rw [c25] at f3
    obtain ⟨k0, rfl⟩ := trod_int1 Try.underlying3 f0 (some_at hyl4 (by omega))
    obtain ⟨k1, rfl⟩ := trod_str1 Try.underlying9 f1 (some_at hyl4 (by omega))
    obtain ⟨k2, rfl⟩ := trod_int1 Try.underlying2 f2 (some_at hyl4 (by omega))
    obtain ⟨y3, hy3⟩ := Option.isSome_iff_exists.1 (some_at (l := ys) (i := 3) hyl4 (by omega))
    have f3' : DataW.trod enc Try.prog w base spare held n 25 [v3, v4] = some y3 := f3.trans hy3
    obtain ⟨zs, m, -, -, -, hzl, hg⟩ := DataW.trod_struct Try.underlying25 f3'
    have hzl2 : zs.length = 2 := hzl
    have g0 : DataW.trod enc Try.prog w base spare held m 3 (List.take (Try.prog.cellsOf 3) [v3, v4]) = zs[0]? := hg 0 _ rfl
    have g1 : DataW.trod enc Try.prog w base spare held m 3 (List.take (Try.prog.cellsOf 3) [v4]) = zs[1]? := hg 1 _ rfl
    rw [c3] at g0 g1
    obtain ⟨k3, rfl⟩ := trod_int1 Try.underlying3 g0 (some_at hzl2 (by omega))
    obtain ⟨k4, rfl⟩ := trod_int1 Try.underlying3 g1 (some_at hzl2 (by omega))
    exact ⟨⟨k0, k1, k2, k3, k4⟩, rfl⟩
theorem flat_inv : ∀ (xs : List Tk) (j : Nat) (u : Value), (xs.flatMap tkCells)[j]? = some u → ∃ x, xs[j / 5]? = some x ∧ (tkCells x)[j % 5]? = some u
  | [], j, u, h => by simp at h
  | y :: r, j, u, h => by
    rw [List.flatMap_cons] at h
    by_cases hj : j < 5
    · rw [List.getElem?_append_left (by simp [tkCells]; omega)] at h
      rw [Nat.div_eq_of_lt hj, Nat.mod_eq_of_lt hj]
      exact ⟨y, rfl, h⟩
    · rw [List.getElem?_append_right (by simp [tkCells]; omega)] at h
      obtain ⟨x, h1, h2⟩ := flat_inv r _ u h
      have e : (tkCells y).length = 5 := rfl
      rw [e] at h1 h2
      rw [show j / 5 = (j - 5) / 5 + 1 by omega, show j % 5 = (j - 5) % 5 by omega]
      exact ⟨x, by simpa using h1, h2⟩
theorem open_toks {fuel len cap : Nat} {ao : Option Addr} {x : DataW H × List MemPlace} (h : DataW.trod enc Try.prog w base (fun _ => true) held fuel 22 [.slice ao len cap] = some x) :
    ∃ xs : List Tk, xs.length = len ∧ LiesA w ao xs ∧ xs.length ≤ cap ∧ cap ≤ 9223372036854775807 := by
  have h5 : Try.prog.cellsOf 27 = 5 := by kernel_rfl
  rcases open_slice Try.underlying22 h with ⟨h0, -⟩ | ⟨a, l, c, m, n, D, Pl, hcs, hb, hl, hm, hmm, hx, hi⟩
  · simp at h0
    obtain ⟨rfl, rfl, rfl⟩ := h0
    exact ⟨[], rfl, .inl rfl, Nat.zero_le _, by omega⟩
  · simp at hcs
    obtain ⟨rfl, rfl, rfl⟩ := hcs
    have hmc : m = cap := by rw [hmm]; rfl
    unfold maxLen at hm
    have each : ∀ i, ∃ t : Tk, i < len → ∀ j, j < 5 → w.cell? (a.add (i * 5 + j)) = (tkCells t)[j]? := by
      intro i
      by_cases hil : i < len
      · obtain ⟨cs', hc, ht⟩ := hi i (by omega)
        obtain ⟨t, rfl⟩ := open_tok ht
        rw [h5] at hc
        obtain ⟨_, _, hat⟩ := World.cells?_some hc
        refine ⟨t, fun _ j hj => ?_⟩
        rw [← hat j hj, add_add]
      · exact ⟨⟨0, ⟨#[]⟩, 0, 0, 0⟩, fun q => absurd q hil⟩
    obtain ⟨f, hf⟩ := Classical.skolem.1 each
    refine ⟨(List.range len).map f, by simp, ?_, by simpa using hl, by omega⟩
    by_cases hz : len = 0
    · subst hz; exact .inl rfl
    · right
      have c0 := hf 0 (by omega) 0 (by omega)
      have hsp : a.spot = none := by
        have : w.cell? a = (tkCells (f 0))[0]? := by simpa [Addr.add] using c0
        unfold World.cell? at this
        split at this
        · cases hsp : a.spot with
          | none => rfl
          | some q => rw [hsp] at this; simp [tkCells] at this
        · simp [tkCells] at this
      obtain ⟨g, o, sp⟩ := a
      simp only at hsp
      subst hsp
      have cells : ∀ i j, i < len → j < 5 → w.cell? ⟨g, o + (i * 5 + j), none⟩ = (tkCells (f i))[j]? := fun i j h1 h2 => by
        rw [← hf i h1 j h2]
        unfold Addr.add
        split
        · rename_i e; rw [e]; rfl
        · rfl
      refine ⟨g, o, rfl, ?_, ?_⟩
      · have := cells 0 0 (by omega) (by omega)
        by_cases hg : g < w.heap.size
        · exact hg
        · unfold World.cell? at this
          have hno : w.heap[g]? = none := Array.getElem?_eq_none (by omega)
          simp [hno, tkCells] at this
      · intro j u hu
        obtain ⟨y, h1, h2⟩ := flat_inv _ _ _ hu
        have hjl : j / 5 < len := by have := (List.getElem?_eq_some_iff.1 h1).1; simpa using this
        rw [List.getElem?_map, List.getElem?_range hjl] at h1
        simp at h1
        subst h1
        have := cells (j / 5) (j % 5) hjl (by omega)
        rw [show o + (j / 5 * 5 + j % 5) = o + j by omega] at this
        rw [this]; exact h2
end
end Go.Proofs.Ytpaenaofebdgiaa
