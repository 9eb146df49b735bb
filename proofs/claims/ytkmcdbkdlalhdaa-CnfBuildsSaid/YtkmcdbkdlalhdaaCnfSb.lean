/- Formulas that came in, opened. No conditions. -/
import Derived.Test.YtkmcdbkdlalhdaaCnfS
import Derived.Test.YtkmcdbkdlalhdaaCnfG
import Derived.Deep.Fields
namespace Go.Proofs.Ytkmcdbkdlalhdaa
open Go.RowKit Go.ChangeShapes Go.WideShapes Go.Deep
set_option linter.unusedVariables false
set_option linter.unusedSimpArgs false
section
variable {H : Type} {enc : TypeId × Value → H} {w : World} {base : Nat} {spare : Nat → Bool} {held : Bool}
theorem open_lists {fuel : Nat} {v : Value} {x : DataW H × List MemPlace} (h : DataW.trod enc Try.prog w base spare held fuel 22 [v] = some x) :
    ∃ (ls : List (List Int)) (A : Option Addr) (n cap : Nat), v = .slice A n cap ∧ Lists w w.heap.size A n ls := by
  have h1 : Try.prog.cellsOf 40 = 1 := by kernel_rfl
  rcases open_slice Try.underlying22 h with ⟨h0, -⟩ | ⟨a, len, cap, m, n, D, Pl, hcs, hb, hl, hm, hmm, hx, hi⟩
  · exact ⟨[], none, 0, 0, by simpa using h0, [], ⟨rfl, .inl rfl⟩, rfl, fun i xs hx => by simp at hx⟩
  · have hlm : len ≤ m := by rw [hmm]; split <;> omega
    have each : ∀ i, ∃ (u : Value) (xs : List Int), i < len → w.cell? (a.add i) = some u ∧ IsInts w w.heap.size u xs := by
      intro i
      by_cases hil : i < len
      · obtain ⟨cs', hc, ht⟩ := hi i (by omega)
        rw [h1] at hc
        obtain ⟨_, hcl, hat⟩ := World.cells?_some hc
        match cs', hcl with
        | [u], _ =>
          obtain ⟨xs, A, n', cap', rfl, h2, h3, h4, -⟩ := open_intsI ht
          have hn := h2.len
          subst hn
          refine ⟨_, xs, fun _ => ⟨?_, A, cap', rfl, h3, h4, h2⟩⟩
          have := hat (i := 0) (by omega)
          rw [Nat.mul_one] at this
          rw [show (a.add i).add 0 = a.add i by unfold Addr.add; simp] at this
          simpa using this
      · exact ⟨.bool false, [], fun q => absurd q hil⟩
    obtain ⟨f, hf⟩ := Classical.skolem.1 each
    obtain ⟨g, hg⟩ := Classical.skolem.1 hf
    refine ⟨(List.range len).map g, some a, len, cap, by simpa using hcs, (List.range len).map f, vals_mk (by simp) ?_, by simp, ?_⟩
    · intro i u hu
      rw [List.getElem?_map] at hu
      by_cases hil : i < len
      · rw [List.getElem?_range hil] at hu
        simp at hu
        subst hu
        exact (hg i hil).1
      · rw [List.getElem?_eq_none (by simp; omega)] at hu; cases hu
    · intro i xs hxs
      rw [List.getElem?_map] at hxs
      by_cases hil : i < len
      · rw [List.getElem?_range hil] at hxs
        simp at hxs
        subst hxs
        exact ⟨f i, by rw [List.getElem?_map, List.getElem?_range hil]; rfl, (hg i hil).2⟩
      · rw [List.getElem?_eq_none (by simp; omega)] at hxs; cases hxs
theorem trod_int1 {n t : Nat} {k : IntKind} {v : Value} {o : Option (DataW H × List MemPlace)} (ht : Try.prog.underlying t = some (.int k)) (h : DataW.trod enc Try.prog w base spare held n t [v] = o) (ho : o.isSome = true) : ∃ m, v = .int k m := by
  obtain ⟨y, hy⟩ := Option.isSome_iff_exists.1 ho
  obtain ⟨m, hc, -, -⟩ := DataW.trod_int ht (h.trans hy)
  exact ⟨m, by simpa using hc⟩
theorem some_at {α : Type} {l : List α} {i n : Nat} (hl : l.length = n) (hi : i < n) : (l[i]?).isSome = true := by
  rw [List.getElem?_eq_getElem (by omega)]; rfl
theorem open_form {fuel : Nat} {cs : List Value} {x : DataW H × List MemPlace} (h : DataW.trod enc Try.prog w base spare held fuel 24 cs = some x) :
    ∃ (N : Int) (ls : List (List Int)) (A : Option Addr) (n cap : Nat), cs = [.int .i64 N, .slice A n cap] ∧ Lists w w.heap.size A n ls := by
  obtain ⟨ys, n, -, -, hlen, hyl, hf⟩ := DataW.trod_struct Try.underlying24 h
  have h2 : Try.prog.cellsOf 24 = 2 := by kernel_rfl
  have c3 : Try.prog.cellsOf 3 = 1 := by kernel_rfl
  have c22 : Try.prog.cellsOf 22 = 1 := by kernel_rfl
  rw [h2] at hlen
  have hyl2 : ys.length = 2 := hyl
  match cs, hlen with
  | [v0, v1], _ =>
    have f0 : DataW.trod enc Try.prog w base spare held n 3 (List.take (Try.prog.cellsOf 3) [v0, v1]) = ys[0]? := hf 0 _ rfl
    have f1 : DataW.trod enc Try.prog w base spare held n 22 (List.take (Try.prog.cellsOf 22) [v1]) = ys[1]? := hf 1 _ rfl
    rw [c3] at f0
    rw [c22] at f1
    obtain ⟨k0, rfl⟩ := trod_int1 Try.underlying3 f0 (some_at hyl2 (by omega))
    obtain ⟨y1, hy1⟩ := Option.isSome_iff_exists.1 (some_at (l := ys) (i := 1) hyl2 (by omega))
    obtain ⟨ls, A, n', cap, rfl, hl⟩ := open_lists (f1.trans hy1)
    exact ⟨k0, ls, A, n', cap, rfl, hl⟩
end
theorem neg_ok {v : Int} (h : (Lit.int .i64 v).wf = true) : v < 1 ∨ IntKind.i64.wrap (-v) = -v := by
  by_cases h1 : v < 1
  · exact .inl h1
  · right
    simp [Lit.wf] at h
    rw [IntKind.wrap_i64]
    omega
end Go.Proofs.Ytkmcdbkdlalhdaa
