/- An instruction that came in, opened. No conditions. -/
import Derived.Test.YtplpjckkocccfaaIrR
import Derived.Deep.Slices
import Derived.Deep.Fields
import Derived.ChangeSame
namespace Go.Proofs.Ytplpjckkocccfaa
open Go.RowKit Go.ChangeShapes Go.WideShapes Go.Deep
set_option linter.unusedVariables false
set_option linter.unusedSimpArgs false
section
variable {H : Type} {enc : TypeId × Value → H} {w : World} {base : Nat} {spare : Nat → Bool} {held : Bool}
theorem trod_int1 {n t : Nat} {k : IntKind} {v : Value} {o : Option (DataW H × List MemPlace)} (ht : Try.prog.underlying t = some (.int k)) (h : DataW.trod enc Try.prog w base spare held n t [v] = o) (ho : o.isSome = true) : ∃ m, v = .int k m := by
  obtain ⟨y, hy⟩ := Option.isSome_iff_exists.1 ho
  obtain ⟨m, hc, -, -⟩ := DataW.trod_int ht (h.trans hy)
  exact ⟨m, by simpa using hc⟩
theorem some_at {α : Type} {l : List α} {i n : Nat} (hl : l.length = n) (hi : i < n) : (l[i]?).isSome = true := by
  rw [List.getElem?_eq_getElem (by omega)]; rfl
theorem lt_of_cell {a : Addr} {v : Value} (h : w.cell? a = some v) : a.block < w.heap.size := by
  by_cases hg : a.block < w.heap.size
  · exact hg
  · unfold World.cell? at h
    have hno : w.heap[a.block]? = none := Array.getElem?_eq_none (by omega)
    simp [hno] at h
theorem open_args {fuel : Nat} {v : Value} {x : DataW H × List MemPlace} (h : DataW.trod enc Try.prog w base spare held fuel 22 [v] = some x) : ∃ xs : List Int, Came w v xs := by
  rcases open_ints Try.underlying22 Try.underlying3 (by kernel_rfl) h with ⟨h0, -⟩ | ⟨a, len, cap, zs, hcs, hb, hl, hm, hzl, hx, hc, hw⟩
  · exact ⟨[], .inl ⟨by simpa using h0, rfl⟩⟩
  · have hle : len ≤ zs.length := by rw [hzl]; split <;> omega
    have hlt : (zs.take len).length = len := by simp; omega
    have hcell : ∀ (j : Nat) (x : Int), (zs.take len)[j]? = some x → w.cell? (a.add j) = some (.int .i64 x) := by
      intro j x hj
      have hjl : j < (zs.take len).length := (List.getElem?_eq_some_iff.1 hj).1
      rw [hlt] at hjl
      have h1 := hc j (by omega)
      rw [List.getElem?_take_of_lt hjl] at hj
      rw [h1, List.getD_eq_getElem?_getD, hj]
      rfl
    refine ⟨zs.take len, .inr ⟨a, cap, by rw [hlt]; simpa using hcs, fun hne => ?_, hcell⟩⟩
    obtain ⟨y, hy⟩ : ∃ y, (zs.take len)[0]? = some y := by
      cases hh : zs.take len with
      | nil => exact absurd hh hne
      | cons p q => exact ⟨p, rfl⟩
    have := lt_of_cell (hcell 0 y hy)
    rwa [add_block] at this
theorem open_ins {fuel : Nat} {cs : List Value} {x : DataW H × List MemPlace} (h : DataW.trod enc Try.prog w base spare held fuel 26 cs = some x) :
    ∃ (op d a b to el : Int) (c4 c5 c6 args c8 c11 c12 : Value) (xs : List Int), cs = [.int .i64 op, .int .i64 d, .int .i64 a, .int .i64 b, c4, c5, c6, args, c8, .int .i64 to, .int .i64 el, c11, c12] ∧ Came w args xs := by
  obtain ⟨ys, n, -, -, hlen, hyl, hf⟩ := DataW.trod_struct Try.underlying26 h
  have h13 : Try.prog.cellsOf 26 = 13 := by kernel_rfl
  have c3 : Try.prog.cellsOf 3 = 1 := by kernel_rfl
  have c22 : Try.prog.cellsOf 22 = 1 := by kernel_rfl
  rw [h13] at hlen
  have hyl12 : ys.length = 12 := hyl
  match cs, hlen with
  | [v0, v1, v2, v3, v4, v5, v6, v7, v8, v9, v10, v11, v12], _ =>
    have f0 : DataW.trod enc Try.prog w base spare held n 3 (List.take (Try.prog.cellsOf 3) [v0, v1, v2, v3, v4, v5, v6, v7, v8, v9, v10, v11, v12]) = ys[0]? := hf 0 _ rfl
    have f1 : DataW.trod enc Try.prog w base spare held n 3 (List.take (Try.prog.cellsOf 3) [v1, v2, v3, v4, v5, v6, v7, v8, v9, v10, v11, v12]) = ys[1]? := hf 1 _ rfl
    have f2 : DataW.trod enc Try.prog w base spare held n 3 (List.take (Try.prog.cellsOf 3) [v2, v3, v4, v5, v6, v7, v8, v9, v10, v11, v12]) = ys[2]? := hf 2 _ rfl
    have f3 : DataW.trod enc Try.prog w base spare held n 3 (List.take (Try.prog.cellsOf 3) [v3, v4, v5, v6, v7, v8, v9, v10, v11, v12]) = ys[3]? := hf 3 _ rfl
    have f7 : DataW.trod enc Try.prog w base spare held n 22 (List.take (Try.prog.cellsOf 22) [v7, v8, v9, v10, v11, v12]) = ys[7]? := hf 7 _ rfl
    have f9 : DataW.trod enc Try.prog w base spare held n 3 (List.take (Try.prog.cellsOf 3) [v9, v10, v11, v12]) = ys[9]? := hf 9 _ rfl
    have f10 : DataW.trod enc Try.prog w base spare held n 3 (List.take (Try.prog.cellsOf 3) [v10, v11, v12]) = ys[10]? := hf 10 _ rfl
    rw [c3] at f0 f1 f2 f3 f9 f10
    rw [c22] at f7
    obtain ⟨k0, rfl⟩ := trod_int1 Try.underlying3 f0 (some_at hyl12 (by omega))
    obtain ⟨k1, rfl⟩ := trod_int1 Try.underlying3 f1 (some_at hyl12 (by omega))
    obtain ⟨k2, rfl⟩ := trod_int1 Try.underlying3 f2 (some_at hyl12 (by omega))
    obtain ⟨k3, rfl⟩ := trod_int1 Try.underlying3 f3 (some_at hyl12 (by omega))
    obtain ⟨k9, rfl⟩ := trod_int1 Try.underlying3 f9 (some_at hyl12 (by omega))
    obtain ⟨k10, rfl⟩ := trod_int1 Try.underlying3 f10 (some_at hyl12 (by omega))
    obtain ⟨y7, hy7⟩ := Option.isSome_iff_exists.1 (some_at (l := ys) (i := 7) hyl12 (by omega))
    obtain ⟨xs, hxs⟩ := open_args (f7.trans hy7)
    exact ⟨k0, k1, k2, k3, k9, k10, v4, v5, v6, v7, v8, v11, v12, xs, rfl, hxs⟩
end
end Go.Proofs.Ytplpjckkocccfaa
