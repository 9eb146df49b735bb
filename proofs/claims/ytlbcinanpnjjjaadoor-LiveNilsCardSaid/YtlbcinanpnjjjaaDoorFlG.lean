/- A block of truths in memory: made, read, written. No conditions. -/
import Derived.Test.YtlbcinanpnjjjaaDoorFlE
import Derived.Test.YtlbcinanpnjjjaaDoorFlF
import Derived.OwnWalk
namespace Go.Proofs.YtlbcinanpnjjjaaDoor
open Go.RowKit Go.Maps
set_option linter.unusedVariables false
set_option linter.unusedSimpArgs false
theorem info4 : (Tryd.prog.info? 4).map (fun i => (i.zero, i.size, i.bytes)) = some (some (.bool false), 1, 1) := by kernel_rfl
/-- n truths in block g: what is met. -/
def BlM (W : World) (g n : Nat) (m : Met) : Prop := ∃ cs : Array Value, W.heap[g]? = some (.cells cs 4 (0, 0)) ∧ cs.size = n ∧ ∀ i, i < n → cs[i]? = some (.bool (m i))
section
variable {W W' : World} {g n : Nat} {m : Met}
theorem BlM.lt (h : BlM W g n m) : g < W.heap.size := by
  obtain ⟨cs, h1, -⟩ := h
  exact (Array.getElem?_eq_some_iff.1 h1).1
theorem BlM.cell (h : BlM W g n m) {i : Nat} (hi : i < n) : W.cell? ⟨g, i, none⟩ = some (.bool (m i)) := by
  obtain ⟨cs, h1, h2, h3⟩ := h
  rw [cells_at h1 i]
  exact h3 i hi
theorem BlM.soft (h : BlM W g n m) (i : Nat) : W.frozen? ⟨g, i, none⟩ = false := by
  obtain ⟨cs, h1, -⟩ := h
  exact frozen_no h1 i
theorem BlM.at (h : BlM W g n m) (hb : W'.heap[g]? = W.heap[g]?) : BlM W' g n m := by
  obtain ⟨cs, h1, h2⟩ := h
  exact ⟨cs, hb.trans h1, h2⟩
theorem BlM.later (h : BlM W g n m) (hb : Below W.heap.size W W') : BlM W' g n m := h.at (hb.block g h.lt)
theorem BlM.set (h : BlM W g n m) (k : Nat) : BlM (W.setCell ⟨g, k, none⟩ (.bool true)) g n (mark m k) := by
  obtain ⟨cs, h1, h2, h3⟩ := h
  refine ⟨_, set_here h1 k _, by simp [h2], fun i hi => ?_⟩
  rw [Array.getElem?_setIfInBounds]
  by_cases hik : k = i
  · subst hik
    simp [h2, hi, mark]
  · rw [if_neg hik, h3 i hi]
    simp [mark, show (i == k) = false by simp; omega]
/-- A row of numbers isn't the block of truths. -/
theorem BlM.not (h : BlM W g n m) {base e size l : Nat} {v : Value} {xs : List Value} (hr : W.ownsRow base e size v l xs) (he : e ≠ 4) : v.ownBlock ≠ some g := by
  intro q
  obtain ⟨cs, h1, -⟩ := h
  rcases hr.2 with ⟨e0, -⟩ | ⟨g', cap, cur, e0, -, h2, -⟩
  · rw [e0] at q; simp [Value.ownBlock] at q
  · rw [e0] at q
    simp [Value.ownBlock] at q
    subst q
    rw [h1] at h2
    injection h2 with h2
    injection h2 with _ h2
    exact he h2.symm
theorem BlM.grown (h : BlM W g n m) {row : Option Nat} (hg : W.grownBy W' row) (hr : row ≠ some g) : BlM W' g n m := h.at (hg.block g h.lt (fun q => hr q.symm))
theorem BlM.made {base g : Nat} (h : W.ownsRow base 4 1 (.slice (some ⟨g, 0, none⟩) n n) n (madeCells (Value.cells (.bool false)) (n * 1)).toList) : BlM W g n (fun _ => false) := by
  rcases h.2 with ⟨e0, -⟩ | ⟨g', cap, cur, e0, -, h2, hn, hc, hs, ht⟩
  · simp at e0
  · injection e0 with e1 e2 e3
    injection e1 with e1
    injection e1 with e1
    subst e1 e3
    refine ⟨cur, h2, by omega, fun i hi => ?_⟩
    have hl : cur.toList.take (n * 1) = cur.toList := List.take_of_length_le (by simp; omega)
    rw [hl] at ht
    rw [← Array.getElem?_toList, ht]
    simp [madeCells, Value.cells, hi, Nat.mod_one]
/-- As a list. -/
theorem BlM.list (h : BlM W g n m) (hn : n ≤ 9223372036854775807) : BoolsM W (some ⟨g, 0, none⟩) ((List.range n).map m) := by
  refine ⟨by simpa using hn, fun i x hx => ?_⟩
  rw [List.getElem?_map] at hx
  obtain ⟨j, hj, rfl⟩ := Option.map_eq_some_iff.1 hx
  obtain ⟨hlt, rfl⟩ := List.getElem?_eq_some_iff.1 hj
  simp at hlt
  refine ⟨g, 0, rfl, h.lt, ?_⟩
  simp [BoolAt]
  exact h.cell hlt
end
/-- The edges, as what the walks go by. -/
def nxE (x : CoD) (k : Nat) : List Nat := (edgesL x k).map Int.toNat
theorem edges_in {x : CoD} {k : Nat} {v : Int} (h : v ∈ edgesL x k) : ∃ j : Nat, v = j ∧ j < x.ins.length := by
  unfold edgesL at h
  split at h
  · obtain ⟨-, h2⟩ := List.mem_filter.1 h
    simp [inN] at h2
    exact ⟨v.toNat, by omega, by omega⟩
  · cases h
theorem nxE_lt {x : CoD} {k j : Nat} (h : j ∈ nxE x k) : j < x.ins.length := by
  obtain ⟨v, hv, rfl⟩ := List.mem_map.1 h
  obtain ⟨j, rfl, hj⟩ := edges_in hv
  simpa using hj
theorem edges_get {x : CoD} {k i : Nat} {v : Int} (h : (edgesL x k)[i]? = some v) : ∃ j : Nat, v = j ∧ j < x.ins.length ∧ (nxE x k)[i]? = some j := by
  obtain ⟨j, rfl, hj⟩ := edges_in (List.mem_of_getElem? h)
  exact ⟨j, rfl, hj, by simp [nxE, List.getElem?_map, h]⟩
theorem nxE_len (x : CoD) (k : Nat) : (nxE x k).length = (edgesL x k).length := by simp [nxE]
theorem edges_few (x : CoD) (k : Nat) : (edgesL x k).length ≤ 2 := by
  unfold edgesL
  split
  · exact Nat.le_trans (List.length_filter_le _ _) (next_few _ _)
  · simp
end Go.Proofs.YtlbcinanpnjjjaaDoor
