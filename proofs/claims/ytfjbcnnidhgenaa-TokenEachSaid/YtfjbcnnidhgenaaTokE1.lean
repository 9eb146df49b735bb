/- TokenEach: what is kept between two rounds: the plain laws. No conditions. -/
import Derived.Test.YtfjbcnnidhgenaaTokRefH
namespace Go.Proofs.Ytfjbcnnidhgenaa
open Go.RowKit Go.Shelf
set_option linter.unusedVariables false
set_option linter.unusedSimpArgs false
def dSt : Option D → Nat | none => 0 | some _ => 1
def dWh : Option D → Nat | none => 0 | some d => d.fault
def dLn : Option D → Nat | none => 0 | some d => d.line
def dCl : Option D → Nat | none => 0 | some d => d.col
theorem diagOf_eq (od : Option D) : diagOf od = .agg #[.int .i64 (dSt od), .int .i64 (dWh od), .int .i64 (dLn od), .int .i64 (dCl od)] := by cases od <;> rfl
/-- The caller's blocks between two rounds: the bound, the answer, the reference's tokens and diag, how many, was one wrong. -/
structure InvT (od : Option D) (cs : List Value) (stop : Int) (w : World) (B g : Nat) (v : Value) (m : Nat) (wr : Bool) (W : World) : Prop where
  b0 : W.heap[w.heap.size]? = some (.cells #[.int .i64 stop] 3 (0, 0))
  b1 : W.heap[w.heap.size + 1]? = some (.cells #[.bool false] 4 (0, 0))
  b2 : W.heap[B]? = some (.cells #[v] 23 (0, 0))
  b3 : W.heap[B + 1]? = some (.cells #[.int .i64 (dSt od), .int .i64 (dWh od), .int .i64 (dLn od), .int .i64 (dCl od)] 28 (0, 0))
  b4 : W.heap[B + 2]? = some (.cells #[.int .i64 m] 3 (0, 0))
  b5 : W.heap[B + 3]? = some (.cells #[.bool wr] 4 (0, 0))
  row : ∀ j u, cs[j]? = some u → W.cell? ⟨g, j, none⟩ = some u
  bel : Below w.heap.size w W
theorem cell_of_heap {A B : World} {g j : Nat} {u : Value} (h : B.heap[g]? = A.heap[g]?) (hc : A.cell? ⟨g, j, none⟩ = some u) : B.cell? ⟨g, j, none⟩ = some u := by
  simp only [World.cell?] at hc ⊢
  rw [h]; exact hc
theorem InvT.near {od : Option D} {cs : List Value} {stop : Int} {w : World} {B g m : Nat} {v : Value} {wr : Bool} {A C : World} {S : Nat} (h : InvT od cs stop w B g v m wr A) (hn : Near S A C) (hB : B + 4 ≤ S) (hg : g < B) (hw : w.heap.size + 2 ≤ B) : InvT od cs stop w B g v m wr C :=
  have hA := (Array.getElem?_eq_some_iff.1 h.b2).1
  ⟨near_block hn h.b0 (.inl (by omega)), near_block hn h.b1 (.inl (by omega)), near_block hn h.b2 (.inl (by omega)), near_block hn h.b3 (.inl (by omega)), near_block hn h.b4 (.inl (by omega)), near_block hn h.b5 (.inl (by omega)),
   fun j u hu => cell_of_heap (hn.block g (by omega) (.inl (by omega))) (h.row j u hu), near_below hn h.bel (by omega) (Nat.le_refl _)⟩
theorem blk1_put {W : World} {b t : Nat} {c u : Value} (h : W.heap[b]? = some (.cells #[c] t (0, 0))) : (W.setCell ⟨b, 0, none⟩ u).heap[b]? = some (.cells #[u] t (0, 0)) := by
  simp [World.setCell, Array.getElem?_modify, h]
theorem InvT.count {od : Option D} {cs : List Value} {stop : Int} {w : World} {B g m m' : Nat} {v : Value} {wr : Bool} {A : World} (h : InvT od cs stop w B g v m wr A) (x : Int) (hx : x = m') (hg : g < B) (hw : w.heap.size + 2 ≤ B) : InvT od cs stop w B g v m' wr (A.setCell ⟨B + 2, 0, none⟩ (.int .i64 x)) := by
  subst hx
  have o : ∀ k, k ≠ B + 2 → (A.setCell ⟨B + 2, 0, none⟩ (.int .i64 m')).heap[k]? = A.heap[k]? := fun k hk => Below.heap_setCell _ _ _ _ hk
  exact ⟨(o _ (by omega)).trans h.b0, (o _ (by omega)).trans h.b1, (o _ (by omega)).trans h.b2, (o _ (by omega)).trans h.b3, blk1_put h.b4, (o _ (by omega)).trans h.b5, fun j u hu => cell_of_heap (o g (by omega)) (h.row j u hu), h.bel.setCell (by show w.heap.size ≤ B + 2; omega) _⟩
theorem InvT.wrong {od : Option D} {cs : List Value} {stop : Int} {w : World} {B g m : Nat} {v : Value} {wr wr' : Bool} {A : World} (h : InvT od cs stop w B g v m wr A) (hg : g < B) (hw : w.heap.size + 2 ≤ B) : InvT od cs stop w B g v m wr' (A.setCell ⟨B + 3, 0, none⟩ (.bool wr')) := by
  have o : ∀ k, k ≠ B + 3 → (A.setCell ⟨B + 3, 0, none⟩ (.bool wr')).heap[k]? = A.heap[k]? := fun k hk => Below.heap_setCell _ _ _ _ hk
  exact ⟨(o _ (by omega)).trans h.b0, (o _ (by omega)).trans h.b1, (o _ (by omega)).trans h.b2, (o _ (by omega)).trans h.b3, (o _ (by omega)).trans h.b4, blk1_put h.b5, fun j u hu => cell_of_heap (o g (by omega)) (h.row j u hu), h.bel.setCell (by show w.heap.size ≤ B + 3; omega) _⟩
theorem InvT.drewN {od : Option D} {cs : List Value} {stop : Int} {w : World} {B g m : Nat} {v : Value} {wr : Bool} {A : World} (h : InvT od cs stop w B g v m wr A) (k : Nat) : InvT od cs stop w B g v m wr (A.drewN k) :=
  ⟨h.b0, h.b1, h.b2, h.b3, h.b4, h.b5, h.row, ⟨h.bel.os, h.bel.tape, h.bel.output, h.bel.size, h.bel.block⟩⟩
theorem InvT.drew {od : Option D} {cs : List Value} {stop : Int} {w : World} {B g m : Nat} {v : Value} {wr : Bool} {A : World} (h : InvT od cs stop w B g v m wr A) : InvT od cs stop w B g v m wr A.drew :=
  ⟨h.b0, h.b1, h.b2, h.b3, h.b4, h.b5, h.row, h.bel.drew⟩
theorem elems_get {ts : List T} {od : Option D} {pre rest : List El} {x : El} (h : elems (ts, od) = pre ++ x :: rest) :
    (pre.length < ts.length ∧ ∃ t, ts[pre.length]? = some t ∧ x = elT t) ∨ (pre.length = ts.length ∧ rest = [] ∧ ∃ d, od = some d ∧ x = elD d) := by
  unfold elems at h
  simp only at h
  have hx : (ts.map elT ++ (od.map elD).toList)[pre.length]? = some x := by rw [h]; simp
  by_cases hl : pre.length < ts.length
  · refine .inl ⟨hl, ts[pre.length], List.getElem?_eq_getElem hl, ?_⟩
    rw [List.getElem?_append_left (by simpa using hl), List.getElem?_map, List.getElem?_eq_getElem hl] at hx
    injection hx with hx; exact hx.symm
  · have hlen := congrArg List.length h
    simp only [List.length_append, List.length_map, List.length_cons] at hlen
    cases od with
    | none => simp at hlen; omega
    | some d =>
      simp at hlen
      have e : pre.length = ts.length := by omega
      refine .inr ⟨e, List.eq_nil_of_length_eq_zero (by omega), d, rfl, ?_⟩
      rw [List.getElem?_append_right (by simp; omega)] at hx
      simp [e] at hx
      exact hx.symm
theorem elems_get2 {r : List T × Option D} {pre rest : List El} {x : El} (h : elems r = pre ++ x :: rest) :
    (pre.length < r.1.length ∧ ∃ t, r.1[pre.length]? = some t ∧ x = elT t) ∨ (pre.length = r.1.length ∧ rest = [] ∧ ∃ d, r.2 = some d ∧ x = elD d) := elems_get (ts := r.1) (od := r.2) h
theorem elems_len (r : List T × Option D) : (elems r).length = r.1.length + (dSt r.2) := by
  unfold elems; cases r.2 <;> simp [dSt]
end Go.Proofs.Ytfjbcnnidhgenaa
