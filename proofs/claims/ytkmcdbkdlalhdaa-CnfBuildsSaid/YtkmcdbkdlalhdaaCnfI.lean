/- Slices of clauses of the call's own; a formula copied. Conditions: at most 200000 clauses of at most 200000 numbers. -/
import Derived.Test.YtkmcdbkdlalhdaaCnfG
import Derived.OwnWalk
import Derived.Deep.RegionLaw
namespace Go.Proofs.Ytkmcdbkdlalhdaa
open Go.RowKit Go.Maps Go.Lib Go.Sort
set_option linter.unusedVariables false
set_option linter.unusedSimpArgs false
theorem info3 : (Try.prog.info? 3).map (fun i => (i.zero, i.size, i.bytes)) = some (some (.int .i64 0), 1, 8) := by kernel_rfl
theorem info40 : (Try.prog.info? 40).map (fun i => (i.zero, i.size, i.bytes)) = some (some (.slice none 0 0), 1, 24) := by kernel_rfl
/-- A slice of clauses, itself and each clause of the call's own. -/
def OwnL (w : World) (base : Nat) (A : Option Addr) (n c : Nat) (ls : List (List Int)) : Prop :=
  ∃ vs : List Value, w.ownsRow base 40 1 (.slice A n c) n vs ∧ vs.length = ls.length ∧ ∀ (i : Nat) (xs : List Int), ls[i]? = some xs → ∃ A' n' c', vs[i]? = some (.slice A' n' c') ∧ Own w base A' n' c' xs
theorem own_form' {w : World} {base e n : Nat} {v : Value} {xs : List Value} (h : w.ownsRow base e 1 v n xs) : ∃ A c, v = .slice A n c := by
  rcases h.2 with ⟨e, h0⟩ | ⟨g, cap, cur, e, -⟩
  · exact ⟨_, _, by rw [e, h0]⟩
  · exact ⟨_, _, e⟩
theorem owns_below {w w' : World} {base e n : Nat} {v : Value} {xs : List Value} (h : w.ownsRow base e 1 v n xs) (hb : Below w.heap.size w w') : w'.ownsRow base e 1 v n xs := by
  refine ⟨h.1, h.2.imp id ?_⟩
  rintro ⟨g, cap, cur, e, h1, h2, h3⟩
  exact ⟨g, cap, cur, e, h1, old_block hb (Array.getElem?_eq_some_iff.1 h2).1 h2, h3⟩
theorem OwnL.below {w w' : World} {base n c : Nat} {A : Option Addr} {ls : List (List Int)} (h : OwnL w base A n c ls) (hb : Below w.heap.size w w') : OwnL w' base A n c ls := by
  obtain ⟨vs, h1, h2, h3⟩ := h
  refine ⟨vs, owns_below h1 hb, h2, fun i xs hx => ?_⟩
  obtain ⟨A', n', c', hv, ho⟩ := h3 i xs hx
  exact ⟨A', n', c', hv, ho.below hb⟩
theorem OwnL.low {w : World} {base base' n c : Nat} {A : Option Addr} {ls : List (List Int)} (h : OwnL w base A n c ls) (hb : base' ≤ base) : OwnL w base' A n c ls := by
  obtain ⟨vs, h1, h2, h3⟩ := h
  refine ⟨vs, ⟨h1.1, h1.2.imp id ?_⟩, h2, fun i xs hx => ?_⟩
  · rintro ⟨g, cap, cur, e, h1, h2⟩
    exact ⟨g, cap, cur, e, by omega, h2⟩
  · obtain ⟨A', n', c', hv, ho⟩ := h3 i xs hx
    exact ⟨A', n', c', hv, ho.low hb⟩
theorem OwnL.nil (w : World) (base : Nat) : OwnL w base none 0 0 [] := ⟨[], ⟨rfl, .inl ⟨rfl, rfl⟩⟩, rfl, fun i xs hx => by simp at hx⟩
theorem OwnL.new {w : World} {base n c : Nat} {A : Option Addr} (h : w.ownsRow base 40 1 (.slice A n c) n []) : OwnL w base A n c [] := ⟨[], h, rfl, fun i xs hx => by simp at hx⟩
theorem OwnL.len {w : World} {base n c : Nat} {A : Option Addr} {ls : List (List Int)} (h : OwnL w base A n c ls) : ls.length = n := by
  obtain ⟨vs, h1, h2, -⟩ := h
  have := h1.1; omega
theorem OwnL.lists {w : World} {base n c : Nat} {A : Option Addr} {ls : List (List Int)} (h : OwnL w base A n c ls) : Lists w w.heap.size A n ls := by
  obtain ⟨vs, h1, h2, h3⟩ := h
  refine ⟨vs, Vals.of_own h1, h2, fun i xs hx => ?_⟩
  obtain ⟨A', n', c', hv, ho⟩ := h3 i xs hx
  exact ⟨_, hv, ho.isInts⟩
theorem Own.grown {w w' : World} {base n c : Nat} {A : Option Addr} {xs : List Int} {row : Option Nat} (h : Own w base A n c xs) (hg : w.grownBy w' row) (hr : ∀ k cur, row = some k → w.heap[k]? ≠ some (.cells cur 3 (0, 0))) : Own w' base A n c xs := by
  refine ⟨h.1, h.2.imp id ?_⟩
  rintro ⟨g, cap, cur, e, h1, h2, h3⟩
  refine ⟨g, cap, cur, e, h1, (hg.block g (Array.getElem?_eq_some_iff.1 h2).1 ?_).trans h2, h3⟩
  intro q
  exact hr g cur q.symm h2
theorem row_not3 {w : World} {base n c : Nat} {A : Option Addr} {vs : List Value} (h : w.ownsRow base 40 1 (.slice A n c) n vs) : ∀ k cur, Value.ownBlock (.slice A n c) = some k → w.heap[k]? ≠ some (.cells cur 3 (0, 0)) := by
  intro k cur hk hh
  rcases h.2 with ⟨e, -⟩ | ⟨g, cap, cur', e, -, h2, -⟩
  · rw [e] at hk; simp [Value.ownBlock] at hk
  · rw [e] at hk
    simp [Value.ownBlock] at hk
    subst hk
    rw [h2] at hh
    cases hh
/-- One clause more. -/
theorem OwnL.push {w w' : World} {base n c n2 c2 : Nat} {A A2 : Option Addr} {ls : List (List Int)} {xs : List Int} {v : Value} {vs : List Value}
    (h1 : w.ownsRow base 40 1 (.slice A n c) n vs) (h2 : vs.length = ls.length) (h3 : ∀ (i : Nat) (xs : List Int), ls[i]? = some xs → ∃ A' n' c', vs[i]? = some (.slice A' n' c') ∧ Own w base A' n' c' xs)
    (ho : Own w base A2 n2 c2 xs) (hw : w'.ownsRow base 40 1 v (n + 1) (vs ++ [.slice A2 n2 c2])) (hg : w.grownBy w' (Value.ownBlock (.slice A n c))) :
    ∃ A' c', v = .slice A' (n + 1) c' ∧ OwnL w' base A' (n + 1) c' (ls ++ [xs]) := by
  obtain ⟨A', c', rfl⟩ := own_form' hw
  refine ⟨A', c', rfl, _, hw, by simp [h2], fun i ys hy => ?_⟩
  by_cases hi : i < ls.length
  · rw [List.getElem?_append_left hi] at hy
    obtain ⟨A3, n3, c3, hv, ho3⟩ := h3 i ys hy
    refine ⟨A3, n3, c3, ?_, ho3.grown hg (row_not3 h1)⟩
    rw [List.getElem?_append_left (by omega)]; exact hv
  · rw [List.getElem?_append_right (by omega)] at hy
    have hi2 : i - ls.length = 0 := by
      by_cases h0 : i - ls.length = 0
      · exact h0
      · rw [List.getElem?_eq_none (by simp; omega)] at hy; cases hy
    rw [hi2] at hy
    simp at hy
    subst hy
    refine ⟨A2, n2, c2, ?_, ho.grown hg (row_not3 h1)⟩
    rw [List.getElem?_append_right (by omega), show i - vs.length = 0 by omega]
    rfl
/-- What is wanted of an append of one clause. -/
theorem push_facts {W : World} {base k c n2 c2 : Nat} {A A2 : Option Addr} {ls : List (List Int)} {xs : List Int} (HL : OwnL W base A k c ls) (HO : Own W base A2 n2 c2 xs) (o : Obj) :
    ∃ vs, (W.alloc o).ownsRow base 40 1 (.slice A k c) k vs ∧ ∀ v w', w'.ownsRow base 40 1 v (k + 1) (vs ++ [.slice A2 n2 c2]) → (W.alloc o).grownBy w' (Value.ownBlock (.slice A k c)) →
      ∃ A' c', v = .slice A' (k + 1) c' ∧ OwnL w' base A' (k + 1) c' (ls ++ [xs]) ∧ (base ≤ W.heap.size → Below base W w') ∧ ∀ (g t : Nat) (cs : Array Value), t ≠ 40 → W.heap[g]? = some (.cells cs t (0, 0)) → w'.heap[g]? = some (.cells cs t (0, 0)) := by
  obtain ⟨vs, q1, q2, q3⟩ := HL
  have hb := below1 W o
  have r1 := owns_below q1 hb
  refine ⟨vs, r1, fun v w' hw hg => ?_⟩
  obtain ⟨A', c', e, hl⟩ := OwnL.push r1 q2 (fun i ys hy => by
    obtain ⟨A3, n3, c3, hv, ho⟩ := q3 i ys hy
    exact ⟨A3, n3, c3, hv, ho.below hb⟩) (HO.below hb) hw hg
  refine ⟨A', c', e, hl, fun hB => (hb.mono hB).grown hg (by simp; omega) (fun j hj => ?_), fun g t cs ht hh => ?_⟩
  · rcases r1.2 with ⟨e0, -⟩ | ⟨g, cap, cur, e0, h1, -⟩
    · rw [e0] at hj; simp [Value.ownBlock] at hj
    · rw [e0] at hj; simp [Value.ownBlock] at hj; omega
  · have hlt := (Array.getElem?_eq_some_iff.1 hh).1
    have hh1 := old_block hb hlt hh
    refine (hg.block g (Array.getElem?_eq_some_iff.1 hh1).1 ?_).trans hh1
    intro q
    rcases r1.2 with ⟨e0, -⟩ | ⟨g', cap, cur, e0, h1, h2, -⟩
    · rw [e0] at q; simp [Value.ownBlock] at q
    · rw [e0] at q
      simp [Value.ownBlock] at q
      subst q
      rw [h2] at hh1
      injection hh1 with hh1
      injection hh1 with _ hh1
      exact ht hh1.symm
theorem one_slice (A : Option Addr) (n c : Nat) : ∀ u ∈ [Value.slice A n c], u.oneCell' = true := by
  intro u hu
  simp at hu
  subst hu
  rfl
theorem put2_heap {W : World} {k t : Nat} {v0 v1 : Value} (u0 u1 : Value) (h : W.heap[k]? = some (.cells #[v0, v1] t (0, 0))) :
    ((W.setCell ⟨k, 0, none⟩ u0).setCell ⟨k, 1, none⟩ u1).heap[k]? = some (.cells #[u0, u1] t (0, 0)) := by
  simp [World.setCell, Array.getElem?_modify, h]
theorem put2_other {W : World} {k j : Nat} {o : Obj} (u0 u1 : Value) (hne : k ≠ j) (h : W.heap[j]? = some o) :
    ((W.setCell ⟨k, 0, none⟩ u0).setCell ⟨k, 1, none⟩ u1).heap[j]? = some o := by
  simp [World.setCell, Array.getElem?_modify, h, hne]
theorem put2_below {B : Nat} {w W : World} {k : Nat} (u0 u1 : Value) (h : Below B w W) (hk : B ≤ k) : Below B w ((W.setCell ⟨k, 0, none⟩ u0).setCell ⟨k, 1, none⟩ u1) := (h.setCell hk _).setCell hk _
theorem put2_grown (W : World) (k : Nat) (u0 u1 : Value) : W.grownBy ((W.setCell ⟨k, 0, none⟩ u0).setCell ⟨k, 1, none⟩ u1) (some k) :=
  ⟨rfl, rfl, rfl, by simp [World.setCell], fun i hi hne => by
    have : k ≠ i := fun e => hne (by rw [e])
    simp [World.setCell, Array.getElem?_modify, this]⟩
theorem OwnL.grown {w w' : World} {base n c : Nat} {A : Option Addr} {ls : List (List Int)} {row : Option Nat} (h : OwnL w base A n c ls) (hg : w.grownBy w' row) (hr : ∀ k t cur, row = some k → t = 3 ∨ t = 40 → w.heap[k]? ≠ some (.cells cur t (0, 0))) : OwnL w' base A n c ls := by
  obtain ⟨vs, h1, h2, h3⟩ := h
  refine ⟨vs, ⟨h1.1, h1.2.imp id ?_⟩, h2, fun i xs hx => ?_⟩
  · rintro ⟨g, cap, cur, e, h1, h2, h3⟩
    refine ⟨g, cap, cur, e, h1, (hg.block g (Array.getElem?_eq_some_iff.1 h2).1 ?_).trans h2, h3⟩
    intro q
    exact hr g 40 cur q.symm (.inr rfl) h2
  · obtain ⟨A', n', c', hv, ho⟩ := h3 i xs hx
    exact ⟨A', n', c', hv, ho.grown hg (fun k cur hk => hr k 3 cur hk (.inl rfl))⟩
theorem OwnL.put2 {W : World} {base n c k t : Nat} {A : Option Addr} {ls : List (List Int)} {cs : Array Value} (h : OwnL W base A n c ls) (hk : W.heap[k]? = some (.cells cs t (0, 0))) (h3 : t ≠ 3) (h40 : t ≠ 40) (u0 u1 : Value) :
    OwnL ((W.setCell ⟨k, 0, none⟩ u0).setCell ⟨k, 1, none⟩ u1) base A n c ls := by
  refine h.grown (put2_grown W k u0 u1) fun j t' cur e ht hh => ?_
  cases e
  rw [hk] at hh
  injection hh with hh
  injection hh with _ hh
  rcases ht with rfl | rfl
  · exact h3 hh
  · exact h40 hh
theorem frozen_no {W : World} {k t : Nat} {vs : Array Value} (h : W.heap[k]? = some (.cells vs t (0, 0))) (i : Nat) : W.frozen? ⟨k, i, none⟩ = false := by
  simp [World.frozen?, h]
theorem res29 {fn : Func} {s : Nat} (hres : fn.results = #[.cell s 29]) {x : Array Value} {k : Nat} {u0 u1 : Value} {W : World}
    (h2 : x[s]?.getD undef = .pointer (some ⟨k, 0, none⟩)) (h : W.heap[k]? = some (.cells #[u0, u1] 29 (0, 0))) :
    (results fn x).run Try.prog W = .ok (.agg #[u0, u1]) W := by
  have d0 : W.cell? ⟨k, 0, none⟩ = some u0 := by rw [cells_at h]; rfl
  have d1 : W.cell? ⟨k, 1, none⟩ = some u1 := by rw [cells_at h]; rfl
  simp [results, hres, go_sem, h2, d0, d1]
theorem res24 {fn : Func} {s : Nat} (hres : fn.results = #[.cell s 24]) {x : Array Value} {k : Nat} {u0 u1 : Value} {W : World}
    (h2 : x[s]?.getD undef = .pointer (some ⟨k, 0, none⟩)) (h : W.heap[k]? = some (.cells #[u0, u1] 24 (0, 0))) :
    (results fn x).run Try.prog W = .ok (.agg #[u0, u1]) W := by
  have d0 : W.cell? ⟨k, 0, none⟩ = some u0 := by rw [cells_at h]; rfl
  have d1 : W.cell? ⟨k, 1, none⟩ = some u1 := by rw [cells_at h]; rfl
  simp [results, hres, go_sem, h2, d0, d1]
theorem take_push {α : Type} {ls : List α} {k : Nat} {x : α} (h : ls[k]? = some x) : ls.take k ++ [x] = ls.take (k + 1) := by
  rw [List.take_add_one, h]; rfl
end Go.Proofs.Ytkmcdbkdlalhdaa
