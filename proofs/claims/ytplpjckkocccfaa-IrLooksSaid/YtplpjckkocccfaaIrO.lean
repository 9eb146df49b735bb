/- What an instruction reads, by the program. Condition: at most 40 arguments. -/
import Derived.Test.YtplpjckkocccfaaIrN
namespace Go.Proofs.Ytplpjckkocccfaa
open Go.RowKit Go.Maps
set_option linter.unusedVariables false
set_option linter.unusedSimpArgs false
def rds (op a b : Int) (xs : List Int) : List Int := if op = 4 ∨ op = 8 ∨ op = 11 then [a, b] else if op ∈ ([3, 6, 7, 9, 10, 13, 14, 17, 18] : List Int) then [a] else if op = 15 then xs else []
structure NoRd (op : Int) : Prop where
  h3 : (op == 3) = false
  h4 : (op == 4) = false
  h6 : (op == 6) = false
  h7 : (op == 7) = false
  h8 : (op == 8) = false
  h9 : (op == 9) = false
  h10 : (op == 10) = false
  h11 : (op == 11) = false
  h13 : (op == 13) = false
  h14 : (op == 14) = false
  h15 : (op == 15) = false
  h17 : (op == 17) = false
  h18 : (op == 18) = false
theorem op_cases (op : Int) : (op = 4 ∨ op = 8 ∨ op = 11) ∨ (op = 3 ∨ op = 6 ∨ op = 7 ∨ op = 9 ∨ op = 10 ∨ op = 13 ∨ op = 14 ∨ op = 17 ∨ op = 18) ∨ op = 15 ∨ NoRd op := by
  by_cases h : (op = 4 ∨ op = 8 ∨ op = 11) ∨ (op = 3 ∨ op = 6 ∨ op = 7 ∨ op = 9 ∨ op = 10 ∨ op = 13 ∨ op = 14 ∨ op = 17 ∨ op = 18) ∨ op = 15
  · rcases h with h | h | h
    · exact .inl h
    · exact .inr (.inl h)
    · exact .inr (.inr (.inl h))
  · refine .inr (.inr (.inr ⟨?_, ?_, ?_, ?_, ?_, ?_, ?_, ?_, ?_, ?_, ?_, ?_, ?_⟩)) <;> (simp; omega)
theorem rds_no {op a b : Int} {xs : List Int} (h : NoRd op) : rds op a b xs = [] := by
  obtain ⟨h3, h4, h6, h7, h8, h9, h10, h11, h13, h14, h15, h17, h18⟩ := h
  simp at h3 h4 h6 h7 h8 h9 h10 h11 h13 h14 h15 h17 h18
  simp [rds, h3, h4, h6, h7, h8, h9, h10, h11, h13, h14, h15, h17, h18]
set_option maxHeartbeats 4000000 in
theorem reads_i (op d a b to el : Int) (c4 c5 c6 args c8 c11 c12 : Value) (xs : List Int) (w : World) (hv : Came w args xs) (hl : xs.length ≤ 40) : Calls Try.prog 9 #[ins op d a b c4 c5 c6 args c8 to el c11 c12] w fun e w' =>
    ∃ v, e = .returned v ∧ Hid (IsRow w' v (rds op a b xs)) ∧ Hid (Below w.heap.size w w') := by
  have HB1 := hid (below1 w)
  have HB2 := hid (below2 w)
  have HV := hid hv
  clear hv
  rcases op_cases op with h | h | rfl | h
  · rcases h with rfl | rfl | rfl
    all_goals
      rw [show rds _ a b xs = [a, b] from rfl]
      go_enter Try.func9, Try.ntmps9
      go_wp2
      go_ret
      exact ⟨_, rfl, hid (isRow_new w _ [a, b] _ 2 rfl), HB2.out _ _⟩
  · rcases h with rfl | rfl | rfl | rfl | rfl | rfl | rfl | rfl | rfl
    all_goals
      rw [show rds _ a b xs = [a] from rfl]
      go_enter Try.func9, Try.ntmps9
      go_wp2
      go_ret
      exact ⟨_, rfl, hid (isRow_new w _ [a] _ 1 rfl), HB2.out _ _⟩
  · rw [show rds 15 a b xs = xs from rfl]
    go_enter Try.func9, Try.ntmps9
    go_wp2_with (go_at_call 21; refine (clone_i xs _ _ (HV.out.below (HB1.out _)) hl).mono ?_; rintro e w1 ⟨u, rfl, hu, hb⟩)
    go_ret
    exact ⟨_, rfl, hu, hid (after (HB1.out _) hb.out (HB1.out _).size)⟩
  · rw [rds_no h]
    obtain ⟨h3, h4, h6, h7, h8, h9, h10, h11, h13, h14, h15, h17, h18⟩ := h
    go_enter Try.func9, Try.ntmps9
    go_wp2
    go_ret
    exact ⟨_, rfl, hid (isRow_nil _), HB1.out _⟩
end Go.Proofs.Ytplpjckkocccfaa
