/- IrLooks: what is light, and what is not. No conditions. -/
import Derived.Test.YtplpjckkocccfaaIrP
import Derived.Test.YtplpjckkocccfaaIrM
import Derived.Test.YtplpjckkocccfaaIrJ
namespace Go.Proofs.Ytplpjckkocccfaa
open Go.RowKit Go.Maps
set_option linter.unusedVariables false
set_option linter.unusedSimpArgs false
theorem rds_len (op a b : Int) {xs : List Int} (h : xs.length ≤ 40) : (rds op a b xs).length ≤ 1000 := by
  unfold rds; split
  · simp
  · split
    · simp
    · split
      · omega
      · simp
theorem nxt_len (op p to el : Int) : (nxt op p to el).length ≤ 1000 := by
  unfold nxt; split
  · simp
  · split
    · split <;> simp
    · split <;> simp
theorem word_s {q : Int} {s : ByteArray} (h : wordR q = .string s) (w : World) : Calls Try.prog 13 #[.int .i64 q] w fun e w' => e = .returned (.string s) ∧ Hid (Below w.heap.size w w') := by
  rw [← h]; exact word_i q w
theorem rword_s {q : Int} {s : ByteArray} (h : wordR q = .string s) (w : World) : Calls Try.prog 14 #[.int .i64 q] w fun e w' => e = .returned (.string s) ∧ Hid (Below w.heap.size w w') := by
  rw [← h]; exact rword_i q w
theorem wordR_str (op : Int) : ∃ s : ByteArray, wordR op = .string s := by
  by_cases h : 1 ≤ op ∧ op ≤ 18
  · have : op = 1 ∨ op = 2 ∨ op = 3 ∨ op = 4 ∨ op = 5 ∨ op = 6 ∨ op = 7 ∨ op = 8 ∨ op = 9 ∨ op = 10 ∨ op = 11 ∨ op = 12 ∨ op = 13 ∨ op = 14 ∨ op = 15 ∨ op = 16 ∨ op = 17 ∨ op = 18 := by omega
    rcases this with rfl | rfl | rfl | rfl | rfl | rfl | rfl | rfl | rfl | rfl | rfl | rfl | rfl | rfl | rfl | rfl | rfl | rfl <;> exact ⟨_, rfl⟩
  · exact ⟨_, (wordR_out h).symm⟩
theorem came_len {W : World} {v : Value} {xs : List Int} (h : Came W v xs) : ∃ ao cap, v = .slice ao xs.length cap := by
  rcases h with ⟨rfl, rfl⟩ | ⟨ad, cap, rfl, -, -⟩
  · exact ⟨_, _, rfl⟩
  · exact ⟨_, _, rfl⟩
theorem looks_big (op d a b to el p q : Int) (c4 c5 c6 c8 c11 c12 : Value) (ao : Option Addr) (n cap : Nat) (w : World) (h : ¬ ((n : Int) ≤ 40 ∧ 0 ≤ p ∧ p ≤ 10000)) :
    Calls Try.prog 3 #[ins op d a b c4 c5 c6 (.slice ao n cap) c8 to el c11 c12, .int .i64 p, .int .i64 q] w fun e w' => e = .returned (.bool true) ∧ Hid (Below w.heap.size w w') := by
  have HB1 := hid (below1 w)
  by_cases h1 : (n : Int) ≤ 40
  · have g1 : ¬ 40 < (n : Int) := by omega
    by_cases h2 : 0 ≤ p
    · have g2 : ¬ p < 0 := by omega
      have g3 : 10000 < p := by omega
      clear h
      go_enter Try.func3, Try.ntmps3
      go_wp2_with (go_at_call 5; refine (alive_i _).mono ?_; rintro e w1 ⟨rfl, hb⟩)
      go_ret
      exact ⟨rfl, hid (after (HB1.out _) hb.out (HB1.out _).size)⟩
    · have g2 : p < 0 := by omega
      clear h
      go_enter Try.func3, Try.ntmps3
      go_wp2_with (go_at_call 5; refine (alive_i _).mono ?_; rintro e w1 ⟨rfl, hb⟩)
      go_ret
      exact ⟨rfl, hid (after (HB1.out _) hb.out (HB1.out _).size)⟩
  · have g1 : 40 < (n : Int) := by omega
    clear h
    go_enter Try.func3, Try.ntmps3
    go_wp2_with (go_at_call 5; refine (alive_i _).mono ?_; rintro e w1 ⟨rfl, hb⟩)
    go_ret
    exact ⟨rfl, hid (after (HB1.out _) hb.out (HB1.out _).size)⟩
end Go.Proofs.Ytplpjckkocccfaa
