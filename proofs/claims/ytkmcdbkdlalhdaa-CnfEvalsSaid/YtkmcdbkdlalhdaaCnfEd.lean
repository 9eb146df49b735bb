/- CnfEvals, as a call, at whatever arguments. No conditions. -/
import Derived.Test.YtkmcdbkdlalhdaaCnfEc
namespace Go.Proofs.Ytkmcdbkdlalhdaa
open Go.RowKit Go.Maps Go.Lib Go.Sort
set_option linter.unusedVariables false
set_option linter.unusedSimpArgs false
set_option maxRecDepth 100000 in
set_option maxHeartbeats 4000000 in
theorem evals_big (N : Int) (ls : List (List Int)) (x : Int) (A A2 : Option Addr) (n cap nm cap2 : Nat) (w : World) (h : Lists w w.heap.size A n ls) (hno : lightF ls = false ∨ 100 < (nm : Int) ∨ x < -1000000 ∨ 1000000 < x) :
    Calls Try.prog 3 #[form N A n cap, .slice A2 nm cap2, .int .i64 x] w fun e w' => e = .returned (.bool true) ∧ Hid (Below w.heap.size w w') := by
  have HB1 := hid (below1 w (formO N A n cap 24))
  have HF0 : Hid (FIn (w.alloc (formO N A n cap 24)) w.heap.size 24 N A n cap w.heap.size ls) := hid ⟨heap_alloc_new _ _, h.below HB1.out⟩
  have HLi := hid (light_i N ls A n cap w.heap.size (w.alloc (formO N A n cap 24)) HB1.out.size HF0.out.ls)
  clear h
  cases e1 : lightF ls
  case false =>
    rw [e1] at HLi
    clear hno e1
    go_enter Try.func3, Try.ntmps3
    go_wp2_with (first
      | (go_at_call 7; go_must (refine HLi.out.mono ?_); rintro e w1 ⟨rfl, HB2⟩)
      | (go_at_call 8; refine (alive_i _).mono ?_; rintro e w9 ⟨rfl, HB9⟩))
    go_ret
    exact ⟨rfl, hid (after (after HB1.out HB2.out HB1.out.size) HB9.out (after HB1.out HB2.out HB1.out.size).size)⟩
  case true =>
    rw [e1] at HLi
    have hno2 : 100 < (nm : Int) ∨ x < -1000000 ∨ 1000000 < x := by
      rcases hno with h | h
      · rw [e1] at h; cases h
      · exact h
    clear hno e1
    by_cases h1 : 100 < (nm : Int)
    · clear hno2
      go_enter Try.func3, Try.ntmps3
      go_wp2_with (first
        | (go_at_call 7; go_must (refine HLi.out.mono ?_); rintro e w1 ⟨rfl, HB2⟩)
        | (go_at_call 8; refine (alive_i _).mono ?_; rintro e w9 ⟨rfl, HB9⟩))
      go_ret
      exact ⟨rfl, hid (after (after HB1.out HB2.out HB1.out.size) HB9.out (after HB1.out HB2.out HB1.out.size).size)⟩
    · by_cases h2 : x < -1000000
      · clear hno2
        go_enter Try.func3, Try.ntmps3
        go_wp2_with (first
          | (go_at_call 7; go_must (refine HLi.out.mono ?_); rintro e w1 ⟨rfl, HB2⟩)
          | (go_at_call 8; refine (alive_i _).mono ?_; rintro e w9 ⟨rfl, HB9⟩))
        go_ret
        exact ⟨rfl, hid (after (after HB1.out HB2.out HB1.out.size) HB9.out (after HB1.out HB2.out HB1.out.size).size)⟩
      · have h3 : 1000000 < x := by omega
        clear hno2
        go_enter Try.func3, Try.ntmps3
        go_wp2_with (first
          | (go_at_call 7; go_must (refine HLi.out.mono ?_); rintro e w1 ⟨rfl, HB2⟩)
          | (go_at_call 8; refine (alive_i _).mono ?_; rintro e w9 ⟨rfl, HB9⟩))
        go_ret
        exact ⟨rfl, hid (after (after HB1.out HB2.out HB1.out.size) HB9.out (after HB1.out HB2.out HB1.out.size).size)⟩
theorem evals_i (N : Int) (ls : List (List Int)) (m : List Bool) (x : Int) (A A2 : Option Addr) (n cap nm cap2 : Nat) (w : World) (h : Lists w w.heap.size A n ls) (hm : Bools w w.heap.size A2 nm m) :
    Calls Try.prog 3 #[form N A n cap, .slice A2 nm cap2, .int .i64 x] w fun e w' => e = .returned (.bool true) ∧ Hid (Below w.heap.size w w') := by
  by_cases hc : lightF ls = true ∧ nm ≤ 100 ∧ -1000000 ≤ x ∧ x ≤ 1000000
  · obtain ⟨h1, h2, h3, h4⟩ := hc
    exact evals_small N ls m x A A2 n cap nm cap2 w h hm h1 h2 h3 h4
  · refine evals_big N ls x A A2 n cap nm cap2 w h ?_
    cases e1 : lightF ls
    · exact .inl rfl
    · right
      rw [e1] at hc
      simp at hc
      omega
end Go.Proofs.Ytkmcdbkdlalhdaa
