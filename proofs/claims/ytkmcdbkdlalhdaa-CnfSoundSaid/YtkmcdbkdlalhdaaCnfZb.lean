/- CnfSound, as a call, at whatever arguments. No conditions. -/
import Derived.Test.YtkmcdbkdlalhdaaCnfZ
namespace Go.Proofs.Ytkmcdbkdlalhdaa
open Go.RowKit Go.Maps Go.Lib Go.Sort
set_option linter.unusedVariables false
set_option linter.unusedSimpArgs false
set_option maxRecDepth 100000 in
set_option maxHeartbeats 4000000 in
theorem sound_big (N : Int) (ls : List (List Int)) (m : List Bool) (a b v x : Int) (A A2 : Option Addr) (n cap nm cap2 : Nat) (w : World) (h : Lists w w.heap.size A n ls) (hno : lightF ls = false ∨ 100 < (nm : Int) ∨ ¬ N = nm ∨ rightF N ls = false) :
    Calls Try.prog 5 #[form N A n cap, .int .i64 a, .int .i64 b, .int .i64 v, .slice A2 nm cap2, .int .i64 x] w fun e w' => e = .returned (.bool true) ∧ Hid (Below w.heap.size w w') := by
  have HB1 := hid (below1 w (formO N A n cap 24))
  have HF0 : Hid (FIn (w.alloc (formO N A n cap 24)) w.heap.size 24 N A n cap w.heap.size ls) := hid ⟨heap_alloc_new _ _, h.below HB1.out⟩
  have HLi := hid (light_i N ls A n cap w.heap.size (w.alloc (formO N A n cap 24)) HB1.out.size HF0.out.ls)
  have HN := hid h.len
  clear h
  cases e1 : lightF ls
  case false =>
    rw [e1] at HLi
    clear hno e1
    go_enter Try.func5, Try.ntmps5
    go_wp2_with (first
      | (go_at_call 7; go_must (refine HLi.out.mono ?_); rintro e w1 ⟨rfl, HB2⟩)
      | (go_at_call 8; refine (alive_i _).mono ?_; rintro e w9 ⟨rfl, HB9⟩))
    go_ret
    exact ⟨rfl, hid (after (after HB1.out HB2.out HB1.out.size) HB9.out (after HB1.out HB2.out HB1.out.size).size)⟩
  case true =>
    have HLS := hid (light_short e1)
    have hn80 : n ≤ 80 := by have := HLS.out.2.1; have := HN.out; omega
    rw [e1] at HLi
    by_cases h1 : 100 < (nm : Int)
    · clear hno e1
      go_enter Try.func5, Try.ntmps5
      go_wp2_with (first
        | (go_at_call 7; go_must (refine HLi.out.mono ?_); rintro e w1 ⟨rfl, HB2⟩)
        | (go_at_call 8; refine (alive_i _).mono ?_; rintro e w9 ⟨rfl, HB9⟩))
      go_ret
      exact ⟨rfl, hid (after (after HB1.out HB2.out HB1.out.size) HB9.out (after HB1.out HB2.out HB1.out.size).size)⟩
    · by_cases h2 : N = nm
      · subst h2
        have hr : rightF nm ls = false := by
          rcases hno with h | h | h | h
          · rw [e1] at h; cases h
          · exact absurd h h1
          · exact absurd rfl h
          · exact h
        have HRr := hid (fun W (q : FIn W w.heap.size 24 nm A n cap w.heap.size ls) (hq : w.heap.size ≤ W.heap.size) => rright_i nm ls A n cap w.heap.size W hq q.ls (by omega) HLS.out.1)
        rw [hr] at HRr
        clear hno e1 hr
        have hnn : ((nm : Int) != (nm : Int)) = false := by simp
        go_enter Try.func5, Try.ntmps5
        go_wp2_with (first
          | (go_at_call 7; go_must (refine HLi.out.mono ?_); rintro e w1 ⟨rfl, HB2⟩; have HF1 := hid (HF0.out.below HB2.out HB1.out.size); have hx1 := cells_at HF1.out.box; have HBB := hid (after HB1.out HB2.out HB1.out.size))
          | (go_at_call 11; go_must (refine (HRr.out _ HF1.out HBB.out.size).mono ?_); rintro e w2 ⟨rfl, HB3⟩)
          | (go_at_call 8; refine (alive_i _).mono ?_; rintro e w9 ⟨rfl, HB9⟩))
        go_ret
        exact ⟨rfl, hid (after (after HBB.out HB3.out HBB.out.size) HB9.out (after HBB.out HB3.out HBB.out.size).size)⟩
      · have hne : (N != (nm : Int)) = true := by simpa using h2
        clear hno e1
        go_enter Try.func5, Try.ntmps5
        go_wp2_with (first
          | (go_at_call 7; go_must (refine HLi.out.mono ?_); rintro e w1 ⟨rfl, HB2⟩; have HF1 := hid (HF0.out.below HB2.out HB1.out.size); have hx1 := cells_at HF1.out.box; have HBB := hid (after HB1.out HB2.out HB1.out.size))
          | (go_at_call 8; refine (alive_i _).mono ?_; rintro e w9 ⟨rfl, HB9⟩))
        go_ret
        exact ⟨rfl, hid (after HBB.out HB9.out HBB.out.size)⟩
theorem sound_i (N : Int) (ls : List (List Int)) (m : List Bool) (a b v x : Int) (A A2 : Option Addr) (n cap nm cap2 : Nat) (w : World) (h : Lists w w.heap.size A n ls) (hm : Bools w w.heap.size A2 nm m) (hv : v < 1 ∨ IntKind.i64.wrap (-v) = -v) :
    Calls Try.prog 5 #[form N A n cap, .int .i64 a, .int .i64 b, .int .i64 v, .slice A2 nm cap2, .int .i64 x] w fun e w' => e = .returned (.bool true) ∧ Hid (Below w.heap.size w w') := by
  by_cases hc : lightF ls = true ∧ nm ≤ 100 ∧ N = nm ∧ rightF N ls = true
  · obtain ⟨h1, h2, rfl, h4⟩ := hc
    exact sound_small ls m a b v x A A2 n cap nm cap2 w h hm h1 h2 h4 hv
  · refine sound_big N ls m a b v x A A2 n cap nm cap2 w h ?_
    cases e1 : lightF ls
    · exact .inl rfl
    · by_cases h2 : nm ≤ 100
      · by_cases h3 : N = nm
        · cases e4 : rightF N ls
          · exact .inr (.inr (.inr rfl))
          · exact absurd ⟨e1, h2, h3, e4⟩ hc
        · exact .inr (.inr (.inl h3))
      · exact .inr (.inl (by omega))
end Go.Proofs.Ytkmcdbkdlalhdaa
