/- TokenWords, as a call: it returns true, and leaves what was as it was. No conditions. -/
import Derived.Test.YtpaenaofebdgiaaRs
namespace Go.Proofs.Ytpaenaofebdgiaa
open Go.RowKit
set_option linter.unusedVariables false
set_option linter.unusedSimpArgs false
theorem words_cut (s : ByteArray) (ao ao2 : Option Addr) (n cap n2 cap2 : Nat) (w : World) (h : 100 < s.size ∨ 30 < n ∨ 30 < n2) :
    Calls Try.prog 3 #[.string s, .slice ao n cap, .slice ao2 n2 cap2] w fun e w' => e = .returned (.bool true) ∧ Below w.heap.size w w' := by
  by_cases h1 : 100 < s.size
  · have h1' : (100 : Int) < (s.size : Int) := by omega
    go_enter Try.func3, Try.ntmps3
    go_wp2_with (go_at_call 5; refine (alive_i _).mono ?_; rintro e w1 ⟨rfl, hb⟩)
    go_ret
    exact ⟨rfl, hb⟩
  · have h1' : ¬ (100 : Int) < (s.size : Int) := by omega
    by_cases h2 : 30 < n
    · have h2' : (30 : Int) < (n : Int) := by omega
      go_enter Try.func3, Try.ntmps3
      go_wp2_with (go_at_call 5; refine (alive_i _).mono ?_; rintro e w1 ⟨rfl, hb⟩)
      go_ret
      exact ⟨rfl, hb⟩
    · have h2' : ¬ (30 : Int) < (n : Int) := by omega
      have h3' : (30 : Int) < (n2 : Int) := by omega
      go_enter Try.func3, Try.ntmps3
      go_wp2_with (go_at_call 5; refine (alive_i _).mono ?_; rintro e w1 ⟨rfl, hb⟩)
      go_ret
      exact ⟨rfl, hb⟩
theorem lens_le : ∀ (l : List (List UInt8)), (∀ x ∈ l, x.length ≤ 60) → Lib.lens l ≤ 60 * l.length
  | [], _ => Nat.le_refl _
  | x :: r, h => by
    have := lens_le r (fun y hy => h y (by simp [hy]))
    have h1 := h x (by simp)
    simp only [Lib.lens, List.map_cons, List.sum_cons, List.length_cons] at *
    omega
theorem textK_len {xs : List Tk} (h : ∀ x ∈ xs, x.tx.size ≤ 60) : (textK xs).length ≤ 61 * xs.length := by
  unfold textK
  have hl : (strs xs).length ≤ xs.length := by unfold strs; rw [List.length_map]; exact List.length_filter_le _ _
  have hs : ∀ y ∈ (strs xs).map (·.data.toList), y.length ≤ 60 := by
    intro y hy
    obtain ⟨b, hb, rfl⟩ := List.mem_map.1 hy
    unfold strs at hb
    obtain ⟨x, hx, rfl⟩ := List.mem_map.1 hb
    have := h x (List.mem_filter.1 hx).1
    rw [Lib.size_eq] at this; exact this
  cases hq : (strs xs).map (·.data.toList) with
  | nil => simp [Lib.join_nil]
  | cons y r =>
    have h2 := lens_le _ hs
    rw [hq] at h2
    have h3 := congrArg List.length hq
    rw [List.length_map, List.length_cons] at h3
    rw [Lib.join_length]
    simp only [List.length_cons, List.length_nil] at *
    omega
set_option maxRecDepth 100000 in
set_option maxHeartbeats 8000000 in
theorem words_ok (s : ByteArray) (xs ys : List Tk) (ao ao2 : Option Addr) (cap cap2 : Nat) (w : World) (hL : LiesA w ao xs) (hL2 : LiesA w ao2 ys) (hs : s.size ≤ 100) (hn : xs.length ≤ 30) (hn2 : ys.length ≤ 30) (hcap : xs.length ≤ cap) (hcap2 : ys.length ≤ cap2) (hm : cap ≤ 9223372036854775807) (hm2 : cap2 ≤ 9223372036854775807) :
    Calls Try.prog 3 #[.string s, .slice ao xs.length cap, .slice ao2 ys.length cap2] w fun e w' => e = .returned (.bool true) ∧ Below w.heap.size w w' := by
  have h1' : ¬ (100 : Int) < (s.size : Int) := by omega
  have h2' : ¬ (30 : Int) < (xs.length : Int) := by omega
  have h3' : ¬ (30 : Int) < (ys.length : Int) := by omega
  obtain ⟨b1, HB1⟩ : ∃ b, Hid (wordB s.data.toList = b) := ⟨_, hid rfl⟩
  obtain ⟨b2, HB2⟩ : ∃ b, Hid (nameOk s.data.toList = b) := ⟨_, hid rfl⟩
  obtain ⟨b3, HB3⟩ : ∃ b, Hid (tksSame xs ys = b) := ⟨_, hid rfl⟩
  obtain ⟨t, HT⟩ : ∃ t : ByteArray, Hid (t = ⟨⟨textK xs⟩⟩) := ⟨_, hid rfl⟩
  have HL := hid hL
  have HL2 := hid hL2
  clear hL hL2
  go_enter Try.func3, Try.ntmps3
  go_wp2
  go_loopg [7] xs.length (fun gk v7 wr => ∃ k : Nat, k ≤ xs.length ∧ gk = xs.length - k ∧ v7 = .int .i64 k ∧ wr = w ∧ Hid (∀ (i : Nat) x, i < k → xs[i]? = some x → x.tx.size ≤ 60))
  case atStart => exact ⟨0, Nat.zero_le _, rfl, rfl, rfl, hid (fun i x h => by omega)⟩
  case round =>
    obtain ⟨k, hk, rfl, rfl, rfl, HS⟩ := hrel
    by_cases hlt : k < xs.length
    · have hlt' : (k : Int) < (xs.length : Int) := by omega
      obtain ⟨x, hx⟩ : ∃ x, xs[k]? = some x := ⟨_, List.getElem?_eq_getElem hlt⟩
      obtain ⟨g, o, hao, hlie⟩ : ∃ g o, ao = some ⟨g, o, none⟩ ∧ Lies wr g o xs := by
        rcases HL.out with h | h
        · rw [h] at hlt; simp at hlt
        · exact h
      subst hao
      obtain ⟨c0, c1, c2, c3, c4⟩ := hlie.at hx
      have HX := hid hx
      clear hx hlie
      by_cases h60 : 60 < x.tx.size
      · have h60' : (60 : Int) < (x.tx.size : Int) := by omega
        go_wp2_with (go_at_call 5; refine (alive_i _).mono ?_; rintro e w1 ⟨rfl, hb⟩)
        go_ret
        exact ⟨rfl, hb⟩
      · have h60' : ¬ (60 : Int) < (x.tx.size : Int) := by omega
        go_wp2
        go_roundg (xs.length - (k + 1))
        case measure => omega
        case rel =>
          refine ⟨k + 1, by omega, rfl, rfl, rfl, fun i y hi hy => ?_⟩
          by_cases e : i = k
          · subst e; rw [HX.out] at hy; injection hy with hy; subst hy; omega
          · exact HS.out i y (by omega) hy
    · have hlt' : ¬ (k : Int) < (xs.length : Int) := by omega
      have HZ := hid (show ∀ x ∈ xs, x.tx.size ≤ 60 from fun x hx => by
        obtain ⟨i, hi, rfl⟩ := List.mem_iff_getElem.1 hx
        exact HS.out i _ (by omega) (List.getElem?_eq_getElem hi))
      have hlen := textK_len HZ.out
      go_wp2_with (first
        | (go_at_call 6; refine (word_v _ b1 _ HB1.out).mono ?_; rintro e w' ⟨rfl, rfl⟩)
        | (go_at_call 7; refine (rword_b _ b1 _ HB1.out).mono ?_; rintro e w1 ⟨rfl, hb1⟩; have Q1 := hid hb1; clear hb1)
        | (go_at_call 8; refine (tname_i _ b2 _ HB2.out (by omega)).mono ?_; rintro e w' ⟨rfl, rfl⟩)
        | (go_at_call 9; refine (rname_i _ b2 _ HB2.out (by omega)).mono ?_; rintro e w2 ⟨rfl, hb2⟩; have Q2 := hid (Q1.out.trans (hb2.out.mono Q1.out.size)); clear hb2)
        | (go_at_call 10; refine (text_a xs _ _ _ (HL.out.below Q2.out) hn hcap hm (by omega) HT.out).mono ?_; rintro e w3 ⟨rfl, hb3⟩; have Q3 := hid (Q2.out.trans (hb3.out.mono Q2.out.size)); clear hb3)
        | (go_at_call 11; refine (rtext_a xs _ _ _ (HL.out.below Q3.out) hn hcap hm (fun x hx => by have := HZ.out x hx; omega) HT.out).mono ?_; rintro e w' ⟨rfl, rfl⟩)
        | (go_at_call 12; refine (same_a xs ys _ _ _ _ b3 _ HB3.out (HL.out.below Q3.out) (HL2.out.below Q3.out) hn hn2 hcap hcap2 hm hm2).mono ?_; rintro e w4 ⟨rfl, hb4⟩; have Q4 := hid (Q3.out.trans (hb4.out.mono Q3.out.size)); clear hb4)
        | (go_at_call 13; refine (rsame_a xs ys _ _ _ _ b3 _ HB3.out (HL.out.below Q4.out) (HL2.out.below Q4.out) hn hn2 hcap hcap2 hm hm2).mono ?_; rintro e w5 ⟨rfl, hb5⟩; have Q5 := hid (Q4.out.trans (hb5.out.mono Q4.out.size)); clear hb5)
        | (go_at_call 5; refine (alive_i _).mono ?_; rintro e w6 ⟨rfl, hb6⟩; have Q6 := hid (Q5.out.trans (hb6.mono Q5.out.size)); clear hb6))
      go_ret
      exact ⟨rfl, Q6.out⟩
/-- **TokenWords returns true, and leaves what was as it was.** -/
theorem tokenWords_i (s : ByteArray) (xs ys : List Tk) (ao ao2 : Option Addr) (cap cap2 : Nat) (w : World) (hL : LiesA w ao xs) (hL2 : LiesA w ao2 ys) (hcap : xs.length ≤ cap) (hcap2 : ys.length ≤ cap2) (hm : cap ≤ 9223372036854775807) (hm2 : cap2 ≤ 9223372036854775807) :
    Calls Try.prog 3 #[.string s, .slice ao xs.length cap, .slice ao2 ys.length cap2] w fun e w' => e = .returned (.bool true) ∧ Below w.heap.size w w' := by
  by_cases h : 100 < s.size ∨ 30 < xs.length ∨ 30 < ys.length
  · exact words_cut s ao ao2 _ cap _ cap2 w h
  · exact words_ok s xs ys ao ao2 cap cap2 w hL hL2 (by omega) (by omega) (by omega) hcap hcap2 hm hm2
end Go.Proofs.Ytpaenaofebdgiaa
