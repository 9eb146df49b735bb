/- Names. Condition: at most 1000000 bytes. -/
import Derived.Test.YtpaenaofebdgiaaTokRw
namespace Go.Proofs.Ytpaenaofebdgiaa
open Go.RowKit
set_option linter.unusedVariables false
set_option linter.unusedSimpArgs false
def partB (c : UInt8) : Bool := letterB c || digitB c
def nameOk : List UInt8 → Bool
  | [] => false
  | c :: r => decide ((c :: r).length ≤ 40) && letterB c && (c :: r).all partB && !wordB (c :: r)
theorem nm_nil (s : ByteArray) (h : s.size = 0) : nameOk s.data.toList = false := by
  rw [Lib.size_eq] at h; rw [List.eq_nil_of_length_eq_zero h]; rfl
theorem nm_eq (s : ByteArray) (h : 0 < s.size) : nameOk s.data.toList = (decide (s.size ≤ 40) && letterB s[0] && s.data.toList.all partB && !wordB s.data.toList) := by
  obtain ⟨r, hr⟩ := head_of s h
  rw [Lib.size_eq]
  rw [hr]; rfl
theorem all_no {s : ByteArray} {k : Nat} (hk : k < s.size) (h : partB s[k] = false) : s.data.toList.all partB = false := by
  rw [List.all_eq_false]
  have hk' : k < s.data.toList.length := by rw [← Lib.size_eq]; exact hk
  exact ⟨s[k], List.mem_iff_getElem.2 ⟨k, hk', rfl⟩, by rw [h]; simp⟩
theorem all_yes {s : ByteArray} (h : ∀ (k : Nat) (hk : k < s.size), partB s[k] = true) : s.data.toList.all partB = true := by
  rw [List.all_eq_true]
  intro c hc
  obtain ⟨k, hk, rfl⟩ := List.mem_iff_getElem.1 hc
  exact h k (by rw [Lib.size_eq]; exact hk)
theorem partI {c : UInt8} : partB c = (lettI (c.toNat : Int) || digI (c.toNat : Int)) := by rw [lettI_eq, digI_eq]; rfl
theorem emp_of {s : ByteArray} (h : 0 < s.size) : s.toList.isEmpty = false := by
  obtain ⟨r, hr⟩ := head_of s h
  rw [Lib.toList_data, hr]; rfl
theorem emp_of2 {s : ByteArray} (h : 0 < s.size) : (s.toList == []) = false := by
  obtain ⟨r, hr⟩ := head_of s h
  rw [Lib.toList_data, hr]; rfl
theorem word_v (s : ByteArray) (b : Bool) (w : World) (h : wordB s.data.toList = b) : Calls Try.prog 6 #[.string s] w fun e w' => e = .returned (.bool b) ∧ w' = w := by
  subst h; rw [← Lib.toList_data]; exact word_i s w
theorem all_step {s : ByteArray} {k : Nat} (h : ∀ (i : Nat) (hi : i < s.size), i < k → partB s[i] = true) {hk : k < s.size} (hp : partB s[k] = true) : ∀ (i : Nat) (hi : i < s.size), i < k + 1 → partB s[i] = true := by
  intro i hi h1
  by_cases e : i = k
  · subst e; exact hp
  · exact h i hi (by omega)
set_option maxRecDepth 100000 in
set_option maxHeartbeats 8000000 in
theorem tname_i (s : ByteArray) (b : Bool) (w : World) (h : nameOk s.data.toList = b) (hs : s.size ≤ 1000000) :
    Calls Try.prog 8 #[.string s] w fun e w' => e = .returned (.bool b) ∧ w' = w := by
  by_cases h0 : s.size = 0
  · have hb : b = false := by rw [← h]; exact nm_nil s h0
    subst hb
    have hl : s.data.toList = [] := by rw [Lib.size_eq] at h0; exact List.eq_nil_of_length_eq_zero h0
    have hl2 : s.toList = [] := by rw [Lib.toList_data]; exact hl
    have hl3 : s.toList.isEmpty = true := by rw [hl2]; rfl
    clear h
    go_enter Try.func8, Try.ntmps8
    go_wp2
    go_ret
    exact ⟨rfl, rfl⟩
  · have hp : 0 < s.size := by omega
    have e1 := emp_of hp
    have e2 := emp_of2 hp
    have HE := hid (nm_eq s hp)
    by_cases h40 : 40 < s.size
    · have hb : b = false := by rw [← h, HE.out]; simp; omega
      subst hb
      have h40' : (40 : Int) < (s.size : Int) := by omega
      clear h
      go_enter Try.func8, Try.ntmps8
      go_wp2
      go_ret
      exact ⟨rfl, rfl⟩
    · have h40' : ¬ (40 : Int) < (s.size : Int) := by omega
      have hp' : (0 : Int) < (s.size : Int) := by omega
      cases hl : lettI (s[0].toNat : Int)
      case false =>
        have hb : b = false := by rw [← h, HE.out]; rw [lettI_eq] at hl; rw [hl]; simp
        subst hb
        clear h
        go_enter Try.func8, Try.ntmps8
        go_wp2_with (go_at_call 16; refine (letter_b _ false _ hl).mono ?_; rintro e w1 ⟨rfl, rfl⟩)
        go_ret
        exact ⟨rfl, rfl⟩
      case true =>
        have HL := hid hl
        have HB := hid h
        have hl0 : letterB s[0] = true := by rw [← lettI_eq]; exact hl
        have HB2 := hid (show b = (s.data.toList.all partB && !wordB s.data.toList) from by rw [← h, HE.out, hl0, decide_eq_true (show s.size ≤ 40 by omega)]; simp)
        clear h hl0
        go_enter Try.func8, Try.ntmps8
        go_wp2_with (go_at_call 16; refine (letter_b _ true _ hl).mono ?_; rintro e w1 ⟨rfl, rfl⟩)
        go_loopg [19] s.size (fun g v19 wr => ∃ k : Nat, k ≤ s.size ∧ g = s.size - k ∧ v19 = .int .i64 k ∧ wr = w1 ∧ Hid (∀ (i : Nat) (hi : i < s.size), i < k → partB s[i] = true))
        case atStart => exact ⟨0, Nat.zero_le _, rfl, rfl, rfl, hid (fun i hi h => by omega)⟩
        case round =>
          obtain ⟨k, hk, rfl, rfl, rfl, HA⟩ := hrel
          by_cases hlt : k < s.size
          · have hlt' : (k : Int) < (s.size : Int) := by omega
            cases hL : lettI (s[k].toNat : Int)
            case true =>
              have HP := hid (show partB s[k] = true from by rw [partI, hL]; rfl)
              go_wp2_with (go_at_call 16; refine (letter_b _ true _ hL).mono ?_; rintro e w1 ⟨rfl, rfl⟩)
              go_roundg (s.size - (k + 1))
              case measure => omega
              case rel => exact ⟨k + 1, by omega, rfl, rfl, rfl, hid (all_step HA.out HP.out)⟩
            case false =>
              cases hD : digI (s[k].toNat : Int)
              case true =>
                have HP := hid (show partB s[k] = true from by rw [partI, hL, hD]; rfl)
                go_wp2_with (first
                  | (go_at_call 16; refine (letter_b _ false _ hL).mono ?_; rintro e w1 ⟨rfl, rfl⟩)
                  | (go_at_call 17; refine (digit_b _ true _ hD).mono ?_; rintro e w1 ⟨rfl, rfl⟩))
                go_roundg (s.size - (k + 1))
                case measure => omega
                case rel => exact ⟨k + 1, by omega, rfl, rfl, rfl, hid (all_step HA.out HP.out)⟩
              case false =>
                have hb : b = false := by rw [HB2.out, all_no hlt (by rw [partI, hL, hD]; rfl)]; rfl
                subst hb
                go_wp2_with (first
                  | (go_at_call 16; refine (letter_b _ false _ hL).mono ?_; rintro e w1 ⟨rfl, rfl⟩)
                  | (go_at_call 17; refine (digit_b _ false _ hD).mono ?_; rintro e w1 ⟨rfl, rfl⟩))
                go_ret
                exact ⟨rfl, rfl⟩
          · have hlt' : ¬ (k : Int) < (s.size : Int) := by omega
            have HALL := hid (all_yes (s := s) (fun i hi => HA.out i hi (by omega)))
            cases hw : wordB s.data.toList
            case true =>
              have hb : b = false := by rw [HB2.out, hw, HALL.out]; rfl
              subst hb
              have HW := hid hw
              clear hw
              go_wp2_with (go_at_call 6; refine (word_v _ true _ HW.out).mono ?_; rintro e w1 ⟨rfl, rfl⟩)
              go_ret
              exact ⟨rfl, rfl⟩
            case false =>
              have hb : b = true := by rw [HB2.out, hw, HALL.out]; rfl
              subst hb
              have HW := hid hw
              clear hw
              go_wp2_with (go_at_call 6; refine (word_v _ false _ HW.out).mono ?_; rintro e w1 ⟨rfl, rfl⟩)
              go_ret
              exact ⟨rfl, rfl⟩
set_option maxRecDepth 100000 in
set_option maxHeartbeats 8000000 in
theorem rname_i (s : ByteArray) (b : Bool) (w : World) (h : nameOk s.data.toList = b) (hs : s.size ≤ 1000000) :
    Calls Try.prog 9 #[.string s] w fun e w' => e = .returned (.bool b) ∧ Hid (Below w.heap.size w w') := by
  by_cases h0 : s.size = 0
  · have hb : b = false := by rw [← h]; exact nm_nil s h0
    subst hb
    have h0' : (s.size : Int) < 1 := by omega
    clear h
    go_enter Try.func9, Try.ntmps9
    go_wp2
    go_ret
    exact ⟨rfl, Below.refl _ _⟩
  · have hp : 0 < s.size := by omega
    have h0' : ¬ (s.size : Int) < 1 := by omega
    have HE := hid (nm_eq s hp)
    by_cases h40 : 40 < s.size
    · have hb : b = false := by rw [← h, HE.out]; simp; omega
      subst hb
      have h40' : (40 : Int) < (s.size : Int) := by omega
      clear h
      go_enter Try.func9, Try.ntmps9
      go_wp2
      go_ret
      exact ⟨rfl, Below.refl _ _⟩
    · have h40' : ¬ (40 : Int) < (s.size : Int) := by omega
      have hp' : (0 : Int) < (s.size : Int) := by omega
      cases hl : lettI (s[0].toNat : Int)
      case false =>
        have hb : b = false := by rw [← h, HE.out]; rw [lettI_eq] at hl; rw [hl]; simp
        subst hb
        clear h
        go_enter Try.func9, Try.ntmps9
        go_wp2_with (go_at_call 18; refine (rletter_b _ false _ hl).mono ?_; rintro e w1 ⟨rfl, rfl⟩)
        go_ret
        exact ⟨rfl, Below.refl _ _⟩
      case true =>
        have hl0 : letterB s[0] = true := by rw [← lettI_eq]; exact hl
        have HB2 := hid (show b = (s.data.toList.all partB && !wordB s.data.toList) from by rw [← h, HE.out, hl0, decide_eq_true (show s.size ≤ 40 by omega)]; simp)
        clear h hl0
        cases hw : wordB s.data.toList
        case true =>
          have hb : b = false := by rw [HB2.out, hw]; simp
          subst hb
          have HW := hid hw
          clear hw
          go_enter Try.func9, Try.ntmps9
          go_wp2_with (first
            | (go_at_call 18; refine (rletter_b _ true _ hl).mono ?_; rintro e w1 ⟨rfl, rfl⟩)
            | (go_at_call 7; refine (rword_b _ true _ HW.out).mono ?_; rintro e w2 ⟨rfl, hb2⟩))
          go_ret
          exact ⟨rfl, hb2⟩
        case false =>
          have HW := hid hw
          have HB3 := hid (show b = s.data.toList.all partB from by rw [HB2.out, hw]; simp)
          clear hw
          go_enter Try.func9, Try.ntmps9
          go_wp2_with (first
            | (go_at_call 18; refine (rletter_b _ true _ hl).mono ?_; rintro e w1 ⟨rfl, rfl⟩)
            | (go_at_call 7; refine (rword_b _ false _ HW.out).mono ?_; rintro e w2 ⟨rfl, hb2⟩; have HBB := hid hb2; clear hb2))
          go_loopg [3] s.size (fun g v3 wr => ∃ k : Nat, k ≤ s.size ∧ g = s.size - k ∧ v3 = .int .i64 k ∧ wr = w2 ∧ Hid (∀ (i : Nat) (hi : i < s.size), i < k → partB s[i] = true))
          case atStart => exact ⟨0, Nat.zero_le _, rfl, rfl, rfl, hid (fun i hi h => by omega)⟩
          case round =>
            obtain ⟨k, hk, rfl, rfl, rfl, HA⟩ := hrel
            by_cases hlt : k < s.size
            · have hlt' : (k : Int) < (s.size : Int) := by omega
              cases hL : lettI (s[k].toNat : Int)
              case true =>
                have HP := hid (show partB s[k] = true from by rw [partI, hL]; rfl)
                go_wp2_with (go_at_call 18; refine (rletter_b _ true _ hL).mono ?_; rintro e w1 ⟨rfl, rfl⟩)
                go_roundg (s.size - (k + 1))
                case measure => omega
                case rel => exact ⟨k + 1, by omega, rfl, rfl, rfl, hid (all_step HA.out HP.out)⟩
              case false =>
                cases hD : digI (s[k].toNat : Int)
                case true =>
                  have HP := hid (show partB s[k] = true from by rw [partI, hL, hD]; rfl)
                  go_wp2_with (first
                    | (go_at_call 18; refine (rletter_b _ false _ hL).mono ?_; rintro e w1 ⟨rfl, rfl⟩)
                    | (go_at_call 19; refine (rdigit_b _ true _ hD).mono ?_; rintro e w1 ⟨rfl, rfl⟩))
                  go_roundg (s.size - (k + 1))
                  case measure => omega
                  case rel => exact ⟨k + 1, by omega, rfl, rfl, rfl, hid (all_step HA.out HP.out)⟩
                case false =>
                  have hb : b = false := by rw [HB3.out]; exact all_no hlt (by rw [partI, hL, hD]; rfl)
                  subst hb
                  go_wp2_with (first
                    | (go_at_call 18; refine (rletter_b _ false _ hL).mono ?_; rintro e w1 ⟨rfl, rfl⟩)
                    | (go_at_call 19; refine (rdigit_b _ false _ hD).mono ?_; rintro e w1 ⟨rfl, rfl⟩))
                  go_ret
                  exact ⟨rfl, HBB.out⟩
            · have hlt' : ¬ (k : Int) < (s.size : Int) := by omega
              have hb : b = true := by rw [HB3.out]; exact all_yes (s := s) (fun i hi => HA.out i hi (by omega))
              subst hb
              go_wp2
              go_ret
              exact ⟨rfl, HBB.out⟩
end Go.Proofs.Ytpaenaofebdgiaa
