/- The reference of layer 1: letters, digits, what is skipped. No conditions. -/
import Derived.Test.YtfjbcnnidhgenaaTokX
namespace Go.Proofs.Ytfjbcnnidhgenaa
open Go.RowKit
theorem rdigit_i (x : Int) (w : World) :
    Calls Try.prog 17 #[.int .u8 x] w fun e w' => e = .returned (.bool (digI x)) ∧ w' = w := by
  by_cases h1 : 48 ≤ x <;> by_cases h2 : x ≤ 57 <;> (
    go_enter Try.func17, Try.ntmps17
    go_wp2
    all_goals go_ret
    all_goals exact ⟨ret_bool (by simp [digI]; try omega), rfl⟩)
theorem rletter_i (x : Int) (w : World) :
    Calls Try.prog 16 #[.int .u8 x] w fun e w' => e = .returned (.bool (lettI x)) ∧ w' = w := by
  by_cases h0 : x = 95
  · subst h0
    go_enter Try.func16, Try.ntmps16
    go_wp2
    all_goals go_ret
    all_goals exact ⟨ret_bool (by simp [lettI]), rfl⟩
  · by_cases h1 : 97 ≤ x <;> by_cases h2 : x ≤ 122 <;> by_cases h3 : 65 ≤ x <;> by_cases h4 : x ≤ 90 <;> (
      first
      | (exfalso; omega)
      | (go_enter Try.func16, Try.ntmps16
         go_wp2
         all_goals go_ret
         all_goals exact ⟨ret_bool (by rw [Bool.eq_iff_iff]; simp [lettI]; omega), rfl⟩))
theorem rdigit_b (x : Int) (b : Bool) (w : World) (h : digI x = b) :
    Calls Try.prog 17 #[.int .u8 x] w fun e w' => e = .returned (.bool b) ∧ w' = w := h ▸ rdigit_i x w
theorem rletter_b (x : Int) (b : Bool) (w : World) (h : lettI x = b) :
    Calls Try.prog 16 #[.int .u8 x] w fun e w' => e = .returned (.bool b) ∧ w' = w := h ▸ rletter_i x w

/-- The place alone does not hang on lines. -/
theorem skip_fst : ∀ (b : Bool) (r : List UInt8) (k l h l' h' : Nat), (skipL b r k l h).1 = (skipL b r k l' h').1
  | b, [], k, l, h, l', h' => by cases b <;> rfl
  | true, c :: r, k, l, h, l', h' => by
    simp only [skipL]; split
    · exact skip_fst _ _ _ _ _ _ _
    · exact skip_fst _ _ _ _ _ _ _
  | false, c :: r, k, l, h, l', h' => by
    simp only [skipL]; split
    · exact skip_fst _ _ _ _ _ _ _
    · split
      · exact skip_fst _ _ _ _ _ _ _
      · split
        · exact skip_fst _ _ _ _ _ _ _
        · rfl
def skipP (b : Bool) (s : ByteArray) (k : Nat) : Nat := (skipL b (s.data.toList.drop k) k 1 0).1
theorem skipP_nl (b : Bool) (s : ByteArray) (k : Nat) (hk : k < s.size) (hc : ((s[k].toNat : Int) == 10) = true) : skipP b s k = skipP false s (k + 1) := by
  unfold skipP; rw [skip_nl b s k 1 0 hk hc]; exact skip_fst _ _ _ _ _ _ _
theorem skipP_sp (s : ByteArray) (k : Nat) (hk : k < s.size) (hc : ((s[k].toNat : Int) == 10) = false) (hd : (((s[k].toNat : Int) == 32) || ((s[k].toNat : Int) == 9)) = true) : skipP false s k = skipP false s (k + 1) := by
  unfold skipP; rw [skip_sp s k 1 0 hk hc hd]
theorem skipP_in (s : ByteArray) (k : Nat) (hk : k < s.size) (hc : ((s[k].toNat : Int) == 10) = false) : skipP true s k = skipP true s (k + 1) := by
  unfold skipP; rw [skip_in s k 1 0 hk hc]
theorem skipP_end (b : Bool) (s : ByteArray) (k : Nat) (hk : s.size ≤ k) : skipP b s k = k := by
  unfold skipP; rw [skip_end b s k 1 0 hk]
theorem skipP_co (s : ByteArray) (k : Nat) (hk : k < s.size) (hc : ((s[k].toNat : Int) == 10) = false) (hd : (((s[k].toNat : Int) == 32) || ((s[k].toNat : Int) == 9)) = false) (hs : slashes s k = true) : skipP false s k = skipP true s k := by
  unfold skipP; rw [skip_co s k 1 0 hk hc hd hs]
theorem skipP_no (s : ByteArray) (k : Nat) (hk : k < s.size) (hc : ((s[k].toNat : Int) == 10) = false) (hd : (((s[k].toNat : Int) == 32) || ((s[k].toNat : Int) == 9)) = false) (hs : slashes s k = false) : skipP false s k = k := by
  unfold skipP; rw [skip_no s k 1 0 hk hc hd hs]
theorem slashes_t (s : ByteArray) (k : Nat) (hk : k + 1 < s.size) (h1 : ((s[k].toNat : Int) == 47) = true) (h2 : ((s[k + 1].toNat : Int) == 47) = true) : slashes s k = true := by
  rw [slashes_eq s k (by omega), drop_at s (k + 1) hk]
  have e1 : (s[k] == 47) = true := by rw [← beqI]; exact h1
  have e2 : (s[k + 1] == 47) = true := by rw [← beqI]; exact h2
  simp at e1 e2
  simp [e1, e2]
theorem slashes_f1 (s : ByteArray) (k : Nat) (hk : k < s.size) (h1 : ((s[k].toNat : Int) == 47) = false) : slashes s k = false := by
  rw [slashes_eq s k hk]
  have e1 : (s[k] == 47) = false := by rw [← beqI]; exact h1
  simp [e1]
theorem slashes_f2 (s : ByteArray) (k : Nat) (hk : k + 1 < s.size) (h2 : ((s[k + 1].toNat : Int) == 47) = false) : slashes s k = false := by
  rw [slashes_eq s k (by omega), drop_at s (k + 1) hk]
  have e2 : (s[k + 1] == 47) = false := by rw [← beqI]; exact h2
  simp at e2
  simp [e2]
theorem slashes_f3 (s : ByteArray) (k : Nat) (hk : k < s.size) (h : s.size ≤ k + 1) : slashes s k = false := by
  rw [slashes_eq s k hk, List.drop_eq_nil_of_le (by simpa using h)]
  simp
theorem ne_10 {x y : Int} (h : (x == y) = true) (hy : y ≠ 10) : (x == 10) = false := by
  have e : x = y := by simpa using h
  rw [e]; exact beq_eq_false_iff_ne.2 hy
theorem or_t1 {a b : Bool} (h : a = true) : (a || b) = true := by rw [h]; rfl
theorem or_t2 {a b : Bool} (h : b = true) : (a || b) = true := by rw [h]; cases a <;> rfl
theorem or_f {a b : Bool} (h : a = false) (h2 : b = false) : (a || b) = false := by rw [h, h2]; rfl
set_option maxRecDepth 100000 in
set_option maxHeartbeats 8000000 in
theorem rskip_i (s : ByteArray) (a : Nat) (w : World) (ha : a ≤ s.size) (hs : s.size ≤ 2000000) :
    Calls Try.prog 9 #[.string s, .int .i64 a] w fun e w' => e = .returned (.int .i64 (skipP false s a)) ∧ w' = w := by
  obtain ⟨R, HR⟩ : ∃ R, Hid (R = skipP false s a) := ⟨_, hid rfl⟩
  rw [← HR.out]
  go_enter Try.func9, Try.ntmps9
  go_wp2
  go_loopg [1] (s.size - a) (fun g v1 wr => ∃ k : Nat, k ≤ s.size ∧ g = s.size - k ∧ v1 = .int .i64 k ∧ wr = w ∧ Hid (R = skipP false s k))
  case atStart => exact ⟨a, ha, rfl, rfl, rfl, HR⟩
  case round =>
    obtain ⟨k, hk, rfl, rfl, rfl, HE⟩ := hrel
    by_cases hlt : k < s.size
    · have hlt' : (k : Int) < (s.size : Int) := by omega
      cases h32 : ((s[k].toNat : Int) == 32)
      case true =>
        have h10 := ne_10 h32 (by decide)
        go_wp2
        go_roundg (s.size - (k + 1))
        case measure => omega
        case rel => exact ⟨k + 1, by omega, rfl, rfl, rfl, by show _ = _; rw [HE.out, skipP_sp s k hlt h10 (or_t1 h32)]⟩
      case false =>
        cases h9 : ((s[k].toNat : Int) == 9)
        case true =>
          have h10 := ne_10 h9 (by decide)
          go_wp2
          go_roundg (s.size - (k + 1))
          case measure => omega
          case rel => exact ⟨k + 1, by omega, rfl, rfl, rfl, by show _ = _; rw [HE.out, skipP_sp s k hlt h10 (or_t2 h9)]⟩
        case false =>
          cases h10 : ((s[k].toNat : Int) == 10)
          case true =>
            go_wp2
            go_roundg (s.size - (k + 1))
            case measure => omega
            case rel => exact ⟨k + 1, by omega, rfl, rfl, rfl, by show _ = _; rw [HE.out, skipP_nl _ s k hlt h10]⟩
          case false =>
            by_cases hk1 : k + 1 < s.size
            · have hk1' : (k : Int) + 1 < (s.size : Int) := by omega
              cases h47 : ((s[k].toNat : Int) == 47)
              case false =>
                go_wp2
                go_ret
                rw [HE.out, skipP_no s k hlt h10 (or_f h32 h9) (slashes_f1 s k hlt h47)]
                exact ⟨rfl, rfl⟩
              case true =>
                cases h48 : ((s[k + 1].toNat : Int) == 47)
                case false =>
                  go_wp2
                  go_ret
                  rw [HE.out, skipP_no s k hlt h10 (or_f h32 h9) (slashes_f2 s k hk1 h48)]
                  exact ⟨rfl, rfl⟩
                case true =>
                  have hsl := slashes_t s k hk1 h47 h48
                  go_wp2
                  go_loopg [1] (s.size - k) (fun g2 v1 wx => ∃ k2 : Nat, k ≤ k2 ∧ k2 ≤ s.size ∧ g2 = s.size - k2 ∧ v1 = .int .i64 k2 ∧ wx = wr ∧ Hid (R = skipP true s k2))
                  case atStart => exact ⟨k, Nat.le_refl _, hk, rfl, rfl, rfl, by show _ = _; rw [HE.out, skipP_co s k hlt h10 (or_f h32 h9) hsl]⟩
                  case round =>
                    obtain ⟨k2, hkk, hk2, rfl, rfl, rfl, HE2⟩ := hrel
                    by_cases hlt2 : k2 < s.size
                    · have hlt2' : (k2 : Int) < (s.size : Int) := by omega
                      cases hnl : ((s[k2].toNat : Int) == 10)
                      case false =>
                        have hnb := bne_t hnl
                        go_wp2
                        go_roundg (s.size - (k2 + 1))
                        case measure => omega
                        case rel => exact ⟨k2 + 1, by omega, by omega, rfl, rfl, rfl, by show _ = _; rw [HE2.out, skipP_in s k2 hlt2 hnl]⟩
                      case true =>
                        have hnb := bne_f hnl
                        have hne : k < k2 := by
                          by_cases e : k2 = k
                          · subst e; rw [h10] at hnl; cases hnl
                          · omega
                        go_wp2
                        go_roundg (s.size - k2)
                        case measure => omega
                        case rel => exact ⟨k2, by omega, rfl, rfl, rfl, by show _ = _; rw [HE2.out, skipP_nl true s k2 hlt2 hnl, skipP_nl false s k2 hlt2 hnl]⟩
                    · have hlt2' : ¬ (k2 : Int) < (s.size : Int) := by omega
                      go_wp2
                      go_roundg (s.size - k2)
                      case measure => omega
                      case rel => exact ⟨k2, by omega, rfl, rfl, rfl, by show _ = _; rw [HE2.out, skipP_end _ s k2 (by omega), skipP_end _ s k2 (by omega)]⟩
            · have hk1' : ¬ (k : Int) + 1 < (s.size : Int) := by omega
              go_wp2
              go_ret
              rw [HE.out, skipP_no s k hlt h10 (or_f h32 h9) (slashes_f3 s k hlt (by omega))]
              exact ⟨rfl, rfl⟩
    · have hlt' : ¬ (k : Int) < (s.size : Int) := by omega
      go_wp2
      go_ret
      rw [HE.out, skipP_end _ _ _ (by omega)]
      exact ⟨rfl, rfl⟩
end Go.Proofs.Ytfjbcnnidhgenaa
