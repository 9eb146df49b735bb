/- The tokenizer: runs of letters, signs. No conditions. -/
import Derived.Test.YtpaenaofebdgiaaTokC
import Derived.Lib.IndexAny
namespace Go.Proofs.Ytpaenaofebdgiaa
open Go.RowKit
theorem digit_b (x : Int) (b : Bool) (w : World) (h : digI x = b) :
    Calls Try.prog 17 #[.int .u8 x] w fun e w' => e = .returned (.bool b) ∧ w' = w := h ▸ digit_i x w
theorem letter_b (x : Int) (b : Bool) (w : World) (h : lettI x = b) :
    Calls Try.prog 16 #[.int .u8 x] w fun e w' => e = .returned (.bool b) ∧ w' = w := h ▸ letter_i x w
set_option maxHeartbeats 4000000 in
theorem run_i (B : Nat) (s : ByteArray) (letters : Bool) (a ln hd : Nat) (w : World) (h : Rdr w B s a ln hd) (ha : a ≤ s.size) (hs : s.size ≤ 2000000) :
    Calls Try.prog 38 #[.pointer (some ⟨B, 0, none⟩), .bool letters] w fun e w' =>
      e = .returned (.string (s.extract a (a + runL letters (s.data.toList.drop a)))) ∧ Rdr w' B s (a + runL letters (s.data.toList.drop a)) ln hd ∧ Only B w w' := by
  obtain ⟨c0, c1, -, -, -, -, -⟩ := h.c
  have H := hid h
  clear h
  go_enter Try.func38, Try.ntmps38
  go_wp2
  clear c0 c1
  go_loopg [] (s.size - a) (fun g wr => ∃ k : Nat, k ≤ s.size ∧ a ≤ k ∧ g = s.size - k ∧ Hid (Rdr wr B s k ln hd) ∧ Hid (Only B w wr) ∧ Hid (a + runL letters (s.data.toList.drop a) = k + runL letters (s.data.toList.drop k)))
  case atStart => exact ⟨a, ha, Nat.le_refl _, rfl, H, Only.refl _ _, rfl⟩
  case round =>
    obtain ⟨k, hk, hak, rfl, HR, HO, HE⟩ := hrel
    obtain ⟨c0, c1, -, -, f1, -, -⟩ := HR.out.c
    by_cases hlt : k < s.size
    · have hlt' : (k : Int) < (s.size : Int) := by omega
      cases hdg : digI (s[k].toNat : Int)
      · cases letters
        · go_wp2
          go_quiet ((go_at_call 17; exact Calls.quiet_of_same (digit_b _ _ _ hdg)))
          go_wp2
          go_quiet (fail)
          go_wp2
          go_ret
          rw [HE.out, run_no _ _ _ hlt (by simp [hdg])]
          exact ⟨rfl, HR.out, (HO.out.drewN _).drewN _⟩
        · cases hlt2 : lettI (s[k].toNat : Int)
          · go_wp2
            go_quiet (first | (go_at_call 17; exact Calls.quiet_of_same (digit_b _ _ _ hdg)) | (go_at_call 16; exact Calls.quiet_of_same (letter_b _ _ _ hlt2)))
            go_wp2
            go_quiet (fail)
            go_wp2
            go_ret
            rw [HE.out, run_no _ _ _ hlt (by simp [hdg, hlt2])]
            exact ⟨rfl, HR.out, (HO.out.drewN _).drewN _⟩
          · go_wp2
            go_quiet (first | (go_at_call 17; exact Calls.quiet_of_same (digit_b _ _ _ hdg)) | (go_at_call 16; exact Calls.quiet_of_same (letter_b _ _ _ hlt2)))
            go_wp2
            go_roundg (s.size - (k + 1))
            case measure => omega
            case rel => exact ⟨k + 1, by omega, by omega, rfl, hid ((HR.out.drewN _).set1 (k + 1)), hid ((HO.out.drewN _).set _ _), by show _ = _; rw [HE.out, run_yes _ _ _ hlt (by simp [hdg, hlt2])]; omega⟩
      · go_wp2
        go_quiet ((go_at_call 17; exact Calls.quiet_of_same (digit_b _ _ _ hdg)))
        go_wp2
        go_roundg (s.size - (k + 1))
        case measure => omega
        case rel => exact ⟨k + 1, by omega, by omega, rfl, hid ((HR.out.drewN _).set1 (k + 1)), hid ((HO.out.drewN _).set _ _), by show _ = _; rw [HE.out, run_yes _ _ _ hlt (by simp [hdg])]; omega⟩
    · have hlt' : ¬ (k : Int) < (s.size : Int) := by omega
      go_wp2
      go_quiet (fail)
      go_wp2
      go_quiet (fail)
      go_wp2
      go_ret
      rw [HE.out, run_stop _ _ _ (by omega)]
      exact ⟨rfl, HR.out, (HO.out.drewN _).drewN _⟩
def signs1 : List UInt8 := [43, 45, 42, 47, 37, 60, 62, 33, 61, 40, 41, 123, 125, 44, 59]
def signs2 : List (List UInt8) := [[45, 62], [60, 61], [62, 61], [61, 61], [33, 61]]
def signB (l : List UInt8) : Nat :=
  if 1 < l.length ∧ signs2.contains (l.take 2) then 2
  else match l with
    | [] => 0
    | c :: _ => if signs1.contains c then 1 else 0

theorem ixstr_i (s : ByteArray) (c : Int) (w : World) :
    Calls Try.prog 40 #[.string s, .int .u8 c] w fun e w' => e = .returned (.int .i64 (Lib.indexByte s.data.toList c.toNat.toUInt8)) ∧ w' = w := by
  have hc : ∀ w : World, (callFunc 42 #[.string s, .int .u8 c]).run Try.prog w = .ok (.value (.int .i64 (Lib.indexByte s.data.toList c.toNat.toUInt8))) w := fun w => by
    rw [run_callFunc_extern Try.func42 (by kernel_rfl) (by kernel_rfl) (by kernel_rfl) (e := Extern.BytealgIndexByte.indexByte) (by kernel_rfl), Lib.run_indexByteString]
    rfl
  go_enter Try.func40, Try.ntmps40
  go_wp2
  go_ret
  exact ⟨rfl, rfl⟩

theorem ret_int {k : IntKind} {a b : Int} (h : a = b) : Ending.returned (.int k a) = Ending.returned (.int k b) := by rw [h]
theorem ext02 (s : ByteArray) : (s.extract 0 2).toList = s.data.toList.take 2 := by rw [Lib.toList_data, Lib.extract_data]; simp
theorem hasprefix_i (s : ByteArray) (w : World) (hs : s.size ≤ 2000000) :
    Calls Try.prog 31 #[.string s, .string ⟨#[47, 47]⟩] w fun e w' => e = .returned (.bool (s.data.toList.take 2 == [47, 47])) ∧ w' = w := by
  have hx := hid (ext02 s)
  by_cases h : 2 ≤ s.size
  · have h' : (2 : Int) ≤ (s.size : Int) := by omega
    go_enter Try.func31, Try.ntmps31
    go_wp2
    go_ret
    exact ⟨ret_bool (by rw [hx.out]), rfl⟩
  · have h' : ¬ (2 : Int) ≤ (s.size : Int) := by omega
    go_enter Try.func31, Try.ntmps31
    go_wp2
    go_ret
    refine ⟨ret_bool ?_, rfl⟩
    rw [Lib.size_eq] at h
    match hl : s.data.toList with
    | [] => rfl
    | [_] => simp
    | _ :: _ :: _ => rw [hl] at h; simp at h
theorem head_of (s : ByteArray) (h : 0 < s.size) : ∃ r, s.data.toList = s[0] :: r := by
  obtain ⟨⟨l⟩⟩ := s
  match l, h with
  | c :: r, _ => exact ⟨r, rfl⟩
theorem sign_two (s : ByteArray) (h : 1 < s.size) (p : List UInt8) (he : ((s.extract 0 2).toList == p) = true) (hp : signs2.contains p = true) : (2 : Int) = ((signB s.data.toList : Nat) : Int) := by
  rw [ext02] at he
  rw [Lib.size_eq] at h
  have e : s.data.toList.take 2 = p := by simpa using he
  unfold signB
  rw [if_pos ⟨h, by rw [e]; exact hp⟩]; rfl
theorem sign_one (s : ByteArray) (h : 0 < s.size) (h2 : ¬ (1 < s.size ∧ signs2.contains (s.data.toList.take 2) = true)) (hi : 0 ≤ Lib.indexByte signs1 s[0]) : (1 : Int) = ((signB s.data.toList : Nat) : Int) := by
  obtain ⟨r, hr⟩ := head_of s h
  rw [Lib.size_eq] at h2
  unfold signB
  rw [if_neg h2, hr]
  have := Lib.contains_iff_indexByte signs1 s[0]
  simp only [this]
  rw [if_pos (by simpa using hi)]; rfl
theorem sign_none (s : ByteArray) (h : 0 < s.size) (h2 : ¬ (1 < s.size ∧ signs2.contains (s.data.toList.take 2) = true)) (hi : Lib.indexByte signs1 s[0] < 0) : (0 : Int) = ((signB s.data.toList : Nat) : Int) := by
  obtain ⟨r, hr⟩ := head_of s h
  rw [Lib.size_eq] at h2
  unfold signB
  rw [if_neg h2, hr]
  have := Lib.contains_iff_indexByte signs1 s[0]
  simp only [this]
  rw [if_neg (by simpa using hi)]; rfl
theorem no_two (s : ByteArray) (a : ((s.extract 0 2).toList == [45, 62]) = false) (b : ((s.extract 0 2).toList == [60, 61]) = false) (c : ((s.extract 0 2).toList == [62, 61]) = false) (d : ((s.extract 0 2).toList == [61, 61]) = false)
    (e : ((s.extract 0 2).toList == [33, 61]) = false) : ¬ (1 < s.size ∧ signs2.contains (s.data.toList.take 2) = true) := by
  rintro ⟨_, h⟩
  rw [ext02] at a b c d e
  simp [signs2] at h
  simp at a b c d e
  rcases h with h | h | h | h | h <;> contradiction
set_option maxHeartbeats 1000000 in
theorem signsize_i (s : ByteArray) (w : World) (hs : s.size ≤ 2000000) (h0 : 0 < s.size) :
    Calls Try.prog 39 #[.string s] w fun e w' => e = .returned (.int .i64 (signB s.data.toList)) ∧ w' = w := by
  by_cases h : 1 < s.size
  · have h' : (1 : Int) < (s.size : Int) := by omega
    cases q0 : ((s.extract 0 2).toList == [45, 62])
    case true =>
      go_enter Try.func39, Try.ntmps39
      go_wp2
      go_ret
      exact ⟨ret_int (sign_two s h _ q0 (by decide)), rfl⟩
    case false =>
      cases q1 : ((s.extract 0 2).toList == [60, 61])
      case true =>
        go_enter Try.func39, Try.ntmps39
        go_wp2
        go_ret
        exact ⟨ret_int (sign_two s h _ q1 (by decide)), rfl⟩
      case false =>
        cases q2 : ((s.extract 0 2).toList == [62, 61])
        case true =>
          go_enter Try.func39, Try.ntmps39
          go_wp2
          go_ret
          exact ⟨ret_int (sign_two s h _ q2 (by decide)), rfl⟩
        case false =>
          cases q3 : ((s.extract 0 2).toList == [61, 61])
          case true =>
            go_enter Try.func39, Try.ntmps39
            go_wp2
            go_ret
            exact ⟨ret_int (sign_two s h _ q3 (by decide)), rfl⟩
          case false =>
            cases q4 : ((s.extract 0 2).toList == [33, 61])
            case true =>
              go_enter Try.func39, Try.ntmps39
              go_wp2
              go_ret
              exact ⟨ret_int (sign_two s h _ q4 (by decide)), rfl⟩
            case false =>
              have HN := hid (no_two s q0 q1 q2 q3 q4)
              go_enter Try.func39, Try.ntmps39
              go_wp2_with (go_at_call 40; refine (ixstr_i _ _ _).mono ?_; rintro e w' ⟨rfl, rfl⟩)
              all_goals go_ret
              all_goals first
                | exact ⟨ret_int (sign_one s h0 HN.out (by assumption)), rfl⟩
                | exact ⟨ret_int (sign_none s h0 HN.out (by assumption)), rfl⟩
  · have h' : ¬ (1 : Int) < (s.size : Int) := by omega
    have hn : ¬ (1 < s.size ∧ signs2.contains (s.data.toList.take 2) = true) := fun q => h q.1
    have HN := hid hn
    clear hn
    go_enter Try.func39, Try.ntmps39
    go_wp2_with (go_at_call 40; refine (ixstr_i _ _ _).mono ?_; rintro e w' ⟨rfl, rfl⟩)
    all_goals go_ret
    all_goals first
      | exact ⟨ret_int (sign_one s h0 HN.out (by assumption)), rfl⟩
      | exact ⟨ret_int (sign_none s h0 HN.out (by assumption)), rfl⟩
end Go.Proofs.Ytpaenaofebdgiaa
