/- The reference of layer 1: the number that begins at a place. No conditions. -/
import Derived.Test.YtfjbcnnidhgenaaTokRefE
namespace Go.Proofs.Ytfjbcnnidhgenaa
open Go.RowKit
set_option linter.unusedVariables false
set_option linter.unusedSimpArgs false
/-- The value of digits, cut off at 2^40. -/
def capL : List UInt8 → Nat → Nat
  | [], n => n
  | c :: r, n => capL r (min (n * 10 + (c.toNat - 48)) 1099511627776)
theorem cap_big : ∀ (l : List UInt8) (n : Nat), 2147483647 < n → n ≤ 1099511627776 → 2147483647 < capL l n
  | [], n, h, _ => h
  | c :: r, n, h, h2 => by
    simp only [capL]
    exact cap_big r _ (by omega) (by omega)
theorem cap_num : ∀ (l : List UInt8) (n : Nat), n ≤ 2147483647 → match numL l n with | some v => capL l n = v | none => 2147483647 < capL l n
  | [], n, h => rfl
  | c :: r, n, h => by
    simp only [numL, capL]
    by_cases q : 2147483647 < n * 10 + (c.toNat - 48)
    · rw [if_pos q]; exact cap_big r _ (by omega) (by omega)
    · rw [if_neg q, Nat.min_eq_left (by omega)]; exact cap_num r _ (by omega)
/-- What is left of the digits' value at place k. -/
def capAt (s : ByteArray) (k n : Nat) : Nat := capL ((s.data.toList.drop k).take (runL false (s.data.toList.drop k))) n
theorem capAt_yes {s : ByteArray} {k n m : Nat} (hk : k < s.size) (h : digI (s[k].toNat : Int) = true) (hm : (m : Int) = min ((n : Int) * 10 + ((s[k].toNat : Int) - 48)) 1099511627776) : capAt s k n = capAt s (k + 1) m := by
  unfold capAt
  have hd : 48 ≤ (s[k].toNat : Int) := (digit_bd (by rw [← digI_eq]; exact h)).1
  rw [run_yes false s k hk (by rw [h]; rfl), drop_at s k hk, List.take_succ_cons]
  show capL _ (min _ _) = _
  rw [show min (n * 10 + (s[k].toNat - 48)) 1099511627776 = m from by omega]
theorem capAt_no {s : ByteArray} {k n : Nat} (h : runL false (s.data.toList.drop k) = 0) : capAt s k n = n := by
  unfold capAt; rw [h]; rfl
theorem zero_run {s : ByteArray} {a k : Nat} (hk : k = a + runL false (s.data.toList.drop a)) (ha : a < s.size) (h1 : 1 < k - a) (h48 : ((s[a].toNat : Int) == 48) = true) : numberL (s.data.toList.drop a) = .bad 3 (runL false (s.data.toList.drop a)) := by
  unfold numberL
  rw [if_pos (.inl ⟨by omega, by
    rw [drop_at s a ha]
    have e : (s[a] == 48) = true := by rw [← beqI]; exact h48
    have e' : s[a] = 48 := by simpa using e
    rw [e']; rfl⟩)]
theorem nz_run {s : ByteArray} {a k : Nat} (hk : k = a + runL false (s.data.toList.drop a)) (ha : a < s.size) (h : ((s[a].toNat : Int) == 48) = false ∨ k - a ≤ 1) : ¬ (1 < runL false (s.data.toList.drop a) ∧ (s.data.toList.drop a).head? = some 48) := by
  rintro ⟨q1, q2⟩
  rcases h with h | h
  · rw [drop_at s a ha] at q2
    injection q2 with q2
    rw [q2] at h
    exact absurd h (by decide)
  · omega
theorem num_tok {s : ByteArray} {a k n : Nat} (hk : k = a + runL false (s.data.toList.drop a)) (hn : n = capAt s a 0) (h1 : ¬ (1 < runL false (s.data.toList.drop a) ∧ (s.data.toList.drop a).head? = some 48)) (h2 : ¬ (((s.data.toList.drop a).drop (runL false (s.data.toList.drop a))).head?.any letterB = true)) (hs : n ≤ 2147483647) :
    numberL (s.data.toList.drop a) = .tok 3 ((s.data.toList.drop a).take (runL false (s.data.toList.drop a))) n (runL false (s.data.toList.drop a)) := by
  have := cap_num ((s.data.toList.drop a).take (runL false (s.data.toList.drop a))) 0 (by omega)
  cases hv : numL ((s.data.toList.drop a).take (runL false (s.data.toList.drop a))) 0 with
  | none => rw [hv] at this; unfold capAt at hn; simp only at this; omega
  | some v => rw [hv] at this; simp only at this; unfold capAt at hn; rw [hn, this]; exact num_some h1 h2 hv
theorem num_big {s : ByteArray} {a k n : Nat} (hk : k = a + runL false (s.data.toList.drop a)) (hn : n = capAt s a 0) (h1 : ¬ (1 < runL false (s.data.toList.drop a) ∧ (s.data.toList.drop a).head? = some 48)) (h2 : ¬ (((s.data.toList.drop a).drop (runL false (s.data.toList.drop a))).head?.any letterB = true)) (hs : 2147483647 < n) :
    numberL (s.data.toList.drop a) = .bad 2 (runL false (s.data.toList.drop a)) := by
  have := cap_num ((s.data.toList.drop a).take (runL false (s.data.toList.drop a))) 0 (by omega)
  cases hv : numL ((s.data.toList.drop a).take (runL false (s.data.toList.drop a))) 0 with
  | none => exact num_none h1 h2 hv
  | some v =>
    rw [hv] at this; simp only at this
    have := numL_le _ _ _ (by omega) hv
    unfold capAt at hn; omega
theorem let_yes {s : ByteArray} {a k : Nat} (hk : k = a + runL false (s.data.toList.drop a)) (h : k < s.size) (hl : lettI (s[k].toNat : Int) = true) : numberL (s.data.toList.drop a) = .bad 3 (runL false (s.data.toList.drop a)) := odd_2b rfl hk h hl
set_option maxRecDepth 100000 in
set_option maxHeartbeats 8000000 in
theorem oneB_i (s : ByteArray) (a : Nat) (w : World) (ha : a < s.size) (hs : s.size ≤ 2000000) (hl : lettI (s[a].toNat : Int) = false) (hd : digI (s[a].toNat : Int) = true) :
    Calls Try.prog 11 #[.string s, .int .i64 a] w (OnePost w (numberL (s.data.toList.drop a))) := by
  obtain ⟨Q, HQ⟩ : ∃ Q, Hid (Q = OnePost w (numberL (s.data.toList.drop a))) := ⟨_, hid rfl⟩
  rw [← HQ.out]
  have ha' : (a : Int) < (s.size : Int) := by omega
  go_enter Try.func11, Try.ntmps11
  go_wp2_with (first
    | (go_at_call 16; refine (rletter_b _ false _ hl).mono ?_; rintro e w1 ⟨rfl, rfl⟩)
    | (go_at_call 17; refine (rdigit_b _ true _ hd).mono ?_; rintro e w1 ⟨rfl, rfl⟩))
  go_loopg [6, 8] (s.size - a) (fun g v6 v8 wr => ∃ k n : Nat, a ≤ k ∧ k ≤ s.size ∧ g = s.size - k ∧ v6 = .int .i64 k ∧ v8 = .int .i64 n ∧ n ≤ 1099511627776 ∧ wr = w.alloc zeroTok ∧ Hid (runL false (s.data.toList.drop a) = (k - a) + runL false (s.data.toList.drop k)) ∧ Hid (capAt s k n = capAt s a 0))
  case atStart => exact ⟨a, 0, Nat.le_refl _, by omega, rfl, rfl, rfl, by omega, rfl, hid (by omega), hid rfl⟩
  case round =>
    obtain ⟨k, n, hak, hk, rfl, rfl, rfl, hn, rfl, HE, HV⟩ := hrel
    have hn0 : (0 : Int) ≤ n := by omega
    have hn' : (n : Int) ≤ 1099511627776 := by omega
    by_cases hlt : k < s.size
    · have hlt' : (k : Int) < (s.size : Int) := by omega
      cases hD : digI (s[k].toNat : Int)
      case true =>
        have hdd := digit_bd (c := s[k]) (by rw [← digI_eq]; exact hD)
        obtain ⟨d1, d2⟩ := hdd
        by_cases hm : (n : Int) * 10 + ((s[k].toNat : Int) - 48) < 1099511627776
        · have hm' : (n : Int) * 10 + ((s[k].toNat : Int) - 48) ≤ 1099511627776 := by omega
          go_wp2_with (go_at_call 17; refine (rdigit_b _ true _ hD).mono ?_; rintro e w1 ⟨rfl, rfl⟩)
          all_goals go_roundg (s.size - (k + 1))
          case measure => omega
          case rel => exact ⟨k + 1, n * 10 + (s[k].toNat - 48), by omega, by omega, rfl, rfl, congrArg (Value.int .i64) (by omega), by omega, rfl, hid (run_yes2 hlt hak (by rw [hD]; simp) HE.out), hid ((capAt_yes hlt hD (by omega)).symm.trans HV.out)⟩
        · have hm' : ¬ (n : Int) * 10 + ((s[k].toNat : Int) - 48) ≤ 1099511627775 := by omega
          by_cases hq : (n : Int) * 10 + ((s[k].toNat : Int) - 48) ≤ 1099511627776
          · go_wp2_with (go_at_call 17; refine (rdigit_b _ true _ hD).mono ?_; rintro e w1 ⟨rfl, rfl⟩)
            all_goals go_roundg (s.size - (k + 1))
            case measure => omega
            case rel => exact ⟨k + 1, n * 10 + (s[k].toNat - 48), by omega, by omega, rfl, rfl, congrArg (Value.int .i64) (by omega), by omega, rfl, hid (run_yes2 hlt hak (by rw [hD]; simp) HE.out), hid ((capAt_yes hlt hD (by omega)).symm.trans HV.out)⟩
          · go_wp2_with (go_at_call 17; refine (rdigit_b _ true _ hD).mono ?_; rintro e w1 ⟨rfl, rfl⟩)
            all_goals go_roundg (s.size - (k + 1))
            case measure => omega
            case rel => exact ⟨k + 1, 1099511627776, by omega, by omega, rfl, rfl, rfl, by omega, rfl, hid (run_yes2 hlt hak (by rw [hD]; simp) HE.out), hid ((capAt_yes hlt hD (by omega)).symm.trans HV.out)⟩
      case false =>
        have HK := hid (run_no2 hlt hak (by rw [hD]; rfl) HE.out)
        have HN := hid (show n = capAt s a 0 from by rw [← HV.out]; exact (capAt_no (run_no false s k hlt (by rw [hD]; rfl))).symm)
        have TN := hid (two_new w (.cells #[.int .i64 3, .string (s.extract a k), .int .i64 n, .int .i64 0, .int .i64 0] 35) (.cells #[.int .i64 3, .string (s.extract a k), .int .i64 n, .int .i64 0, .int .i64 0] 35))
        have HB := hid (((Below.refl w.heap.size w).alloc (Nat.le_refl _) (.cells #[.int .i64 3, .string (s.extract a k), .int .i64 n, .int .i64 0, .int .i64 0] 35)).alloc (by simp) (.cells #[.int .i64 3, .string (s.extract a k), .int .i64 n, .int .i64 0, .int .i64 0] 35))
        cases hL : lettI (s[k].toNat : Int)
        case true =>
          have HBAD := hid (let_yes HK.out hlt hL)
          cases h48 : ((s[a].toNat : Int) == 48)
          case false =>
            go_wp2_with (first | (go_at_call 17; refine (rdigit_b _ false _ hD).mono ?_; rintro e w1 ⟨rfl, rfl⟩) | (go_at_call 16; refine (rletter_b _ true _ hL).mono ?_; rintro e w1 ⟨rfl, rfl⟩))
            refine bodyPost_ret (v := .tuple #[tokV 3 (s.extract a k) n 0 0, .int .i64 3]) (res_one rfl rfl TN.out.2) rfl ?_
            rw [HQ.out]
            exact one_bad (HBAD.out) HB.out
          case true =>
            by_cases h1 : 1 < k - a
            · have h1' : (1 : Int) < (k : Int) - (a : Int) := by omega
              go_wp2_with (first | (go_at_call 17; refine (rdigit_b _ false _ hD).mono ?_; rintro e w1 ⟨rfl, rfl⟩) | (go_at_call 16; refine (rletter_b _ true _ hL).mono ?_; rintro e w1 ⟨rfl, rfl⟩))
              refine bodyPost_ret (v := .tuple #[tokV 3 (s.extract a k) n 0 0, .int .i64 3]) (res_one rfl rfl TN.out.2) rfl ?_
              rw [HQ.out]
              exact one_bad (HBAD.out) HB.out
            · have h1' : ¬ (1 : Int) < (k : Int) - (a : Int) := by omega
              go_wp2_with (first | (go_at_call 17; refine (rdigit_b _ false _ hD).mono ?_; rintro e w1 ⟨rfl, rfl⟩) | (go_at_call 16; refine (rletter_b _ true _ hL).mono ?_; rintro e w1 ⟨rfl, rfl⟩))
              refine bodyPost_ret (v := .tuple #[tokV 3 (s.extract a k) n 0 0, .int .i64 3]) (res_one rfl rfl TN.out.2) rfl ?_
              rw [HQ.out]
              exact one_bad (HBAD.out) HB.out
        case false =>
          have N2 := hid (no_2ab rfl HK.out hlt hL)
          cases h48 : ((s[a].toNat : Int) == 48)
          case false =>
            have N1 := hid (nz_run HK.out ha (.inl h48))
            by_cases hbig : (2147483647 : Int) < (n : Int)
            · go_wp2_with (first | (go_at_call 17; refine (rdigit_b _ false _ hD).mono ?_; rintro e w1 ⟨rfl, rfl⟩) | (go_at_call 16; refine (rletter_b _ false _ hL).mono ?_; rintro e w1 ⟨rfl, rfl⟩))
              refine bodyPost_ret (v := .tuple #[tokV 3 (s.extract a k) n 0 0, .int .i64 2]) (res_one rfl rfl TN.out.2) rfl ?_
              rw [HQ.out]
              exact one_bad (num_big HK.out HN.out N1.out N2.out (by omega)) HB.out
            · go_wp2_with (first | (go_at_call 17; refine (rdigit_b _ false _ hD).mono ?_; rintro e w1 ⟨rfl, rfl⟩) | (go_at_call 16; refine (rletter_b _ false _ hL).mono ?_; rintro e w1 ⟨rfl, rfl⟩))
              refine bodyPost_ret (v := .tuple #[tokV 3 (s.extract a k) n 0 0, .int .i64 0]) (res_one rfl rfl TN.out.2) rfl ?_
              rw [HQ.out]
              exact one_tok (num_tok HK.out HN.out N1.out N2.out (by omega)) HB.out (ext_run HK.out)
          case true =>
            by_cases h1 : 1 < k - a
            · have h1' : (1 : Int) < (k : Int) - (a : Int) := by omega
              have HBAD := hid (zero_run HK.out ha h1 h48)
              go_wp2_with (first | (go_at_call 17; refine (rdigit_b _ false _ hD).mono ?_; rintro e w1 ⟨rfl, rfl⟩) | (go_at_call 16; refine (rletter_b _ false _ hL).mono ?_; rintro e w1 ⟨rfl, rfl⟩))
              refine bodyPost_ret (v := .tuple #[tokV 3 (s.extract a k) n 0 0, .int .i64 3]) (res_one rfl rfl TN.out.2) rfl ?_
              rw [HQ.out]
              exact one_bad (HBAD.out) HB.out
            · have h1' : ¬ (1 : Int) < (k : Int) - (a : Int) := by omega
              have N1 := hid (nz_run HK.out ha (.inr (by omega)))
              by_cases hbig : (2147483647 : Int) < (n : Int)
              · go_wp2_with (first | (go_at_call 17; refine (rdigit_b _ false _ hD).mono ?_; rintro e w1 ⟨rfl, rfl⟩) | (go_at_call 16; refine (rletter_b _ false _ hL).mono ?_; rintro e w1 ⟨rfl, rfl⟩))
                refine bodyPost_ret (v := .tuple #[tokV 3 (s.extract a k) n 0 0, .int .i64 2]) (res_one rfl rfl TN.out.2) rfl ?_
                rw [HQ.out]
                exact one_bad (num_big HK.out HN.out N1.out N2.out (by omega)) HB.out
              · go_wp2_with (first | (go_at_call 17; refine (rdigit_b _ false _ hD).mono ?_; rintro e w1 ⟨rfl, rfl⟩) | (go_at_call 16; refine (rletter_b _ false _ hL).mono ?_; rintro e w1 ⟨rfl, rfl⟩))
                refine bodyPost_ret (v := .tuple #[tokV 3 (s.extract a k) n 0 0, .int .i64 0]) (res_one rfl rfl TN.out.2) rfl ?_
                rw [HQ.out]
                exact one_tok (num_tok HK.out HN.out N1.out N2.out (by omega)) HB.out (ext_run HK.out)
    · have hlt' : ¬ (k : Int) < (s.size : Int) := by omega
      have HK := hid (run_no3 hlt hak HE.out)
      have HN := hid (show n = capAt s a 0 from by rw [← HV.out]; exact (capAt_no (run_stop false s k (by omega))).symm)
      have TN := hid (two_new w (.cells #[.int .i64 3, .string (s.extract a k), .int .i64 n, .int .i64 0, .int .i64 0] 35) (.cells #[.int .i64 3, .string (s.extract a k), .int .i64 n, .int .i64 0, .int .i64 0] 35))
      have HB := hid (((Below.refl w.heap.size w).alloc (Nat.le_refl _) (.cells #[.int .i64 3, .string (s.extract a k), .int .i64 n, .int .i64 0, .int .i64 0] 35)).alloc (by simp) (.cells #[.int .i64 3, .string (s.extract a k), .int .i64 n, .int .i64 0, .int .i64 0] 35))
      have N2 := hid (no_2bb rfl HK.out hlt)
      cases h48 : ((s[a].toNat : Int) == 48)
      case false =>
        have N1 := hid (nz_run HK.out ha (.inl h48))
        by_cases hbig : (2147483647 : Int) < (n : Int)
        · go_wp2
          refine bodyPost_ret (v := .tuple #[tokV 3 (s.extract a k) n 0 0, .int .i64 2]) (res_one rfl rfl TN.out.2) rfl ?_
          rw [HQ.out]
          exact one_bad (num_big HK.out HN.out N1.out N2.out (by omega)) HB.out
        · go_wp2
          refine bodyPost_ret (v := .tuple #[tokV 3 (s.extract a k) n 0 0, .int .i64 0]) (res_one rfl rfl TN.out.2) rfl ?_
          rw [HQ.out]
          exact one_tok (num_tok HK.out HN.out N1.out N2.out (by omega)) HB.out (ext_run HK.out)
      case true =>
        by_cases h1 : 1 < k - a
        · have h1' : (1 : Int) < (k : Int) - (a : Int) := by omega
          have HBAD := hid (zero_run HK.out ha h1 h48)
          go_wp2
          refine bodyPost_ret (v := .tuple #[tokV 3 (s.extract a k) n 0 0, .int .i64 3]) (res_one rfl rfl TN.out.2) rfl ?_
          rw [HQ.out]
          exact one_bad (HBAD.out) HB.out
        · have h1' : ¬ (1 : Int) < (k : Int) - (a : Int) := by omega
          have N1 := hid (nz_run HK.out ha (.inr (by omega)))
          by_cases hbig : (2147483647 : Int) < (n : Int)
          · go_wp2
            refine bodyPost_ret (v := .tuple #[tokV 3 (s.extract a k) n 0 0, .int .i64 2]) (res_one rfl rfl TN.out.2) rfl ?_
            rw [HQ.out]
            exact one_bad (num_big HK.out HN.out N1.out N2.out (by omega)) HB.out
          · go_wp2
            refine bodyPost_ret (v := .tuple #[tokV 3 (s.extract a k) n 0 0, .int .i64 0]) (res_one rfl rfl TN.out.2) rfl ?_
            rw [HQ.out]
            exact one_tok (num_tok HK.out HN.out N1.out N2.out (by omega)) HB.out (ext_run HK.out)
end Go.Proofs.Ytfjbcnnidhgenaa
