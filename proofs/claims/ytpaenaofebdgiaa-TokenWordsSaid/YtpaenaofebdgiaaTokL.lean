/- What number does. No conditions. -/
import Derived.Test.YtpaenaofebdgiaaTokK
namespace Go.Proofs.Ytpaenaofebdgiaa
open Go.RowKit
theorem odd_2b {s : ByteArray} {a b n : Nat} (hn : n = runL false (s.data.toList.drop a)) (hb : b = a + n) (h : b < s.size) (hl : lettI (s[b].toNat : Int) = true) : numberL (s.data.toList.drop a) = .bad 3 (runL false (s.data.toList.drop a)) := by
  subst hb hn; exact odd_2 h hl
theorem no_2ab {s : ByteArray} {a b n : Nat} (hn : n = runL false (s.data.toList.drop a)) (hb : b = a + n) (h : b < s.size) (hl : lettI (s[b].toNat : Int) = false) : ¬ (((s.data.toList.drop a).drop (runL false (s.data.toList.drop a))).head?.any letterB = true) := by
  subst hb hn; exact no_2a h hl
theorem no_2bb {s : ByteArray} {a b n : Nat} (hn : n = runL false (s.data.toList.drop a)) (hb : b = a + n) (h : ¬ b < s.size) : ¬ (((s.data.toList.drop a).drop (runL false (s.data.toList.drop a))).head?.any letterB = true) := by
  subst hb hn; exact no_2b (by omega)
theorem digs {l : List UInt8} {tx : ByteArray} (ht : tx.data.toList = l.take (runL false l)) : ∀ (k : Nat) (h : k < tx.size), 48 ≤ (tx[k].toNat : Int) ∧ (tx[k].toNat : Int) ≤ 57 := fun k h =>
  digit_bd (run_digits l tx[k] (by
    rw [← ht]
    have hk : k < tx.data.toList.length := by rw [← Lib.size_eq]; exact h
    exact List.mem_iff_getElem.2 ⟨k, hk, rfl⟩))
set_option maxRecDepth 100000 in
set_option maxHeartbeats 16000000 in
theorem number_i (B : Nat) (s : ByteArray) (a ln hd : Nat) (w : World) (h : Rdr w B s a ln hd) (ha : a < s.size) (hs : s.size ≤ 2000000) :
    Calls Try.prog 33 #[.pointer (some ⟨B, 0, none⟩)] w (RdPost B s a ln hd w (numberL (s.data.toList.drop a))) := by
  have hB := h.lt
  have H := hid (fun o => h.alloc o)
  clear h
  have hne : w.heap.size ≠ B := by omega
  have HN := hid hne
  clear hne
  obtain ⟨Q, HQ⟩ : ∃ Q, Hid (Q = RdPost B s a ln hd w (numberL (s.data.toList.drop a))) := ⟨_, rfl⟩
  rw [← HQ.out]
  obtain ⟨n, Hn⟩ : ∃ n, Hid (n = runL false (s.data.toList.drop a)) := ⟨_, rfl⟩
  obtain ⟨b, Hb⟩ : ∃ b, Hid (b = a + n) := ⟨_, rfl⟩
  have hle := runL_le false (s.data.toList.drop a)
  have hlen : s.data.toList.length = s.size := (Lib.size_eq s).symm
  rw [← Hn.out, List.length_drop, hlen] at hle
  have hbs : b ≤ s.size := by have := Hb.out; omega
  clear hlen hle
  go_enter Try.func33, Try.ntmps33
  go_wp2_with (
    (go_at_call 38
     refine (run_v B s false a ln hd _ (H.out _) (by omega) hs).mono ?_
     rintro e w1 ⟨tx, rfl, ht, hz, hz2, hR, hO⟩
     rw [← Hn.out, ← Hb.out] at hR
     have hb := hid (only_block hO.out (heap_alloc_new _ _) HN.out)
     obtain ⟨⟨c0, c1, c2, c3, c4⟩, f0, f1, f2, f3, f4⟩ := blk5 hb.out
     obtain ⟨r0, r1, -, -, -, -, -⟩ := hR.out.c))
  have HD := hid (digs ht.out)
  have HB2 := hid (show b = a + runL false (s.data.toList.drop a) from by rw [← Hn.out]; exact Hb.out)
  by_cases h1 : 1 < tx.size
  · have h1' : (1 : Int) < (tx.size : Int) := by omega
    have h0 : 0 < tx.size := by omega
    cases h48 : ((tx[0].toNat : Int) == 48)
    case true =>
      go_quiet (fail)
      go_wp2
      have S := put5_heap (.int .i64 0) (.string ⟨#[]⟩) (.int .i64 0) (.int .i64 0) (.int .i64 0) hb.out
      refine bodyPost_ret (v := .tuple #[tokV 0 ⟨#[]⟩ 0 0 0, .int .i64 3]) (res_tok Try.results33 rfl rfl S) rfl ?_
      rw [HQ.out]
      exact RdPost.bad (odd_1 ht.out hz2.out h0 h1 h48) (hO.out.drewN _) (put5_only _ _ _ _ _ _ _) (hR.out.drewN _) HN.out HB2.out
    case false =>
      have P1 := hid (no_1 ht.out hz2.out h0 h48)
      by_cases h2 : b < s.size
      · have h2' : (b : Int) < (s.size : Int) := by omega
        cases hl : lettI (s[b].toNat : Int)
        case true =>
          go_quiet ((go_at_call 16; exact Calls.quiet_of_same (letter_b _ _ _ hl)))
          go_wp2
          have S := put5_heap (.int .i64 0) (.string ⟨#[]⟩) (.int .i64 0) (.int .i64 0) (.int .i64 0) hb.out
          refine bodyPost_ret (v := .tuple #[tokV 0 ⟨#[]⟩ 0 0 0, .int .i64 3]) (res_tok Try.results33 rfl rfl S) rfl ?_
          rw [HQ.out]
          exact RdPost.bad (odd_2b Hn.out Hb.out h2 hl) (hO.out.drewN _) (put5_only _ _ _ _ _ _ _) (hR.out.drewN _) HN.out HB2.out
        case false =>
          go_quiet ((go_at_call 16; exact Calls.quiet_of_same (letter_b _ _ _ hl)))
          go_wp2
          clear c0 c1 c2 c3 c4 f0 f1 f2 f3 f4 r0 r1
          go_loopg [5, 44] tx.size (fun g v5 v44 wr => ∃ k m : Nat, k ≤ tx.size ∧ g = tx.size - k ∧ v44 = .int .i64 k ∧ v5 = .int .i64 m ∧ m ≤ 2147483647 ∧ wr = w1.drewN nq ∧ Hid (numL (tx.data.toList.drop k) m = numL tx.data.toList 0))
          case atStart => exact ⟨0, 0, Nat.zero_le _, rfl, rfl, rfl, by omega, rfl, rfl⟩
          case round =>
            obtain ⟨k, m, hk, rfl, rfl, rfl, hm, rfl, HE⟩ := hrel
            have hm0 : (m : Int) ≤ 2147483647 := by omega
            by_cases hlt : k < tx.size
            · have hlt' : (k : Int) < (tx.size : Int) := by omega
              obtain ⟨d1, d2⟩ := HD.out k hlt
              by_cases hbig : (2147483647 : Int) < (m : Int) * 10 + ((tx[k].toNat : Int) - 48)
              · obtain ⟨⟨c0, c1, c2, c3, c4⟩, f0, f1, f2, f3, f4⟩ := blk5 hb.out
                go_wp2
                have S := put5_heap (.int .i64 0) (.string ⟨#[]⟩) (.int .i64 0) (.int .i64 0) (.int .i64 0) hb.out
                refine bodyPost_ret (v := .tuple #[tokV 0 ⟨#[]⟩ 0 0 0, .int .i64 2]) (res_tok Try.results33 rfl rfl S) rfl ?_
                rw [HQ.out]
                exact RdPost.bad (num_none P1.out (no_2ab Hn.out Hb.out h2 hl) (by rw [← ht.out, ← HE.out]; exact num_stop hlt d1 hbig)) (hO.out.drewN _) (put5_only _ _ _ _ _ _ _) (hR.out.drewN _) HN.out HB2.out
              · go_wp2
                go_roundg (tx.size - (k + 1))
                case measure => omega
                case rel => exact ⟨k + 1, m * 10 + (tx[k].toNat - 48), by omega, rfl, rfl, congrArg (Value.int .i64) (by omega), by omega, rfl, by show _ = _; rw [← HE.out, num_on hlt d1 (by omega)]⟩
            · have hlt' : ¬ (k : Int) < (tx.size : Int) := by omega
              obtain ⟨⟨c0, c1, c2, c3, c4⟩, f0, f1, f2, f3, f4⟩ := blk5 hb.out
              go_wp2
              have S := put5_heap (.int .i64 3) (.string tx) (.int .i64 m) (.int .i64 0) (.int .i64 0) hb.out
              refine bodyPost_ret (v := .tuple #[tokV 3 tx m 0 0, .int .i64 0]) (res_tok Try.results33 rfl rfl S) rfl ?_
              rw [HQ.out]
              exact RdPost.tok (num_some P1.out (no_2ab Hn.out Hb.out h2 hl) (by rw [← ht.out, ← HE.out]; exact num_end (by omega))) (hO.out.drewN _) (put5_only _ _ _ _ _ _ _) (hR.out.drewN _) HN.out ht.out HB2.out
      · have h2' : ¬ (b : Int) < (s.size : Int) := by omega
        go_quiet (fail)
        go_wp2
        clear c0 c1 c2 c3 c4 f0 f1 f2 f3 f4 r0 r1
        go_loopg [5, 44] tx.size (fun g v5 v44 wr => ∃ k m : Nat, k ≤ tx.size ∧ g = tx.size - k ∧ v44 = .int .i64 k ∧ v5 = .int .i64 m ∧ m ≤ 2147483647 ∧ wr = w1.drewN nq ∧ Hid (numL (tx.data.toList.drop k) m = numL tx.data.toList 0))
        case atStart => exact ⟨0, 0, Nat.zero_le _, rfl, rfl, rfl, by omega, rfl, rfl⟩
        case round =>
          obtain ⟨k, m, hk, rfl, rfl, rfl, hm, rfl, HE⟩ := hrel
          have hm0 : (m : Int) ≤ 2147483647 := by omega
          by_cases hlt : k < tx.size
          · have hlt' : (k : Int) < (tx.size : Int) := by omega
            obtain ⟨d1, d2⟩ := HD.out k hlt
            by_cases hbig : (2147483647 : Int) < (m : Int) * 10 + ((tx[k].toNat : Int) - 48)
            · obtain ⟨⟨c0, c1, c2, c3, c4⟩, f0, f1, f2, f3, f4⟩ := blk5 hb.out
              go_wp2
              have S := put5_heap (.int .i64 0) (.string ⟨#[]⟩) (.int .i64 0) (.int .i64 0) (.int .i64 0) hb.out
              refine bodyPost_ret (v := .tuple #[tokV 0 ⟨#[]⟩ 0 0 0, .int .i64 2]) (res_tok Try.results33 rfl rfl S) rfl ?_
              rw [HQ.out]
              exact RdPost.bad (num_none P1.out (no_2bb Hn.out Hb.out h2) (by rw [← ht.out, ← HE.out]; exact num_stop hlt d1 hbig)) (hO.out.drewN _) (put5_only _ _ _ _ _ _ _) (hR.out.drewN _) HN.out HB2.out
            · go_wp2
              go_roundg (tx.size - (k + 1))
              case measure => omega
              case rel => exact ⟨k + 1, m * 10 + (tx[k].toNat - 48), by omega, rfl, rfl, congrArg (Value.int .i64) (by omega), by omega, rfl, by show _ = _; rw [← HE.out, num_on hlt d1 (by omega)]⟩
          · have hlt' : ¬ (k : Int) < (tx.size : Int) := by omega
            obtain ⟨⟨c0, c1, c2, c3, c4⟩, f0, f1, f2, f3, f4⟩ := blk5 hb.out
            go_wp2
            have S := put5_heap (.int .i64 3) (.string tx) (.int .i64 m) (.int .i64 0) (.int .i64 0) hb.out
            refine bodyPost_ret (v := .tuple #[tokV 3 tx m 0 0, .int .i64 0]) (res_tok Try.results33 rfl rfl S) rfl ?_
            rw [HQ.out]
            exact RdPost.tok (num_some P1.out (no_2bb Hn.out Hb.out h2) (by rw [← ht.out, ← HE.out]; exact num_end (by omega))) (hO.out.drewN _) (put5_only _ _ _ _ _ _ _) (hR.out.drewN _) HN.out ht.out HB2.out
  · have h1' : ¬ (1 : Int) < (tx.size : Int) := by omega
    have P1 := hid (show ¬ (1 < runL false (s.data.toList.drop a) ∧ (s.data.toList.drop a).head? = some 48) from fun q => h1 (by rw [hz2.out]; exact q.1))
    by_cases h2 : b < s.size
    · have h2' : (b : Int) < (s.size : Int) := by omega
      cases hl : lettI (s[b].toNat : Int)
      case true =>
        go_quiet ((go_at_call 16; exact Calls.quiet_of_same (letter_b _ _ _ hl)))
        go_wp2
        have S := put5_heap (.int .i64 0) (.string ⟨#[]⟩) (.int .i64 0) (.int .i64 0) (.int .i64 0) hb.out
        refine bodyPost_ret (v := .tuple #[tokV 0 ⟨#[]⟩ 0 0 0, .int .i64 3]) (res_tok Try.results33 rfl rfl S) rfl ?_
        rw [HQ.out]
        exact RdPost.bad (odd_2b Hn.out Hb.out h2 hl) (hO.out.drewN _) (put5_only _ _ _ _ _ _ _) (hR.out.drewN _) HN.out HB2.out
      case false =>
        go_quiet ((go_at_call 16; exact Calls.quiet_of_same (letter_b _ _ _ hl)))
        go_wp2
        clear c0 c1 c2 c3 c4 f0 f1 f2 f3 f4 r0 r1
        go_loopg [5, 44] tx.size (fun g v5 v44 wr => ∃ k m : Nat, k ≤ tx.size ∧ g = tx.size - k ∧ v44 = .int .i64 k ∧ v5 = .int .i64 m ∧ m ≤ 2147483647 ∧ wr = w1.drewN nq ∧ Hid (numL (tx.data.toList.drop k) m = numL tx.data.toList 0))
        case atStart => exact ⟨0, 0, Nat.zero_le _, rfl, rfl, rfl, by omega, rfl, rfl⟩
        case round =>
          obtain ⟨k, m, hk, rfl, rfl, rfl, hm, rfl, HE⟩ := hrel
          have hm0 : (m : Int) ≤ 2147483647 := by omega
          by_cases hlt : k < tx.size
          · have hlt' : (k : Int) < (tx.size : Int) := by omega
            obtain ⟨d1, d2⟩ := HD.out k hlt
            by_cases hbig : (2147483647 : Int) < (m : Int) * 10 + ((tx[k].toNat : Int) - 48)
            · obtain ⟨⟨c0, c1, c2, c3, c4⟩, f0, f1, f2, f3, f4⟩ := blk5 hb.out
              go_wp2
              have S := put5_heap (.int .i64 0) (.string ⟨#[]⟩) (.int .i64 0) (.int .i64 0) (.int .i64 0) hb.out
              refine bodyPost_ret (v := .tuple #[tokV 0 ⟨#[]⟩ 0 0 0, .int .i64 2]) (res_tok Try.results33 rfl rfl S) rfl ?_
              rw [HQ.out]
              exact RdPost.bad (num_none P1.out (no_2ab Hn.out Hb.out h2 hl) (by rw [← ht.out, ← HE.out]; exact num_stop hlt d1 hbig)) (hO.out.drewN _) (put5_only _ _ _ _ _ _ _) (hR.out.drewN _) HN.out HB2.out
            · go_wp2
              go_roundg (tx.size - (k + 1))
              case measure => omega
              case rel => exact ⟨k + 1, m * 10 + (tx[k].toNat - 48), by omega, rfl, rfl, congrArg (Value.int .i64) (by omega), by omega, rfl, by show _ = _; rw [← HE.out, num_on hlt d1 (by omega)]⟩
          · have hlt' : ¬ (k : Int) < (tx.size : Int) := by omega
            obtain ⟨⟨c0, c1, c2, c3, c4⟩, f0, f1, f2, f3, f4⟩ := blk5 hb.out
            go_wp2
            have S := put5_heap (.int .i64 3) (.string tx) (.int .i64 m) (.int .i64 0) (.int .i64 0) hb.out
            refine bodyPost_ret (v := .tuple #[tokV 3 tx m 0 0, .int .i64 0]) (res_tok Try.results33 rfl rfl S) rfl ?_
            rw [HQ.out]
            exact RdPost.tok (num_some P1.out (no_2ab Hn.out Hb.out h2 hl) (by rw [← ht.out, ← HE.out]; exact num_end (by omega))) (hO.out.drewN _) (put5_only _ _ _ _ _ _ _) (hR.out.drewN _) HN.out ht.out HB2.out
    · have h2' : ¬ (b : Int) < (s.size : Int) := by omega
      go_quiet (fail)
      go_wp2
      clear c0 c1 c2 c3 c4 f0 f1 f2 f3 f4 r0 r1
      go_loopg [5, 44] tx.size (fun g v5 v44 wr => ∃ k m : Nat, k ≤ tx.size ∧ g = tx.size - k ∧ v44 = .int .i64 k ∧ v5 = .int .i64 m ∧ m ≤ 2147483647 ∧ wr = w1.drewN nq ∧ Hid (numL (tx.data.toList.drop k) m = numL tx.data.toList 0))
      case atStart => exact ⟨0, 0, Nat.zero_le _, rfl, rfl, rfl, by omega, rfl, rfl⟩
      case round =>
        obtain ⟨k, m, hk, rfl, rfl, rfl, hm, rfl, HE⟩ := hrel
        have hm0 : (m : Int) ≤ 2147483647 := by omega
        by_cases hlt : k < tx.size
        · have hlt' : (k : Int) < (tx.size : Int) := by omega
          obtain ⟨d1, d2⟩ := HD.out k hlt
          by_cases hbig : (2147483647 : Int) < (m : Int) * 10 + ((tx[k].toNat : Int) - 48)
          · obtain ⟨⟨c0, c1, c2, c3, c4⟩, f0, f1, f2, f3, f4⟩ := blk5 hb.out
            go_wp2
            have S := put5_heap (.int .i64 0) (.string ⟨#[]⟩) (.int .i64 0) (.int .i64 0) (.int .i64 0) hb.out
            refine bodyPost_ret (v := .tuple #[tokV 0 ⟨#[]⟩ 0 0 0, .int .i64 2]) (res_tok Try.results33 rfl rfl S) rfl ?_
            rw [HQ.out]
            exact RdPost.bad (num_none P1.out (no_2bb Hn.out Hb.out h2) (by rw [← ht.out, ← HE.out]; exact num_stop hlt d1 hbig)) (hO.out.drewN _) (put5_only _ _ _ _ _ _ _) (hR.out.drewN _) HN.out HB2.out
          · go_wp2
            go_roundg (tx.size - (k + 1))
            case measure => omega
            case rel => exact ⟨k + 1, m * 10 + (tx[k].toNat - 48), by omega, rfl, rfl, congrArg (Value.int .i64) (by omega), by omega, rfl, by show _ = _; rw [← HE.out, num_on hlt d1 (by omega)]⟩
        · have hlt' : ¬ (k : Int) < (tx.size : Int) := by omega
          obtain ⟨⟨c0, c1, c2, c3, c4⟩, f0, f1, f2, f3, f4⟩ := blk5 hb.out
          go_wp2
          have S := put5_heap (.int .i64 3) (.string tx) (.int .i64 m) (.int .i64 0) (.int .i64 0) hb.out
          refine bodyPost_ret (v := .tuple #[tokV 3 tx m 0 0, .int .i64 0]) (res_tok Try.results33 rfl rfl S) rfl ?_
          rw [HQ.out]
          exact RdPost.tok (num_some P1.out (no_2bb Hn.out Hb.out h2) (by rw [← ht.out, ← HE.out]; exact num_end (by omega))) (hO.out.drewN _) (put5_only _ _ _ _ _ _ _) (hR.out.drewN _) HN.out ht.out HB2.out
end Go.Proofs.Ytpaenaofebdgiaa
