/- Signs. No conditions. -/
import Derived.Test.YtpaenaofebdgiaaTokH
namespace Go.Proofs.Ytpaenaofebdgiaa
open Go.RowKit
def signL (l : List UInt8) : Rd := if signB l = 0 then .bad 3 0 else .tok 4 (l.take (signB l)) 0 (signB l)
theorem signB_le (l : List UInt8) : signB l ≤ l.length := by
  unfold signB
  split
  · omega
  · split
    · omega
    · simp only [List.length_cons]; split <;> omega

theorem sign_bad {l : List UInt8} (h : 0 = signB l) : signL l = .bad 3 0 := by unfold signL; rw [if_pos h.symm]
theorem sign_tok {l : List UInt8} {n : Nat} (h : n = signB l) (h0 : ¬ n = 0) : signL l = .tok 4 (l.take n) 0 n := by unfold signL; rw [← h, if_neg h0]
abbrev zeroTok : Obj := .cells #[.int .i64 0, .string ⟨#[]⟩, .int .i64 0, .int .i64 0, .int .i64 0] 27
set_option maxRecDepth 100000 in
set_option maxHeartbeats 4000000 in
theorem sign_i (B : Nat) (s : ByteArray) (a ln hd : Nat) (w : World) (h : Rdr w B s a ln hd) (ha : a < s.size) (hs : s.size ≤ 2000000) :
    Calls Try.prog 34 #[.pointer (some ⟨B, 0, none⟩)] w (RdPost B s a ln hd w (signL (s.data.toList.drop a))) := by
  have hB := h.lt
  have H := hid (fun o => h.alloc o)
  have c0 := fun o => (h.alloc o).c.1
  have c1 := fun o => (h.alloc o).c.2.1
  have f1 := fun o => (h.alloc o).c.2.2.2.2.1
  clear h
  have hne : w.heap.size ≠ B := by omega
  have HN := hid hne
  clear hne
  obtain ⟨Q, HQ⟩ : ∃ Q, Hid (Q = RdPost B s a ln hd w (signL (s.data.toList.drop a))) := ⟨_, rfl⟩
  rw [← HQ.out]
  obtain ⟨n, Hn⟩ : ∃ n, Hid (n = signB (s.data.toList.drop a)) := ⟨_, rfl⟩
  have hle := signB_le (s.data.toList.drop a)
  have hlen : s.data.toList.length = s.size := (Lib.size_eq s).symm
  rw [← Hn.out, List.length_drop, hlen] at hle
  clear hlen
  have hx : (s.extract a s.size).data.toList = s.data.toList.drop a := Lib.extract_to_end s a
  have hxs : (s.extract a s.size).size = s.size - a := by rw [Lib.size_eq, hx, List.length_drop, ← Lib.size_eq]
  have SG := hid (fun (w : World) => signsize_i (s.extract a s.size) w (by omega) (by omega))
  rw [hx, ← Hn.out] at SG
  clear hx hxs
  have ha1 : (a : Int) ≤ (s.size : Int) := by omega
  have ha2 : (a : Int) + n ≤ (s.size : Int) := by omega
  by_cases h0 : n = 0
  · subst h0
    go_enter Try.func34, Try.ntmps34
    go_wp2
    go_quiet ((go_at_call 39; exact Calls.quiet_of_same (SG.out _)))
    go_wp2
    have HO := hid ((Only.refl B (w.alloc zeroTok)).drewN nq)
    have hb := only_block HO.out (heap_alloc_new w zeroTok) HN.out
    have S := put5_heap (.int .i64 0) (.string ⟨#[]⟩) (.int .i64 0) (.int .i64 0) (.int .i64 0) hb
    refine bodyPost_ret (v := .tuple #[tokV 0 ⟨#[]⟩ 0 0 0, .int .i64 3]) (res_tok Try.results34 rfl rfl S) rfl ?_
    rw [HQ.out]
    exact RdPost.bad (sign_bad Hn.out) HO.out (put5_only _ _ _ _ _ _ _) ((H.out zeroTok).drewN _) HN.out rfl
  · have hz : ((n : Int) == 0) = false := by simpa using h0
    have hp : (0 : Int) < (n : Int) := by omega
    go_enter Try.func34, Try.ntmps34
    go_wp2
    go_quiet ((go_at_call 39; exact Calls.quiet_of_same (SG.out _)))
    go_wp2
    go_quiet (fail)
    go_wp2
    have HO := fun N => hid (((Only.refl B (w.alloc zeroTok)).drewN N).set 1 (.int .i64 ((a : Int) + n)))
    have S := fun N => put5_heap (.int .i64 4) (.string (s.extract a (a + n))) (.int .i64 0) (.int .i64 0) (.int .i64 0) (only_block (HO N).out (heap_alloc_new w zeroTok) HN.out)
    refine bodyPost_ret (v := .tuple #[tokV 4 (s.extract a (a + n)) 0 0 0, .int .i64 0]) (res_tok Try.results34 rfl rfl (S _)) rfl ?_
    rw [HQ.out]
    exact RdPost.tok (sign_tok Hn.out h0) (HO _).out (put5_only _ _ _ _ _ _ _) (((H.out zeroTok).drewN _).set1 (a + n)) HN.out (by rw [Lib.extract_data]; congr 1; omega) rfl
end Go.Proofs.Ytpaenaofebdgiaa
