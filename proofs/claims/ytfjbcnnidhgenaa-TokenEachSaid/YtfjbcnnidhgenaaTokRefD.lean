/- The reference of layer 1: the token that begins at a letter. No conditions. -/
import Derived.Test.YtfjbcnnidhgenaaTokRefC
namespace Go.Proofs.Ytfjbcnnidhgenaa
open Go.RowKit
/-- What the reference's 'one' hands back. -/
def OnePost (w : World) (R : Rd) (e : Ending) (w' : World) : Prop :=
  Below w.heap.size w w' ∧ match R with
  | .tok kind text num _ => ∃ tx : ByteArray, tx.data.toList = text ∧ e = .returned (.tuple #[tokV kind tx num 0 0, .int .i64 0])
  | .bad f _ => ∃ (kind : Nat) (tx : ByteArray) (num : Nat), e = .returned (.tuple #[tokV kind tx num 0 0, .int .i64 f])
theorem run_yes2 {s : ByteArray} {a k : Nat} {b : Bool} (hk : k < s.size) (hak : a ≤ k) (h : (digI (s[k].toNat : Int) || (b && lettI (s[k].toNat : Int))) = true) (hr : runL b (s.data.toList.drop a) = (k - a) + runL b (s.data.toList.drop k)) :
    runL b (s.data.toList.drop a) = (k + 1 - a) + runL b (s.data.toList.drop (k + 1)) := by
  rw [hr, run_yes b s k hk h]; omega
theorem run_no2 {s : ByteArray} {a k : Nat} {b : Bool} (hk : k < s.size) (hak : a ≤ k) (h : (digI (s[k].toNat : Int) || (b && lettI (s[k].toNat : Int))) = false) (hr : runL b (s.data.toList.drop a) = (k - a) + runL b (s.data.toList.drop k)) :
    k = a + runL b (s.data.toList.drop a) := by
  rw [hr, run_no b s k hk h]; omega
theorem run_no3 {s : ByteArray} {a k : Nat} {b : Bool} (hk : ¬ k < s.size) (hak : a ≤ k) (hr : runL b (s.data.toList.drop a) = (k - a) + runL b (s.data.toList.drop k)) :
    k = a + runL b (s.data.toList.drop a) := by
  rw [hr, run_stop b s k (by omega)]; omega
theorem ext_run {s : ByteArray} {a k n : Nat} (h : k = a + n) : (s.extract a k).data.toList = (s.data.toList.drop a).take n := by
  subst h
  rw [Lib.extract_data]; congr 1; omega
theorem ext_size {s : ByteArray} {a k : Nat} (h : a ≤ k) (hk : k ≤ s.size) : (s.extract a k).size = k - a := by
  rw [Lib.size_eq, ext_run (n := k - a) (by omega), List.length_take, List.length_drop, ← Lib.size_eq]; omega
theorem res_one {x : Array Value} {k : Nat} {u0 u1 u2 u3 u4 f : Value} {W : World}
    (h2 : x[4]?.getD undef = .pointer (some ⟨k, 0, none⟩)) (h3 : x[5]?.getD undef = f) (h : W.heap[k]? = some (.cells #[u0, u1, u2, u3, u4] 35 (0, 0))) :
    (results Try.f11 x).run Try.prog W = .ok (.tuple #[.agg #[u0, u1, u2, u3, u4], f]) W := by
  obtain ⟨⟨d0, d1, d2, d3, d4⟩, -⟩ := blk5 h
  simp [results, Try.results11, go_sem, h2, h3, d0, d1, d2, d3, d4]
theorem below_put5 {n : Nat} {w W : World} (h : Below n w W) (u0 u1 u2 u3 u4 : Value) : Below n w (put5 W n u0 u1 u2 u3 u4) :=
  ((((h.setCell (p := ⟨n, 0, none⟩) (Nat.le_refl _) _).setCell (p := ⟨n, 1, none⟩) (Nat.le_refl _) _).setCell (p := ⟨n, 2, none⟩) (Nat.le_refl _) _).setCell (p := ⟨n, 3, none⟩) (Nat.le_refl _) _).setCell (p := ⟨n, 4, none⟩) (Nat.le_refl _) _
theorem one_tok {w W : World} {R : Rd} {kind num size : Nat} {text : List UInt8} {tx : ByteArray} (hR : R = .tok kind text num size) (h : Below w.heap.size w W) (ht : tx.data.toList = text) :
    OnePost w R (.returned (.tuple #[tokV kind tx num 0 0, .int .i64 0])) W := by
  subst hR; exact ⟨h, tx, ht, rfl⟩
theorem one_bad {w W : World} {R : Rd} {kind num f size : Nat} {tx : ByteArray} (hR : R = .bad f size) (h : Below w.heap.size w W) :
    OnePost w R (.returned (.tuple #[tokV kind tx num 0 0, .int .i64 f])) W := by
  subst hR; exact ⟨h, kind, tx, num, rfl⟩
theorem old_block {n : Nat} {w W : World} {o : Obj} {k : Nat} (h : Below n w W) (hk : k < n) (hb : w.heap[k]? = some o) : W.heap[k]? = some o := (h.block k hk).trans hb
theorem two_new (w : World) (o1 o2 : Obj) : ((w.alloc o1).alloc o2).heap[w.heap.size + 1]? = some (match o2 with | o => o) ∧ ((w.alloc o1).alloc o2).heap[w.heap.size]? = some (match o1 with | o => o) := by
  refine ⟨?_, (Below.heap_alloc _ _ _ (by simp)).trans (heap_alloc_new w o1)⟩
  have := heap_alloc_new (w.alloc o1) o2; rwa [World.size_alloc] at this
set_option maxRecDepth 100000 in
set_option maxHeartbeats 8000000 in
theorem oneA_i (s : ByteArray) (a : Nat) (w : World) (ha : a < s.size) (hs : s.size ≤ 2000000) (hl : lettI (s[a].toNat : Int) = true) :
    Calls Try.prog 11 #[.string s, .int .i64 a] w (OnePost w (nameL (s.data.toList.drop a))) := by
  obtain ⟨Q, HQ⟩ : ∃ Q, Hid (Q = OnePost w (nameL (s.data.toList.drop a))) := ⟨_, hid rfl⟩
  rw [← HQ.out]
  have ha' : (a : Int) < (s.size : Int) := by omega
  cases hw : wordB ((s.data.toList.drop a).take (runL true (s.data.toList.drop a)))
  case true =>
    have HW := hid hw
    clear hw
    go_enter Try.func11, Try.ntmps11
    go_wp2_with (go_at_call 16; refine (rletter_b _ true _ hl).mono ?_; rintro e w1 ⟨rfl, rfl⟩)
    go_loopg [6] (s.size - a) (fun g v6 wr => ∃ k : Nat, a ≤ k ∧ k ≤ s.size ∧ g = s.size - k ∧ v6 = .int .i64 k ∧ wr = w.alloc zeroTok ∧ Hid (runL true (s.data.toList.drop a) = (k - a) + runL true (s.data.toList.drop k)))
    case atStart => exact ⟨a, Nat.le_refl _, by omega, rfl, rfl, rfl, hid (by omega)⟩
    case round =>
      obtain ⟨k, hak, hk, rfl, rfl, rfl, HE⟩ := hrel
      by_cases hlt : k < s.size
      · have hlt' : (k : Int) < (s.size : Int) := by omega
        cases hL : lettI (s[k].toNat : Int)
        case true =>
          go_wp2_with (go_at_call 16; refine (rletter_b _ true _ hL).mono ?_; rintro e w1 ⟨rfl, rfl⟩)
          go_roundg (s.size - (k + 1))
          case measure => omega
          case rel => exact ⟨k + 1, by omega, by omega, rfl, rfl, rfl, hid (run_yes2 hlt hak (by rw [hL]; simp) HE.out)⟩
        case false =>
          cases hD : digI (s[k].toNat : Int)
          case true =>
            go_wp2_with (first
              | (go_at_call 16; refine (rletter_b _ false _ hL).mono ?_; rintro e w1 ⟨rfl, rfl⟩)
              | (go_at_call 17; refine (rdigit_b _ true _ hD).mono ?_; rintro e w1 ⟨rfl, rfl⟩))
            go_roundg (s.size - (k + 1))
            case measure => omega
            case rel => exact ⟨k + 1, by omega, by omega, rfl, rfl, rfl, hid (run_yes2 hlt hak (by rw [hD]; simp) HE.out)⟩
          case false =>
            have HK := hid (run_no2 hlt hak (by rw [hL, hD]; rfl) HE.out)
            go_wp2_with (first
              | (go_at_call 16; refine (rletter_b _ false _ hL).mono ?_; rintro e w1 ⟨rfl, rfl⟩)
              | (go_at_call 17; refine (rdigit_b _ false _ hD).mono ?_; rintro e w1 ⟨rfl, rfl⟩)
              | (go_at_call 18; refine (rword_b _ true _ ((congrArg wordB (ext_run HK.out)).trans HW.out)).mono ?_; rintro e w2 ⟨rfl, HBL⟩
                 have TN := two_new w zeroTok (.cells #[.int .i64 1, .string (s.extract a k), .int .i64 0, .int .i64 0, .int .i64 0] 35)
                 have B1 := hid (old_block HBL (by simp) TN.1)
                 have B0 := hid (old_block HBL (by simp; omega) TN.2)
                 have HB := hid (show Below w.heap.size w w2 from (((Below.refl _ w).alloc (Nat.le_refl _) zeroTok).alloc (by simp) (.cells #[.int .i64 1, .string (s.extract a k), .int .i64 0, .int .i64 0, .int .i64 0] 35)).trans (HBL.mono (by simp; omega)))
                 clear HBL TN
                 obtain ⟨⟨c0, c1, c2, c3, c4⟩, f0, f1, f2, f3, f4⟩ := blk5 B1.out
                 obtain ⟨⟨d0, d1, d2, d3, d4⟩, g0, g1, g2, g3, g4⟩ := blk5 B0.out))
            · rename_i q1
              have hz := ext_size hak hk
              refine bodyPost_ret (v := .tuple #[tokV 2 (s.extract a k) 0 0 0, .int .i64 2]) (res_one rfl rfl (put5_heap (.int .i64 2) (.string (s.extract a k)) (.int .i64 0) (.int .i64 0) (.int .i64 0) ((Below.heap_setCell w2 ⟨w.heap.size + 1, 0, none⟩ (.int .i64 2) w.heap.size (by simp)).trans B0.out))) rfl ?_
              rw [HQ.out]
              exact one_bad (name_big (tx := s.extract a k) (by have := HK.out; omega) (by omega)) (below_put5 (HB.out.setCell (p := ⟨w.heap.size + 1, 0, none⟩) (Nat.le_add_right _ _) _) _ _ _ _ _)
            · rename_i q1
              have hz := ext_size hak hk
              refine bodyPost_ret (v := .tuple #[tokV 2 (s.extract a k) 0 0 0, .int .i64 0]) (res_one rfl rfl (put5_heap (.int .i64 2) (.string (s.extract a k)) (.int .i64 0) (.int .i64 0) (.int .i64 0) ((Below.heap_setCell w2 ⟨w.heap.size + 1, 0, none⟩ (.int .i64 2) w.heap.size (by simp)).trans B0.out))) rfl ?_
              rw [HQ.out]
              exact one_tok (name_word (tx := s.extract a k) (by have := HK.out; omega) (by omega) HW.out) (below_put5 (HB.out.setCell (p := ⟨w.heap.size + 1, 0, none⟩) (Nat.le_add_right _ _) _) _ _ _ _ _) (ext_run HK.out)
      · have hlt' : ¬ (k : Int) < (s.size : Int) := by omega
        have HK := hid (run_no3 hlt hak HE.out)
        go_wp2_with (first
          | (go_at_call 18; refine (rword_b _ true _ ((congrArg wordB (ext_run HK.out)).trans HW.out)).mono ?_; rintro e w2 ⟨rfl, HBL⟩
             have TN := two_new w zeroTok (.cells #[.int .i64 1, .string (s.extract a k), .int .i64 0, .int .i64 0, .int .i64 0] 35)
             have B1 := hid (old_block HBL (by simp) TN.1)
             have B0 := hid (old_block HBL (by simp; omega) TN.2)
             have HB := hid (show Below w.heap.size w w2 from (((Below.refl _ w).alloc (Nat.le_refl _) zeroTok).alloc (by simp) (.cells #[.int .i64 1, .string (s.extract a k), .int .i64 0, .int .i64 0, .int .i64 0] 35)).trans (HBL.mono (by simp; omega)))
             clear HBL TN
             obtain ⟨⟨c0, c1, c2, c3, c4⟩, f0, f1, f2, f3, f4⟩ := blk5 B1.out
             obtain ⟨⟨d0, d1, d2, d3, d4⟩, g0, g1, g2, g3, g4⟩ := blk5 B0.out))
        · rename_i q1
          have hz := ext_size hak hk
          refine bodyPost_ret (v := .tuple #[tokV 2 (s.extract a k) 0 0 0, .int .i64 2]) (res_one rfl rfl (put5_heap (.int .i64 2) (.string (s.extract a k)) (.int .i64 0) (.int .i64 0) (.int .i64 0) ((Below.heap_setCell w2 ⟨w.heap.size + 1, 0, none⟩ (.int .i64 2) w.heap.size (by simp)).trans B0.out))) rfl ?_
          rw [HQ.out]
          exact one_bad (name_big (tx := s.extract a k) (by have := HK.out; omega) (by omega)) (below_put5 (HB.out.setCell (p := ⟨w.heap.size + 1, 0, none⟩) (Nat.le_add_right _ _) _) _ _ _ _ _)
        · rename_i q1
          have hz := ext_size hak hk
          refine bodyPost_ret (v := .tuple #[tokV 2 (s.extract a k) 0 0 0, .int .i64 0]) (res_one rfl rfl (put5_heap (.int .i64 2) (.string (s.extract a k)) (.int .i64 0) (.int .i64 0) (.int .i64 0) ((Below.heap_setCell w2 ⟨w.heap.size + 1, 0, none⟩ (.int .i64 2) w.heap.size (by simp)).trans B0.out))) rfl ?_
          rw [HQ.out]
          exact one_tok (name_word (tx := s.extract a k) (by have := HK.out; omega) (by omega) HW.out) (below_put5 (HB.out.setCell (p := ⟨w.heap.size + 1, 0, none⟩) (Nat.le_add_right _ _) _) _ _ _ _ _) (ext_run HK.out)
  case false =>
    have HW := hid hw
    clear hw
    go_enter Try.func11, Try.ntmps11
    go_wp2_with (go_at_call 16; refine (rletter_b _ true _ hl).mono ?_; rintro e w1 ⟨rfl, rfl⟩)
    go_loopg [6] (s.size - a) (fun g v6 wr => ∃ k : Nat, a ≤ k ∧ k ≤ s.size ∧ g = s.size - k ∧ v6 = .int .i64 k ∧ wr = w.alloc zeroTok ∧ Hid (runL true (s.data.toList.drop a) = (k - a) + runL true (s.data.toList.drop k)))
    case atStart => exact ⟨a, Nat.le_refl _, by omega, rfl, rfl, rfl, hid (by omega)⟩
    case round =>
      obtain ⟨k, hak, hk, rfl, rfl, rfl, HE⟩ := hrel
      by_cases hlt : k < s.size
      · have hlt' : (k : Int) < (s.size : Int) := by omega
        cases hL : lettI (s[k].toNat : Int)
        case true =>
          go_wp2_with (go_at_call 16; refine (rletter_b _ true _ hL).mono ?_; rintro e w1 ⟨rfl, rfl⟩)
          go_roundg (s.size - (k + 1))
          case measure => omega
          case rel => exact ⟨k + 1, by omega, by omega, rfl, rfl, rfl, hid (run_yes2 hlt hak (by rw [hL]; simp) HE.out)⟩
        case false =>
          cases hD : digI (s[k].toNat : Int)
          case true =>
            go_wp2_with (first
              | (go_at_call 16; refine (rletter_b _ false _ hL).mono ?_; rintro e w1 ⟨rfl, rfl⟩)
              | (go_at_call 17; refine (rdigit_b _ true _ hD).mono ?_; rintro e w1 ⟨rfl, rfl⟩))
            go_roundg (s.size - (k + 1))
            case measure => omega
            case rel => exact ⟨k + 1, by omega, by omega, rfl, rfl, rfl, hid (run_yes2 hlt hak (by rw [hD]; simp) HE.out)⟩
          case false =>
            have HK := hid (run_no2 hlt hak (by rw [hL, hD]; rfl) HE.out)
            go_wp2_with (first
              | (go_at_call 16; refine (rletter_b _ false _ hL).mono ?_; rintro e w1 ⟨rfl, rfl⟩)
              | (go_at_call 17; refine (rdigit_b _ false _ hD).mono ?_; rintro e w1 ⟨rfl, rfl⟩)
              | (go_at_call 18; refine (rword_b _ false _ ((congrArg wordB (ext_run HK.out)).trans HW.out)).mono ?_; rintro e w2 ⟨rfl, HBL⟩
                 have TN := two_new w zeroTok (.cells #[.int .i64 1, .string (s.extract a k), .int .i64 0, .int .i64 0, .int .i64 0] 35)
                 have B1 := hid (old_block HBL (by simp) TN.1)
                 have B0 := hid (old_block HBL (by simp; omega) TN.2)
                 have HB := hid (show Below w.heap.size w w2 from (((Below.refl _ w).alloc (Nat.le_refl _) zeroTok).alloc (by simp) (.cells #[.int .i64 1, .string (s.extract a k), .int .i64 0, .int .i64 0, .int .i64 0] 35)).trans (HBL.mono (by simp; omega)))
                 clear HBL TN
                 obtain ⟨⟨c0, c1, c2, c3, c4⟩, f0, f1, f2, f3, f4⟩ := blk5 B1.out
                 obtain ⟨⟨d0, d1, d2, d3, d4⟩, g0, g1, g2, g3, g4⟩ := blk5 B0.out))
            · rename_i q1
              have hz := ext_size hak hk
              refine bodyPost_ret (v := .tuple #[tokV 1 (s.extract a k) 0 0 0, .int .i64 2]) (res_one rfl rfl (put5_heap (.int .i64 1) (.string (s.extract a k)) (.int .i64 0) (.int .i64 0) (.int .i64 0) B0.out)) rfl ?_
              rw [HQ.out]
              exact one_bad (name_big (tx := s.extract a k) (by have := HK.out; omega) (by omega)) (below_put5 HB.out _ _ _ _ _)
            · rename_i q1
              have hz := ext_size hak hk
              refine bodyPost_ret (v := .tuple #[tokV 1 (s.extract a k) 0 0 0, .int .i64 0]) (res_one rfl rfl (put5_heap (.int .i64 1) (.string (s.extract a k)) (.int .i64 0) (.int .i64 0) (.int .i64 0) B0.out)) rfl ?_
              rw [HQ.out]
              exact one_tok (name_name (tx := s.extract a k) (by have := HK.out; omega) (by omega) HW.out) (below_put5 HB.out _ _ _ _ _) (ext_run HK.out)
      · have hlt' : ¬ (k : Int) < (s.size : Int) := by omega
        have HK := hid (run_no3 hlt hak HE.out)
        go_wp2_with (first
          | (go_at_call 18; refine (rword_b _ false _ ((congrArg wordB (ext_run HK.out)).trans HW.out)).mono ?_; rintro e w2 ⟨rfl, HBL⟩
             have TN := two_new w zeroTok (.cells #[.int .i64 1, .string (s.extract a k), .int .i64 0, .int .i64 0, .int .i64 0] 35)
             have B1 := hid (old_block HBL (by simp) TN.1)
             have B0 := hid (old_block HBL (by simp; omega) TN.2)
             have HB := hid (show Below w.heap.size w w2 from (((Below.refl _ w).alloc (Nat.le_refl _) zeroTok).alloc (by simp) (.cells #[.int .i64 1, .string (s.extract a k), .int .i64 0, .int .i64 0, .int .i64 0] 35)).trans (HBL.mono (by simp; omega)))
             clear HBL TN
             obtain ⟨⟨c0, c1, c2, c3, c4⟩, f0, f1, f2, f3, f4⟩ := blk5 B1.out
             obtain ⟨⟨d0, d1, d2, d3, d4⟩, g0, g1, g2, g3, g4⟩ := blk5 B0.out))
        · rename_i q1
          have hz := ext_size hak hk
          refine bodyPost_ret (v := .tuple #[tokV 1 (s.extract a k) 0 0 0, .int .i64 2]) (res_one rfl rfl (put5_heap (.int .i64 1) (.string (s.extract a k)) (.int .i64 0) (.int .i64 0) (.int .i64 0) B0.out)) rfl ?_
          rw [HQ.out]
          exact one_bad (name_big (tx := s.extract a k) (by have := HK.out; omega) (by omega)) (below_put5 HB.out _ _ _ _ _)
        · rename_i q1
          have hz := ext_size hak hk
          refine bodyPost_ret (v := .tuple #[tokV 1 (s.extract a k) 0 0 0, .int .i64 0]) (res_one rfl rfl (put5_heap (.int .i64 1) (.string (s.extract a k)) (.int .i64 0) (.int .i64 0) (.int .i64 0) B0.out)) rfl ?_
          rw [HQ.out]
          exact one_tok (name_name (tx := s.extract a k) (by have := HK.out; omega) (by omega) HW.out) (below_put5 HB.out _ _ _ _ _) (ext_run HK.out)
end Go.Proofs.Ytfjbcnnidhgenaa
