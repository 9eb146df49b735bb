/- What read does. No conditions. -/
import Derived.Test.YtpaenaofebdgiaaTokL
namespace Go.Proofs.Ytpaenaofebdgiaa
open Go.RowKit
def readL (l : List UInt8) : Rd :=
  match l with
  | [] => .tok 5 [] 0 0
  | c :: _ => if letterB c then nameL l else if digitB c then numberL l else signL l
theorem read_end {s : ByteArray} {a : Nat} (h : s.size ≤ a) : readL (s.data.toList.drop a) = .tok 5 [] 0 0 := by
  rw [List.drop_eq_nil_of_le (by simpa using h)]; rfl
theorem read_name {s : ByteArray} {a : Nat} (h : a < s.size) (hl : lettI (s[a].toNat : Int) = true) : readL (s.data.toList.drop a) = nameL (s.data.toList.drop a) := by
  rw [lettI_eq] at hl
  rw [drop_at s a h]; simp only [readL, hl, if_true]
theorem read_number {s : ByteArray} {a : Nat} (h : a < s.size) (hl : lettI (s[a].toNat : Int) = false) (hd : digI (s[a].toNat : Int) = true) : readL (s.data.toList.drop a) = numberL (s.data.toList.drop a) := by
  rw [lettI_eq] at hl; rw [digI_eq] at hd
  rw [drop_at s a h]; simp only [readL, hl, hd, if_true]; rfl
theorem read_sign {s : ByteArray} {a : Nat} (h : a < s.size) (hl : lettI (s[a].toNat : Int) = false) (hd : digI (s[a].toNat : Int) = false) : readL (s.data.toList.drop a) = signL (s.data.toList.drop a) := by
  rw [lettI_eq] at hl; rw [digI_eq] at hd
  rw [drop_at s a h]; simp only [readL, hl, hd]; rfl
theorem RdPost.open {B : Nat} {s : ByteArray} {a ln hd : Nat} {W0 w1 : World} {R : Rd} {e : Ending} (h : RdPost B s a ln hd W0 R e w1) :
    ∃ (kind num f : Nat) (tx : ByteArray), e = .returned (.tuple #[tokV kind tx num 0 0, .int .i64 f]) ∧ Hid (Only B W0 w1) ∧
      Hid (∀ (w W5 : World) (k : Nat), Only B w W5 → Only k w1 W5 → k ≠ B → RdPost B s a ln hd w R (.returned (.tuple #[tokV kind tx num 0 0, .int .i64 f])) W5) := by
  obtain ⟨hO, h⟩ := h
  cases R with
  | tok kind text num size =>
    obtain ⟨⟨tx, ht, he⟩, hr⟩ := h
    exact ⟨kind, num, 0, tx, he, hO, fun w W5 k h1 h2 hk => ⟨h1, ⟨tx, ht, rfl⟩, hr.kept h2 (fun e => hk (by cases e; rfl))⟩⟩
  | bad f size =>
    obtain ⟨⟨tx, he⟩, hr⟩ := h
    exact ⟨0, 0, f, tx, he, hO, fun w W5 k h1 h2 hk => ⟨h1, ⟨tx, rfl⟩, hr.kept h2 (fun e => hk (by cases e; rfl))⟩⟩
theorem only_own' {B N : Nat} {w w2 W5 : World} {o : Obj} (h : Only B ((w.alloc o).drewN N) w2) (hg : Only w.heap.size w2 W5) : Only B w W5 :=
  only_own (o := o) ⟨h.os, h.tape, h.output, h.size, h.block⟩ hg

set_option maxRecDepth 100000 in
set_option maxHeartbeats 8000000 in
theorem read_i (B : Nat) (s : ByteArray) (a ln hd : Nat) (w : World) (h : Rdr w B s a ln hd) (ha : a ≤ s.size) (hs : s.size ≤ 2000000) :
    Calls Try.prog 28 #[.pointer (some ⟨B, 0, none⟩)] w (RdPost B s a ln hd w (readL (s.data.toList.drop a))) := by
  have hB := h.lt
  have H := hid (fun o => h.alloc o)
  have c0 := fun o => (h.alloc o).c.1
  have c1 := fun o => (h.alloc o).c.2.1
  clear h
  have hne : w.heap.size ≠ B := by omega
  have HN := hid hne
  clear hne
  obtain ⟨Q, HQ⟩ : ∃ Q, Hid (Q = RdPost B s a ln hd w (readL (s.data.toList.drop a))) := ⟨_, rfl⟩
  rw [← HQ.out]
  by_cases hlt : a < s.size
  · have hlt' : (a : Int) < (s.size : Int) := by omega
    have heq : ((a : Int) == (s.size : Int)) = false := by simp; omega
    cases hl : lettI (s[a].toNat : Int)
    case true =>
      have HM := hid (read_name hlt hl)
      go_enter Try.func28, Try.ntmps28
      go_wp2
      go_quiet (fail)
      go_wp2
      go_quiet (fail)
      go_wp2_with (first
        | (go_at_call 16; refine (letter_b _ _ _ hl).mono ?_; rintro e w' ⟨rfl, rfl⟩)
        | (go_at_call 32
           refine (name_i B s a ln hd _ ((H.out _).drewN _) ha hs).mono ?_
           rintro e w1 hP
           obtain ⟨kind, num, f, tx, rfl, hO, hP⟩ := hP.open
           have hb := hid (only_block hO.out (heap_alloc_new w zeroTok) HN.out)
           obtain ⟨⟨d0, d1, d2, d3, d4⟩, f0, f1, f2, f3, f4⟩ := blk5 hb.out))
      have S := put5_heap (.int .i64 kind) (.string tx) (.int .i64 num) (.int .i64 0) (.int .i64 0) hb.out
      refine bodyPost_ret (v := .tuple #[tokV kind tx num 0 0, .int .i64 f]) (res_tok Try.results28 rfl rfl S) rfl ?_
      rw [HQ.out, HM.out]
      exact hP.out w _ w.heap.size (only_own' hO.out (put5_only _ _ _ _ _ _ _)) (put5_only _ _ _ _ _ _ _) HN.out
    case false =>
      cases hdg : digI (s[a].toNat : Int)
      case true =>
        have HM := hid (read_number hlt hl hdg)
        go_enter Try.func28, Try.ntmps28
        go_wp2
        go_quiet (fail)
        go_wp2
        go_quiet (fail)
        go_wp2_with (first
          | (go_at_call 16; refine (letter_b _ _ _ hl).mono ?_; rintro e w' ⟨rfl, rfl⟩)
          | (go_at_call 17; refine (digit_b _ _ _ hdg).mono ?_; rintro e w' ⟨rfl, rfl⟩)
          | (go_at_call 33
             refine (number_i B s a ln hd _ ((H.out _).drewN _) hlt hs).mono ?_
             rintro e w1 hP
             obtain ⟨kind, num, f, tx, rfl, hO, hP⟩ := hP.open
             have hb := hid (only_block hO.out (heap_alloc_new w zeroTok) HN.out)
             obtain ⟨⟨d0, d1, d2, d3, d4⟩, f0, f1, f2, f3, f4⟩ := blk5 hb.out))
        have S := put5_heap (.int .i64 kind) (.string tx) (.int .i64 num) (.int .i64 0) (.int .i64 0) hb.out
        refine bodyPost_ret (v := .tuple #[tokV kind tx num 0 0, .int .i64 f]) (res_tok Try.results28 rfl rfl S) rfl ?_
        rw [HQ.out, HM.out]
        exact hP.out w _ w.heap.size (only_own' hO.out (put5_only _ _ _ _ _ _ _)) (put5_only _ _ _ _ _ _ _) HN.out
      case false =>
        have HM := hid (read_sign hlt hl hdg)
        go_enter Try.func28, Try.ntmps28
        go_wp2
        go_quiet (fail)
        go_wp2
        go_quiet (fail)
        go_wp2_with (first
          | (go_at_call 16; refine (letter_b _ _ _ hl).mono ?_; rintro e w' ⟨rfl, rfl⟩)
          | (go_at_call 17; refine (digit_b _ _ _ hdg).mono ?_; rintro e w' ⟨rfl, rfl⟩)
          | (go_at_call 34
             refine (sign_i B s a ln hd _ ((H.out _).drewN _) hlt hs).mono ?_
             rintro e w1 hP
             obtain ⟨kind, num, f, tx, rfl, hO, hP⟩ := hP.open
             have hb := hid (only_block hO.out (heap_alloc_new w zeroTok) HN.out)
             obtain ⟨⟨d0, d1, d2, d3, d4⟩, f0, f1, f2, f3, f4⟩ := blk5 hb.out))
        have S := put5_heap (.int .i64 kind) (.string tx) (.int .i64 num) (.int .i64 0) (.int .i64 0) hb.out
        refine bodyPost_ret (v := .tuple #[tokV kind tx num 0 0, .int .i64 f]) (res_tok Try.results28 rfl rfl S) rfl ?_
        rw [HQ.out, HM.out]
        exact hP.out w _ w.heap.size (only_own' hO.out (put5_only _ _ _ _ _ _ _)) (put5_only _ _ _ _ _ _ _) HN.out
  · have heq : a = s.size := by omega
    subst heq
    have HM := hid (read_end (s := s) (a := s.size) (Nat.le_refl _))
    go_enter Try.func28, Try.ntmps28
    go_wp2
    go_quiet (fail)
    go_wp2
    have S := put5_heap (.int .i64 5) (.string ⟨#[]⟩) (.int .i64 0) (.int .i64 0) (.int .i64 0) (heap_alloc_new w zeroTok)
    refine bodyPost_ret (v := .tuple #[tokV 5 ⟨#[]⟩ 0 0 0, .int .i64 0]) (res_tok Try.results28 rfl rfl S) rfl ?_
    rw [HQ.out]
    exact RdPost.tok (tx := ⟨#[]⟩) HM.out ((Only.refl B (w.alloc zeroTok)).drewN nq) (put5_only _ _ _ _ _ _ _) ((H.out zeroTok).drewN _) HN.out rfl rfl
end Go.Proofs.Ytpaenaofebdgiaa
