/- A builder: two literals that are the same. Conditions: at most 90000 clauses. -/
import Derived.Test.YtkmcdbkdlalhdaaCnfP
namespace Go.Proofs.Ytkmcdbkdlalhdaa
open Go.RowKit Go.Maps Go.Lib Go.Sort
set_option linter.unusedVariables false
set_option linter.unusedSimpArgs false
theorem Kept.trans {w w1 w2 : World} {g : Nat} {A A1 : Option Addr} (h : Kept w w1 g A) (hA : A1 = A ∨ ∀ a, A1 = some a → w.heap.size ≤ a.block) (k : Kept w1 w2 g A1) : Kept w w2 g A :=
  ⟨k.os.trans h.os, k.tape.trans h.tape, k.output.trans h.output, Nat.le_trans h.size k.size, fun j hj h1 h2 => (k.block j (Nat.lt_of_lt_of_le hj h.size) h1 (fun a ha => by
    rcases hA with e | e
    · subst e; exact h2 a ha
    · have := e a ha; omega)).trans (h.block j hj h1 h2)⟩
theorem new_trans {w w1 : World} {A A1 A2 : Option Addr} (hA : A1 = A ∨ ∀ a, A1 = some a → w.heap.size ≤ a.block) (hs : w.heap.size ≤ w1.heap.size) (h : A2 = A1 ∨ ∀ a, A2 = some a → w1.heap.size ≤ a.block) : A2 = A ∨ ∀ a, A2 = some a → w.heap.size ≤ a.block := by
  rcases h with rfl | h
  · exact hA
  · exact .inr fun a ha => Nat.le_trans hs (h a ha)
theorem ClPost.after {w w1 w2 : World} {base g : Nat} {N : Int} {A A1 : Option Addr} {ls : List (List Int)} {e : Ending} (h : Kept w w1 g A) (hA : A1 = A ∨ ∀ a, A1 = some a → w.heap.size ≤ a.block) (k : ClPost w1 base g N A1 ls e w2) : ClPost w base g N A ls e w2 := by
  obtain ⟨he, A2, n2, c2, hb, hk, hn⟩ := k
  exact ⟨he, A2, n2, c2, hb, hid (h.trans hA hk.out), hid (new_trans hA h.size hn.out)⟩
def sameF (N : Int) (ls : List (List Int)) (a c : Int) : List (List Int) := if lit N a = true ∧ lit N c = true then ls ++ [[-a, c]] ++ [[a, -c]] else ls
theorem lit_neg' (N a : Int) : lit N (-a) = lit N a := by
  unfold lit
  rw [Bool.eq_iff_iff, decide_eq_true_eq, decide_eq_true_eq]
  omega
theorem putF_pair (N : Int) (ls : List (List Int)) (a c : Int) (h1 : lit N a = true) (h2 : lit N c = true) : putF N ls [-a, c] = ls ++ [[-a, c]] ∧ putF N ls [a, -c] = ls ++ [[a, -c]] := by
  constructor <;> simp [putF, lit_neg', h1, h2]
theorem sameF_put (N : Int) (ls : List (List Int)) (a c : Int) : putF N (putF N ls [-a, c]) [a, -c] = sameF N ls a c := by
  unfold sameF
  by_cases h : lit N a = true ∧ lit N c = true
  · rw [if_pos h, (putF_pair N ls a c h.1 h.2).1, (putF_pair N _ a c h.1 h.2).2]
  · rw [if_neg h]
    have e1 : ([-a, c].all (lit N)) = false := by
      simp only [List.all_cons, List.all_nil, lit_neg', Bool.and_true]
      cases h1 : lit N a <;> cases h2 : lit N c <;> simp_all
    have e2 : ([a, -c].all (lit N)) = false := by
      simp only [List.all_cons, List.all_nil, lit_neg', Bool.and_true]
      cases h1 : lit N a <;> cases h2 : lit N c <;> simp_all
    simp only [putF, e1, e2, Bool.false_eq_true, if_false]
theorem bsame_nil (a c : Int) (w : World) : Calls Try.prog 23 #[.pointer none, .int .i64 a, .int .i64 c] w fun e w' => e = .returned (.tuple #[]) ∧ w' = w := by
  go_enter Try.func23, Try.ntmps23
  go_wp2
  all_goals
    (try refine bodyPost_ret (results_none rfl _ _ _) rfl ?_)
    exact ⟨rfl, rfl⟩
theorem bsame_no (base g n c : Nat) (N a d : Int) (A : Option Addr) (ls : List (List Int)) (w : World) (h : Bld w base g N A n c ls) (h0 : 0 ≤ N) (h1 : N ≤ 1000000) (hno : lit N a = false ∨ lit N d = false) :
    Calls Try.prog 23 #[bldP g, .int .i64 a, .int .i64 d] w (ClPost w base g N A ls) := by
  have HL1 := hid (fun W => literal_i a N W h0 h1)
  have HL2 := hid (fun W => literal_i d N W h0 h1)
  have hx0 := cells_at h.box
  have H := hid h
  obtain ⟨Q, HQ⟩ : ∃ Q : Ending → World → Prop, Hid (Q = ClPost w base g N A ls) := ⟨_, hid rfl⟩
  rw [← HQ.out]
  clear h
  cases e1 : lit N a
  case false =>
    rw [e1] at HL1
    clear hno e1 h0 h1
    go_enter Try.func23, Try.ntmps23
    go_wp2_with (go_at_call 32; go_must (refine (HL1.out _).mono ?_); rintro e w2 ⟨rfl, hw2⟩; obtain rfl := hw2.symm; clear hw2)
    all_goals
      (try refine bodyPost_ret (results_none rfl _ _ _) rfl ?_)
      rw [HQ.out]
      exact ⟨rfl, A, n, c, H, hid (Kept.refl _ _ _), hid (.inl rfl)⟩
  case true =>
    have e2 : lit N d = false := by
      rcases hno with h | h
      · rw [e1] at h; cases h
      · exact h
    rw [e1] at HL1
    rw [e2] at HL2
    clear hno e1 e2 h0 h1
    have F1 : True := trivial
    go_enter Try.func23, Try.ntmps23
    go_wp2_with (first
      | (go_at_call 32; have hh := F1; clear F1; go_must (refine (HL1.out _).mono ?_); rintro e w2 ⟨rfl, hw2⟩; obtain rfl := hw2.symm; clear hw2)
      | (go_at_call 32; go_must (refine (HL2.out _).mono ?_); rintro e w2 ⟨rfl, hw2⟩; obtain rfl := hw2.symm; clear hw2))
    all_goals
      (try refine bodyPost_ret (results_none rfl _ _ _) rfl ?_)
      rw [HQ.out]
      exact ⟨rfl, A, n, c, H, hid (Kept.refl _ _ _), hid (.inl rfl)⟩
set_option maxHeartbeats 2000000 in
theorem bsame_yes (base g n c : Nat) (N a d : Int) (A : Option Addr) (ls : List (List Int)) (w : World) (h : Bld w base g N A n c ls) (hb : base ≤ w.heap.size) (h0 : 0 ≤ N) (h1 : N ≤ 1000000) (hn : n ≤ 90000) (ha : lit N a = true) (hd : lit N d = true) :
    Calls Try.prog 23 #[bldP g, .int .i64 a, .int .i64 d] w (ClPost w base g N A (ls ++ [[-a, d]] ++ [[a, -d]])) := by
  have HL1 := hid (fun W => literal_i a N W h0 h1)
  have HL2 := hid (fun W => literal_i d N W h0 h1)
  rw [ha] at HL1
  rw [hd] at HL2
  have hwa : IntKind.i64.wrap (-a) = -a := by
    obtain ⟨q0, q1, q2⟩ : a ≠ 0 ∧ -N ≤ a ∧ a ≤ N := by simpa [lit] using ha
    rw [IntKind.wrap_i64]; omega
  have hwd : IntKind.i64.wrap (-d) = -d := by
    obtain ⟨q0, q1, q2⟩ : d ≠ 0 ∧ -N ≤ d ∧ d ≤ N := by simpa [lit] using hd
    rw [IntKind.wrap_i64]; omega
  have hx0 := cells_at h.box
  have H := hid h
  have HC1 := hid (bclause_i base g n c 2 2 (w.alloc (.cells #[.int .i64 (-a), .int .i64 d] 3)).heap.size N A (some ⟨w.heap.size, 0, none⟩) ls [-a, d] (w.alloc (.cells #[.int .i64 (-a), .int .i64 d] 3)) (h.below (below1 _ _)) (Nat.le_trans hb (by simp)) (ints_new w [-a, d] _ rfl) (Nat.le_refl _) h0 h1 (by omega) (by omega))
  rw [(putF_pair N ls a d ha hd).1] at HC1
  have HC2 := hid (fun W A2 n2 c2 (q : Bld W base g N A2 n2 c2 (ls ++ [[-a, d]])) (hq : base ≤ W.heap.size) (hn2 : n2 ≤ 100000) => bclause_i base g n2 c2 2 2 (W.alloc (.cells #[.int .i64 a, .int .i64 (-d)] 3)).heap.size N A2 (some ⟨W.heap.size, 0, none⟩) (ls ++ [[-a, d]]) [a, -d] (W.alloc (.cells #[.int .i64 a, .int .i64 (-d)] 3)) (q.below (below1 _ _)) (Nat.le_trans hq (by simp)) (ints_new W [a, -d] _ rfl) (Nat.le_refl _) h0 h1 hn2 (by omega))
  rw [(putF_pair N (ls ++ [[-a, d]]) a d ha hd).2] at HC2
  have HLn := hid h.row.len
  obtain ⟨Q, HQ⟩ : ∃ Q : Ending → World → Prop, Hid (Q = ClPost w base g N A (ls ++ [[-a, d]] ++ [[a, -d]])) := ⟨_, hid rfl⟩
  rw [← HQ.out]
  clear h ha hd h0 h1
  have F1 : True := trivial
  have F2 : True := trivial
  go_enter Try.func23, Try.ntmps23
  go_wp2_with (first
    | (go_at_call 32; have hh := F1; clear F1; go_must (refine (HL1.out _).mono ?_); rintro e w2 ⟨rfl, hw2⟩; obtain rfl := hw2.symm; clear hw2)
    | (go_at_call 32; go_must (refine (HL2.out _).mono ?_); rintro e w2 ⟨rfl, hw2⟩; obtain rfl := hw2.symm; clear hw2)
    | (go_at_call 20; have hh := F2; clear F2; go_must (with_reducible refine HC1.out.mono ?_); rintro e w3 ⟨rfl, A3, n3, c3, HB3, HK3, HA3⟩
       have HK := hid (Kept.step (base := base) (n := n) (c := c) (N := N) (ls := ls) (below1 w _) HK3.out)
       have HAA : Hid (A3 = A ∨ ∀ a, A3 = some a → w.heap.size ≤ a.block) := hid (HA3.out.imp id fun h a ha => Nat.le_trans (by simp) (h a ha))
       have hn3 : n3 ≤ 100000 := (by have h1 := HB3.out.row.len; have h2 := HLn.out; simp at h1; omega))
    | (go_at_call 20; go_must (with_reducible refine (HC2.out _ _ _ _ HB3.out (Nat.le_trans hb HK.out.size) hn3).mono ?_); rintro e w4 ⟨rfl, A4, n4, c4, HB4, HK4, HA4⟩
       have HKb := hid (Kept.step (base := base) (n := n) (c := c) (N := N) (ls := ls) (below1 w3 _) HK4.out)
       have HAb : Hid (A4 = A3 ∨ ∀ a, A4 = some a → w3.heap.size ≤ a.block) := hid (HA4.out.imp id fun h a ha => Nat.le_trans (by simp) (h a ha))))
  go_end0
  rw [HQ.out]
  exact ⟨rfl, A4, n4, c4, HB4, hid (HK.out.trans HAA.out HKb.out), hid (new_trans HAA.out HK.out.size HAb.out)⟩
theorem bsame_i (base g n c : Nat) (N a d : Int) (A : Option Addr) (ls : List (List Int)) (w : World) (h : Bld w base g N A n c ls) (hb : base ≤ w.heap.size) (h0 : 0 ≤ N) (h1 : N ≤ 1000000) (hn : n ≤ 90000) :
    Calls Try.prog 23 #[bldP g, .int .i64 a, .int .i64 d] w (ClPost w base g N A (sameF N ls a d)) := by
  unfold sameF
  by_cases hc : lit N a = true ∧ lit N d = true
  · rw [if_pos hc]
    exact bsame_yes base g n c N a d A ls w h hb h0 h1 hn hc.1 hc.2
  · rw [if_neg hc]
    refine bsame_no base g n c N a d A ls w h h0 h1 ?_
    cases e1 : lit N a
    · exact .inl rfl
    · cases e2 : lit N d
      · exact .inr rfl
      · exact absurd ⟨e1, e2⟩ hc
end Go.Proofs.Ytkmcdbkdlalhdaa
