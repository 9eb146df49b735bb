/- The reference of layer 1: the sign that begins at a place. No conditions. -/
import Derived.Test.YtfjbcnnidhgenaaTokRefD
namespace Go.Proofs.Ytfjbcnnidhgenaa
open Go.RowKit
def signsL : List (List UInt8) := signs2 ++ signs1.map fun c => [c]
def signBytes (k : Nat) : ByteArray := ⟨⟨signsL.getD k []⟩⟩
abbrev signsObj : Obj := .cells #[.string ⟨#[45, 62]⟩, .string ⟨#[60, 61]⟩, .string ⟨#[62, 61]⟩, .string ⟨#[61, 61]⟩, .string ⟨#[33, 61]⟩, .string ⟨#[43]⟩, .string ⟨#[45]⟩, .string ⟨#[42]⟩, .string ⟨#[47]⟩, .string ⟨#[37]⟩, .string ⟨#[60]⟩, .string ⟨#[62]⟩,
  .string ⟨#[33]⟩, .string ⟨#[61]⟩, .string ⟨#[40]⟩, .string ⟨#[41]⟩, .string ⟨#[123]⟩, .string ⟨#[125]⟩, .string ⟨#[44]⟩, .string ⟨#[59]⟩] 9
theorem rsigns_i (w : World) : Calls Try.prog 19 #[] w fun e w' => e = .returned (.slice (some ⟨w.heap.size, 0, none⟩) 20 20) ∧ w' = w.alloc signsObj := by
  go_enter Try.func19, Try.ntmps19
  go_wp2
  go_ret
  exact ⟨rfl, rfl⟩
theorem signs_cell (w : World) (k : Nat) (h : k < 20) : (w.alloc signsObj).cell? ⟨w.heap.size, k, none⟩ = some (.string (signBytes k)) := by
  rw [blk_cell (heap_alloc_new w signsObj)]
  match k, h with
  | 0, _ => rfl
  | 1, _ => rfl
  | 2, _ => rfl
  | 3, _ => rfl
  | 4, _ => rfl
  | 5, _ => rfl
  | 6, _ => rfl
  | 7, _ => rfl
  | 8, _ => rfl
  | 9, _ => rfl
  | 10, _ => rfl
  | 11, _ => rfl
  | 12, _ => rfl
  | 13, _ => rfl
  | 14, _ => rfl
  | 15, _ => rfl
  | 16, _ => rfl
  | 17, _ => rfl
  | 18, _ => rfl
  | 19, _ => rfl
  | k + 20, h => exact absurd h (by omega)
theorem signs2_len : ∀ q ∈ signs2, q.length = 2 := by decide
theorem sign_found {l p : List UInt8} {k : Nat} (hk : signsL[k]? = some p) (hp : l.take p.length = p) (hn : ∀ q ∈ signsL.take k, l.take q.length ≠ q) : signL l = .tok 4 p 0 p.length := by
  by_cases h5 : k < 5
  · have hm : p ∈ signs2 := by
      have : signs2[k]? = some p := by rw [← hk]; unfold signsL; rw [List.getElem?_append_left (show k < signs2.length from h5)]
      exact List.mem_of_getElem? this
    have h2 := signs2_len p hm
    rw [h2] at hp
    have hl : 1 < l.length := by
      have := congrArg List.length hp
      rw [List.length_take, h2] at this; omega
    have hb : signB l = 2 := by unfold signB; rw [if_pos ⟨hl, by rw [hp]; exact List.contains_iff_mem.2 hm⟩]
    unfold signL; rw [hb, hp, h2]; rfl
  · obtain ⟨c, hc, rfl⟩ : ∃ c, c ∈ signs1 ∧ p = [c] := by
      unfold signsL at hk
      rw [List.getElem?_append_right (show signs2.length ≤ k from by show 5 ≤ k; omega), List.getElem?_map] at hk
      cases hq : signs1[k - signs2.length]? with
      | none => rw [hq] at hk; cases hk
      | some c => rw [hq] at hk; injection hk with hk; exact ⟨c, List.mem_of_getElem? hq, hk.symm⟩
    have hno : ∀ q ∈ signs2, l.take 2 ≠ q := fun q hq => by
      have := hn q (by
        unfold signsL
        rw [List.take_append, List.take_of_length_le (show signs2.length ≤ k from by show 5 ≤ k; omega)]
        exact List.mem_append_left _ hq)
      rwa [signs2_len q hq] at this
    have hc2 : ¬ (1 < l.length ∧ signs2.contains (l.take 2) = true) := fun ⟨_, h⟩ => hno _ (List.contains_iff_mem.1 h) rfl
    cases l with
    | nil => simp at hp
    | cons d r =>
      simp at hp
      subst hp
      have hb : signB (d :: r) = 1 := by unfold signB; rw [if_neg hc2]; simp only []; rw [if_pos (List.contains_iff_mem.2 hc)]
      unfold signL; rw [hb]; rfl
theorem sign_nope {l : List UInt8} (hn : ∀ q ∈ signsL, l.take q.length ≠ q) : signL l = .bad 3 0 := by
  have hc2 : ¬ (1 < l.length ∧ signs2.contains (l.take 2) = true) := fun ⟨_, h⟩ => by
    have hm := List.contains_iff_mem.1 h
    have := hn (l.take 2) (by unfold signsL; exact List.mem_append_left _ hm)
    rw [signs2_len _ hm] at this
    exact this rfl
  apply sign_bad
  unfold signB; rw [if_neg hc2]
  cases l with
  | nil => rfl
  | cons d r =>
    simp only []
    rw [if_neg]
    intro h
    have hm := List.contains_iff_mem.1 h
    have := hn [d] (by unfold signsL; exact List.mem_append_right _ (List.mem_map.2 ⟨d, hm, rfl⟩))
    simp at this
theorem sign_get {k : Nat} (hk : k < 20) : signsL[k]? = some (signBytes k).data.toList := by
  have h : k < signsL.length := hk
  show _ = some (signsL.getD k [])
  rw [List.getElem?_eq_getElem h]; simp [List.getD, h]
theorem sign_len {k : Nat} (hk : k < 20) : 1 ≤ (signBytes k).size ∧ (signBytes k).size ≤ 2 := by
  have h := sign_get hk
  have : ∀ q ∈ signsL, 1 ≤ q.length ∧ q.length ≤ 2 := by decide
  rw [Lib.size_eq]
  exact this _ (List.mem_of_getElem? h)
theorem sign_hit {s tx : ByteArray} {a b k : Nat} (hk : k < 20) (ht : tx = signBytes k) (hb : b = a + tx.size) (h : ((s.extract a b).toList == tx.toList) = true)
    (hn : ∀ q ∈ signsL.take k, (s.data.toList.drop a).take q.length ≠ q) : signL (s.data.toList.drop a) = .tok 4 tx.data.toList 0 tx.data.toList.length := by
  refine sign_found (ht ▸ sign_get hk) ?_ hn
  have e : (s.extract a b).toList = tx.toList := by simpa using h
  rw [Lib.toList_data, Lib.toList_data, ext_run hb, Lib.size_eq] at e
  exact e
theorem sign_miss {s tx : ByteArray} {a b k : Nat} (hk : k < 20) (ht : tx = signBytes k) (hb : b = a + tx.size) (h : ((s.extract a b).toList == tx.toList) = false)
    (hn : ∀ q ∈ signsL.take k, (s.data.toList.drop a).take q.length ≠ q) : ∀ q ∈ signsL.take (k + 1), (s.data.toList.drop a).take q.length ≠ q := by
  have e : (s.extract a b).toList ≠ tx.toList := by simpa using h
  rw [Lib.toList_data, Lib.toList_data, ext_run hb, Lib.size_eq] at e
  intro q hq
  rw [List.take_add_one, sign_get hk] at hq
  rcases List.mem_append.1 hq with hq | hq
  · exact hn q hq
  · simp at hq; subst hq; rw [← ht]; exact e
theorem sign_short {s tx : ByteArray} {a k : Nat} (hk : k < 20) (ht : tx = signBytes k) (hbs : s.size < a + tx.size)
    (hn : ∀ q ∈ signsL.take k, (s.data.toList.drop a).take q.length ≠ q) : ∀ q ∈ signsL.take (k + 1), (s.data.toList.drop a).take q.length ≠ q := by
  intro q hq
  rw [List.take_add_one, sign_get hk] at hq
  rcases List.mem_append.1 hq with hq | hq
  · exact hn q hq
  · simp at hq; subst hq; rw [← ht]
    intro e
    have := congrArg List.length e
    rw [List.length_take, List.length_drop, ← Lib.size_eq, ← Lib.size_eq] at this
    have h1 := (sign_len hk).1
    rw [← ht] at h1
    omega
set_option maxRecDepth 100000 in
set_option maxHeartbeats 8000000 in
theorem oneC_i (s : ByteArray) (a : Nat) (w : World) (ha : a < s.size) (hs : s.size ≤ 2000000) (hl : lettI (s[a].toNat : Int) = false) (hd : digI (s[a].toNat : Int) = false) :
    Calls Try.prog 11 #[.string s, .int .i64 a] w (OnePost w (signL (s.data.toList.drop a))) := by
  obtain ⟨Q, HQ⟩ : ∃ Q, Hid (Q = OnePost w (signL (s.data.toList.drop a))) := ⟨_, hid rfl⟩
  rw [← HQ.out]
  have ha' : (a : Int) < (s.size : Int) := by omega
  have HC := hid (signs_cell (w.alloc zeroTok))
  have TN := two_new w zeroTok signsObj
  have HB0 := hid TN.2
  have HBel := hid (((Below.refl w.heap.size w).alloc (Nat.le_refl _) zeroTok).alloc (by simp) signsObj)
  clear TN
  go_enter Try.func11, Try.ntmps11
  go_wp2_with (first
    | (go_at_call 16; refine (rletter_b _ false _ hl).mono ?_; rintro e w1 ⟨rfl, rfl⟩)
    | (go_at_call 17; refine (rdigit_b _ false _ hd).mono ?_; rintro e w1 ⟨rfl, rfl⟩)
    | (go_at_call 19; refine (rsigns_i _).mono ?_; rintro e w1 ⟨rfl, rfl⟩))
  rw [World.size_alloc] at HC
  obtain ⟨W2, hW2⟩ : ∃ W2, (w.alloc zeroTok).alloc signsObj = W2 := ⟨_, rfl⟩
  simp only [zeroTok, signsObj] at hW2
  rw [hW2] at HC HBel HB0
  try rw [hW2]
  have HW := hid (Below.refl W2.heap.size W2)
  have HS := hid (show w.heap.size + 2 ≤ W2.heap.size from by rw [← hW2]; simp)
  clear hW2
  go_loopg [11] 20 (fun g v11 wr => ∃ k : Nat, k ≤ 20 ∧ g = 20 - k ∧ v11 = .int .i64 k ∧ Hid (Below W2.heap.size W2 wr) ∧ Hid (∀ q ∈ signsL.take k, (s.data.toList.drop a).take q.length ≠ q))
  case atStart => exact ⟨0, Nat.zero_le _, rfl, rfl, HW, hid (fun q h => by simp at h)⟩
  case round =>
    obtain ⟨k, hk, rfl, rfl, HR, HN⟩ := hrel
    have HB1 := hid (old_block HR.out (by have := HS.out; omega) HB0.out)
    by_cases hlt : k < 20
    · have hlt' : (k : Int) < 20 := by omega
      obtain ⟨tx, htx⟩ : ∃ tx : ByteArray, Hid (tx = signBytes k) := ⟨_, hid rfl⟩
      have hc := HC.out k hlt
      rw [← htx.out] at hc
      have hc1 := (HR.out.cell (p := ⟨w.heap.size + 1, k, none⟩) (by have := HS.out; show w.heap.size + 1 < _; omega)).trans hc
      clear hc
      have hsl := sign_len hlt
      rw [← htx.out] at hsl
      obtain ⟨hz1, hz2⟩ := hsl
      obtain ⟨b, hb⟩ : ∃ b, Hid (b = a + tx.size) := ⟨_, hid rfl⟩
      by_cases hfit : a + tx.size ≤ s.size
      · have hfit' : (tx.size : Int) ≤ (s.size : Int) - (a : Int) := by omega
        have e1 : (a : Int) + (tx.size : Int) = (b : Int) := by have := hb.out; omega
        have hbs : b ≤ s.size := by have := hb.out; omega
        have hab : a ≤ b := by have := hb.out; omega
        cases hq : ((s.extract a b).toList == tx.toList)
        case false =>
          go_wp2
          go_quiet (fail)
          go_wp2
          go_roundg (20 - (k + 1))
          case measure => omega
          case rel => exact ⟨k + 1, by omega, rfl, rfl, hid ⟨HR.out.os, HR.out.tape, HR.out.output, HR.out.size, HR.out.block⟩, hid (sign_miss hlt htx.out hb.out hq HN.out)⟩
        case true =>
          obtain ⟨⟨c0, c1, c2, c3, c4⟩, f0, f1, f2, f3, f4⟩ := blk5 HB1.out
          go_wp2
          go_quiet (fail)
          go_wp2
          refine bodyPost_ret (v := .tuple #[tokV 4 tx 0 0 0, .int .i64 0]) (res_one rfl rfl (put5_heap (.int .i64 4) (.string tx) (.int .i64 0) (.int .i64 0) (.int .i64 0) HB1.out)) rfl ?_
          rw [HQ.out]
          have HBQ := hid (show Below W2.heap.size W2 (wr.drewN nq) from ⟨HR.out.os, HR.out.tape, HR.out.output, HR.out.size, HR.out.block⟩)
          exact one_tok (sign_hit hlt htx.out hb.out hq HN.out) (below_put5 (HBel.out.trans (HBQ.out.mono (by have := HS.out; omega))) _ _ _ _ _) rfl
      · have hfit' : ¬ (tx.size : Int) ≤ (s.size : Int) - (a : Int) := by omega
        have hgt : decide ((tx.size : Int) ≤ (s.size : Int) - (a : Int)) = false := decide_eq_false hfit'
        go_wp2
        go_quiet (fail)
        go_wp2
        go_roundg (20 - (k + 1))
        case measure => omega
        case rel => exact ⟨k + 1, by omega, rfl, rfl, hid ⟨HR.out.os, HR.out.tape, HR.out.output, HR.out.size, HR.out.block⟩, hid (sign_short hlt htx.out (by omega) HN.out)⟩
    · have hlt' : ¬ (k : Int) < 20 := by omega
      have hk20 : k = 20 := by omega
      obtain ⟨⟨c0, c1, c2, c3, c4⟩, f0, f1, f2, f3, f4⟩ := blk5 HB1.out
      have hn : ∀ q ∈ signsL, (s.data.toList.drop a).take q.length ≠ q := by
        have := HN.out; rw [hk20] at this; exact this
      have HNN := hid hn
      clear hn
      go_wp2
      refine bodyPost_ret (v := .tuple #[tokV 0 ⟨#[]⟩ 0 0 0, .int .i64 3]) (res_one rfl rfl (put5_heap (.int .i64 0) (.string ⟨#[]⟩) (.int .i64 0) (.int .i64 0) (.int .i64 0) HB1.out)) rfl ?_
      rw [HQ.out]
      exact one_bad (sign_nope HNN.out) (below_put5 (HBel.out.trans (HR.out.mono (by have := HS.out; omega))) _ _ _ _ _)
end Go.Proofs.Ytfjbcnnidhgenaa
