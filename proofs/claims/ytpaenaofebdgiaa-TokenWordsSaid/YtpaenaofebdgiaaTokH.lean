/- Words, names, and what a reader hands back. No conditions. -/
import Derived.Test.YtpaenaofebdgiaaTokF
import Derived.Laws.ResultCell
namespace Go.Proofs.Ytpaenaofebdgiaa
open Go.RowKit
def words : List (List UInt8) :=
  [[105, 110, 116], [115, 116, 114, 117, 99, 116], [105, 102], [101, 108, 115, 101], [119, 104, 105, 108, 101], [98, 114, 101, 97, 107],
   [99, 111, 110, 116, 105, 110, 117, 101], [114, 101, 116, 117, 114, 110], [102, 114, 101, 101], [112, 117, 116], [110, 101, 119], [110, 117, 108, 108], [103, 101, 116]]
def wordB (l : List UInt8) : Bool := words.contains l

set_option maxHeartbeats 1000000 in
theorem word_i (s : ByteArray) (w : World) :
    Calls Try.prog 6 #[.string s] w fun e w' => e = .returned (.bool (wordB s.toList)) ∧ w' = w := by
    go_enter Try.func6, Try.ntmps6
    go_wp2
    all_goals go_ret
    all_goals exact ⟨ret_bool (by simp_all [wordB, words]), rfl⟩

/-- What is read: kind, text, number, and how many bytes; or the fault. -/
inductive Rd where
  | tok (kind : Nat) (text : List UInt8) (num : Nat) (size : Nat)
  | bad (fault : Nat) (size : Nat)

/-- A token as a value. -/
abbrev tokV (kind : Nat) (tx : ByteArray) (num line col : Nat) : Value := .agg #[.int .i64 kind, .string tx, .int .i64 num, .int .i64 line, .int .i64 col]

def RdPost (B : Nat) (s : ByteArray) (a ln hd : Nat) (w : World) (R : Rd) (e : Ending) (w' : World) : Prop :=
  Only B w w' ∧ match R with
  | .tok kind text num size => (∃ tx : ByteArray, tx.data.toList = text ∧ e = .returned (.tuple #[tokV kind tx num 0 0, .int .i64 0])) ∧ Rdr w' B s (a + size) ln hd
  | .bad f size => (∃ tx : ByteArray, e = .returned (.tuple #[tokV 0 tx 0 0 0, .int .i64 f])) ∧ Rdr w' B s (a + size) ln hd

def nameL (l : List UInt8) : Rd :=
  if 40 < runL true l then .bad 2 (runL true l) else if wordB (l.take (runL true l)) then .tok 2 (l.take (runL true l)) 0 (runL true l) else .tok 1 (l.take (runL true l)) 0 (runL true l)

theorem runL_le (b : Bool) : ∀ l : List UInt8, runL b l ≤ l.length
  | [] => Nat.le_refl _
  | c :: r => by
    have := runL_le b r
    simp only [runL, List.length_cons]
    split <;> omega

theorem run_v (B : Nat) (s : ByteArray) (letters : Bool) (a ln hd : Nat) (w : World) (h : Rdr w B s a ln hd) (ha : a ≤ s.size) (hs : s.size ≤ 2000000) :
    Calls Try.prog 38 #[.pointer (some ⟨B, 0, none⟩), .bool letters] w fun e w' =>
      ∃ tx : ByteArray, e = .returned (.string tx) ∧ Hid (tx.data.toList = (s.data.toList.drop a).take (runL letters (s.data.toList.drop a))) ∧ tx.size ≤ 2000000 ∧ Hid (tx.size = runL letters (s.data.toList.drop a)) ∧ Hid (Rdr w' B s (a + runL letters (s.data.toList.drop a)) ln hd) ∧ Hid (Only B w w') := by
  refine (run_i B s letters a ln hd w h ha hs).mono ?_
  rintro e w' ⟨rfl, h1, h2⟩
  have ht : (s.extract a (a + runL letters (s.data.toList.drop a))).data.toList = (s.data.toList.drop a).take (runL letters (s.data.toList.drop a)) := by
    rw [Lib.extract_data]; congr 1; omega
  have hl := runL_le letters (s.data.toList.drop a)
  have hz : (s.extract a (a + runL letters (s.data.toList.drop a))).size = runL letters (s.data.toList.drop a) := by
    rw [Lib.size_eq, ht, List.length_take]; omega
  have : s.data.toList.length = s.size := (Lib.size_eq s).symm
  exact ⟨_, rfl, ht, by rw [hz]; rw [List.length_drop] at hl; omega, hz, h1, h2⟩

/-- A block of the call's own lies on behind a call that turns another block. -/
theorem only_block {B k : Nat} {w w' : World} {o : Obj} (h : Only B w w') (hb : w.heap[k]? = some o) (hne : k ≠ B) : w'.heap[k]? = some o :=
  (h.block k (Array.getElem?_eq_some_iff.1 hb).1 (fun e => hne (by cases e; rfl))).trans hb

theorem blk5 {W : World} {k t : Nat} {v0 v1 v2 v3 v4 : Value} (h : W.heap[k]? = some (.cells #[v0, v1, v2, v3, v4] t (0, 0))) :
    (W.cell? ⟨k, 0, none⟩ = some v0 ∧ W.cell? ⟨k, 1, none⟩ = some v1 ∧ W.cell? ⟨k, 2, none⟩ = some v2 ∧ W.cell? ⟨k, 3, none⟩ = some v3 ∧ W.cell? ⟨k, 4, none⟩ = some v4) ∧
    (W.frozen? ⟨k, 0, none⟩ = false ∧ W.frozen? ⟨k, 1, none⟩ = false ∧ W.frozen? ⟨k, 2, none⟩ = false ∧ W.frozen? ⟨k, 3, none⟩ = false ∧ W.frozen? ⟨k, 4, none⟩ = false) := by
  simp [World.cell?, World.frozen?, h]
theorem res_tok {fn : Func} (hres : fn.results = #[.cell 2 27, .tmp 3]) {x : Array Value} {k : Nat} {u0 u1 u2 u3 u4 f : Value} {W : World}
    (h2 : x[2]?.getD undef = .pointer (some ⟨k, 0, none⟩)) (h3 : x[3]?.getD undef = f) (h : W.heap[k]? = some (.cells #[u0, u1, u2, u3, u4] 27 (0, 0))) :
    (results fn x).run Try.prog W = .ok (.tuple #[.agg #[u0, u1, u2, u3, u4], f]) W := by
  obtain ⟨⟨d0, d1, d2, d3, d4⟩, -⟩ := blk5 h
  simp [results, hres, go_sem, h2, h3, d0, d1, d2, d3, d4]
/-- Five stores into a block of the call's own. -/
abbrev put5 (W : World) (k : Nat) (u0 u1 u2 u3 u4 : Value) : World :=
  ((((W.setCell ⟨k, 0, none⟩ u0).setCell ⟨k, 1, none⟩ u1).setCell ⟨k, 2, none⟩ u2).setCell ⟨k, 3, none⟩ u3).setCell ⟨k, 4, none⟩ u4
theorem put5_heap {W : World} {k t : Nat} {v0 v1 v2 v3 v4 : Value} (u0 u1 u2 u3 u4 : Value) (h : W.heap[k]? = some (.cells #[v0, v1, v2, v3, v4] t (0, 0))) :
    (put5 W k u0 u1 u2 u3 u4).heap[k]? = some (.cells #[u0, u1, u2, u3, u4] t (0, 0)) := by
  simp [put5, World.setCell, Array.getElem?_modify, h]
theorem put5_only (W : World) (k : Nat) (u0 u1 u2 u3 u4 : Value) : Only k W (put5 W k u0 u1 u2 u3 u4) :=
  (((((Only.refl k W).set _ _).set _ _).set _ _).set _ _).set _ _
theorem only_own {B : Nat} {w w2 W5 : World} {o : Obj} (h : Only B (w.alloc o) w2) (hg : Only w.heap.size w2 W5) : Only B w W5 :=
  ⟨hg.os.trans h.os, hg.tape.trans h.tape, hg.output.trans h.output, by have h1 := h.size; have h2 := hg.size; rw [World.size_alloc] at h1; omega, fun k hk hne => by
    have h1 := h.size
    rw [World.size_alloc] at h1
    rw [hg.block k (by omega) (fun e => by cases e; omega), h.block k (by rw [World.size_alloc]; omega) hne]
    exact heap_alloc_old w o hk⟩
theorem RdPost.tok {B : Nat} {s : ByteArray} {a ln hd : Nat} {w w2 W5 : World} {o : Obj} {R : Rd} {kind num size n : Nat} {text : List UInt8} {tx : ByteArray} (hR : R = .tok kind text num size)
    (h : Only B (w.alloc o) w2) (hg : Only w.heap.size w2 W5) (hr : Rdr w2 B s n ln hd) (hne : w.heap.size ≠ B) (ht : tx.data.toList = text) (hn : n = a + size) :
    RdPost B s a ln hd w R (.returned (.tuple #[tokV kind tx num 0 0, .int .i64 0])) W5 := by
  subst hR
  exact ⟨only_own h hg, ⟨tx, ht, rfl⟩, hn ▸ hr.kept hg (fun e => hne (by cases e; rfl))⟩
theorem RdPost.bad {B : Nat} {s : ByteArray} {a ln hd : Nat} {w w2 W5 : World} {o : Obj} {R : Rd} {f size n : Nat} {tx : ByteArray} (hR : R = .bad f size)
    (h : Only B (w.alloc o) w2) (hg : Only w.heap.size w2 W5) (hr : Rdr w2 B s n ln hd) (hne : w.heap.size ≠ B) (hn : n = a + size) :
    RdPost B s a ln hd w R (.returned (.tuple #[tokV 0 tx 0 0 0, .int .i64 f])) W5 := by
  subst hR
  exact ⟨only_own h hg, ⟨tx, rfl⟩, hn ▸ hr.kept hg (fun e => hne (by cases e; rfl))⟩
theorem name_big {l : List UInt8} {tx : ByteArray} (hz : tx.size = runL true l) (h : (40 : Int) < (tx.size : Int)) : nameL l = .bad 2 (runL true l) := by
  unfold nameL; rw [if_pos (by omega)]
theorem name_word {l : List UInt8} {tx : ByteArray} (hz : tx.size = runL true l) (h : (tx.size : Int) ≤ 40) (hw : wordB (l.take (runL true l)) = true) : nameL l = .tok 2 (l.take (runL true l)) 0 (runL true l) := by
  unfold nameL; rw [if_neg (by omega), if_pos hw]
theorem name_name {l : List UInt8} {tx : ByteArray} (hz : tx.size = runL true l) (h : (tx.size : Int) ≤ 40) (hw : wordB (l.take (runL true l)) = false) : nameL l = .tok 1 (l.take (runL true l)) 0 (runL true l) := by
  unfold nameL; rw [if_neg (by omega), if_neg (by rw [hw]; exact Bool.false_ne_true)]
theorem word_b (s : ByteArray) (l : List UInt8) (b : Bool) (w : World) (hs : s.data.toList = l) (h : wordB l = b) :
    Calls Try.prog 6 #[.string s] w fun e w' => e = .returned (.bool b) ∧ w' = w := by
  have := word_i s w
  rwa [Lib.toList_data, hs, h] at this
set_option maxRecDepth 100000 in
set_option maxHeartbeats 4000000 in
theorem name_i (B : Nat) (s : ByteArray) (a ln hd : Nat) (w : World) (h : Rdr w B s a ln hd) (ha : a ≤ s.size) (hs : s.size ≤ 2000000) :
    Calls Try.prog 32 #[.pointer (some ⟨B, 0, none⟩)] w (RdPost B s a ln hd w (nameL (s.data.toList.drop a))) := by
  have hB := h.lt
  have H := hid (fun o => h.alloc o)
  clear h
  have hne : w.heap.size ≠ B := by omega
  have HN := hid hne
  clear hne
  obtain ⟨Q, HQ⟩ : ∃ Q, Hid (Q = RdPost B s a ln hd w (nameL (s.data.toList.drop a))) := ⟨_, rfl⟩
  rw [← HQ.out]
  cases hw : wordB ((s.data.toList.drop a).take (runL true (s.data.toList.drop a)))
  case true =>
    have HW := hid hw
    clear hw
    go_enter Try.func32, Try.ntmps32
    go_wp2_with (first
      | (go_at_call 38
         refine (run_v B s true a ln hd _ (H.out _) ha hs).mono ?_
         rintro e w1 ⟨tx, rfl, ht, hz, hz2, hR, hO⟩
         have hb := hid (only_block hO.out (heap_alloc_new _ _) HN.out)
         obtain ⟨⟨c0, c1, c2, c3, c4⟩, f0, f1, f2, f3, f4⟩ := blk5 hb.out)
      | (go_at_call 6; refine (word_b _ _ true _ ht.out HW.out).mono ?_; rintro e w2 ⟨rfl, rfl⟩))
    · have S := put5_heap (.int .i64 0) (.string ⟨#[]⟩) (.int .i64 0) (.int .i64 0) (.int .i64 0) hb.out
      have q1 : (40 : Int) < (tx.size : Int) := by assumption
      refine bodyPost_ret (v := .tuple #[tokV 0 ⟨#[]⟩ 0 0 0, .int .i64 2]) (res_tok Try.results32 rfl rfl S) rfl ?_
      rw [HQ.out]
      exact RdPost.bad (name_big hz2.out q1) hO.out (put5_only _ _ _ _ _ _ _) hR.out HN.out rfl
    · have S := put5_heap (.int .i64 2) (.string tx) (.int .i64 0) (.int .i64 0) (.int .i64 0) hb.out
      have q1 : (tx.size : Int) ≤ 40 := by assumption
      refine bodyPost_ret (v := .tuple #[tokV 2 tx 0 0 0, .int .i64 0]) (res_tok Try.results32 rfl rfl S) rfl ?_
      rw [HQ.out]
      exact RdPost.tok (name_word hz2.out q1 HW.out) hO.out (put5_only _ _ _ _ _ _ _) hR.out HN.out ht.out rfl
  case false =>
    have HW := hid hw
    clear hw
    go_enter Try.func32, Try.ntmps32
    go_wp2_with (first
      | (go_at_call 38
         refine (run_v B s true a ln hd _ (H.out _) ha hs).mono ?_
         rintro e w1 ⟨tx, rfl, ht, hz, hz2, hR, hO⟩
         have hb := hid (only_block hO.out (heap_alloc_new _ _) HN.out)
         obtain ⟨⟨c0, c1, c2, c3, c4⟩, f0, f1, f2, f3, f4⟩ := blk5 hb.out)
      | (go_at_call 6; refine (word_b _ _ false _ ht.out HW.out).mono ?_; rintro e w2 ⟨rfl, rfl⟩))
    · have S := put5_heap (.int .i64 0) (.string ⟨#[]⟩) (.int .i64 0) (.int .i64 0) (.int .i64 0) hb.out
      have q1 : (40 : Int) < (tx.size : Int) := by assumption
      refine bodyPost_ret (v := .tuple #[tokV 0 ⟨#[]⟩ 0 0 0, .int .i64 2]) (res_tok Try.results32 rfl rfl S) rfl ?_
      rw [HQ.out]
      exact RdPost.bad (name_big hz2.out q1) hO.out (put5_only _ _ _ _ _ _ _) hR.out HN.out rfl
    · have S := put5_heap (.int .i64 1) (.string tx) (.int .i64 0) (.int .i64 0) (.int .i64 0) hb.out
      have q1 : (tx.size : Int) ≤ 40 := by assumption
      refine bodyPost_ret (v := .tuple #[tokV 1 tx 0 0 0, .int .i64 0]) (res_tok Try.results32 rfl rfl S) rfl ?_
      rw [HQ.out]
      exact RdPost.tok (name_name hz2.out q1 HW.out) hO.out (put5_only _ _ _ _ _ _ _) hR.out HN.out ht.out rfl
end Go.Proofs.Ytpaenaofebdgiaa
