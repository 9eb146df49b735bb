/- A builder of formulas: what follows from what, and the formula so far. Conditions: at most 100000 clauses of at most 50000 numbers. -/
import Derived.Test.YtkmcdbkdlalhdaaCnfM
import Derived.Test.YtkmcdbkdlalhdaaCnfH
namespace Go.Proofs.Ytkmcdbkdlalhdaa
open Go.RowKit Go.Maps Go.Lib Go.Sort
set_option linter.unusedVariables false
set_option linter.unusedSimpArgs false
theorem ints_new (w : World) (xs : List Int) (cs : Array Value) (h : cs.toList = xs.map (Value.int .i64)) : Ints (w.alloc (.cells cs 3)) (w.alloc (.cells cs 3)).heap.size (some ⟨w.heap.size, 0, none⟩) xs.length xs := by
  refine ⟨by simp, .inr ⟨w.heap.size, 0, rfl, by simp, fun j u hu => ?_⟩⟩
  rw [Nat.zero_add, cells_at (heap_alloc_new w (.cells cs 3)), ← Array.getElem?_toList, h, hu]
theorem Own.nil (w : World) (base : Nat) : Own w base none 0 0 [] := ⟨rfl, .inl ⟨rfl, rfl⟩⟩
def neg (xs : List Int) : List Int := xs.map fun x => -x
theorem neg_push {xs : List Int} {k : Nat} {x : Int} (h : xs[k]? = some x) : neg (xs.take k) ++ [-x] = neg (xs.take (k + 1)) := by
  rw [← take_push h]; simp [neg]
theorem imply_no (base g n c m cap m2 cap2 B : Nat) (N : Int) (A A2 A3 : Option Addr) (ls : List (List Int)) (xs : List Int) (w : World) (h : Bld w base g N A n c ls) (hi : Ints w B A2 m xs) (hB : B ≤ w.heap.size) (h0 : 0 ≤ N) (h1 : N ≤ 1000000) (hm : m ≤ 100000) (hx : xs.all (lit N) = false) :
    Calls Try.prog 22 #[bldP g, .slice A2 m cap, .slice A3 m2 cap2] w (ClPost w base g N A ls) := by
  have HLit := hid (literals_i N xs A2 m cap B w h0 h1 hB hi (by omega))
  rw [hx] at HLit
  have hx0 := cells_at h.box
  have H := hid h
  obtain ⟨Q, HQ⟩ : ∃ Q : Ending → World → Prop, Hid (Q = ClPost w base g N A ls) := ⟨_, hid rfl⟩
  rw [← HQ.out]
  clear h hi hx
  go_enter Try.func22, Try.ntmps22
  go_wp2_with (go_at_call 29; go_must (refine HLit.out.mono ?_); rintro e w1 ⟨rfl, HB1⟩)
  all_goals
    (try refine bodyPost_ret (results_none rfl _ _ _) rfl ?_)
    rw [HQ.out]
    exact ⟨rfl, A, n, c, hid (H.out.below HB1.out), hid (Kept.step (base := base) (n := n) (c := c) (N := N) (ls := ls) HB1.out (Kept.refl _ _ _)), hid (.inl rfl)⟩
theorem imply_nil (m cap m2 cap2 : Nat) (A2 A3 : Option Addr) (w : World) : Calls Try.prog 22 #[.pointer none, .slice A2 m cap, .slice A3 m2 cap2] w fun e w' => e = .returned (.tuple #[]) ∧ w' = w := by
  go_enter Try.func22, Try.ntmps22
  go_wp2
  all_goals
    (try refine bodyPost_ret (results_none rfl _ _ _) rfl ?_)
    exact ⟨rfl, rfl⟩
set_option maxHeartbeats 2000000 in
theorem imply_yes (base g n c m cap m2 cap2 B : Nat) (N : Int) (A A2 A3 : Option Addr) (ls : List (List Int)) (xs ys : List Int) (w : World) (h : Bld w base g N A n c ls) (hb : base ≤ w.heap.size) (hi : Ints w B A2 m xs) (hi3 : Ints w B A3 m2 ys) (hB : B ≤ w.heap.size) (h0 : 0 ≤ N) (h1 : N ≤ 1000000) (hn : n ≤ 100000) (hm : m ≤ 50000) (hm2 : m2 ≤ 50000) (hx : xs.all (lit N) = true) :
    Calls Try.prog 22 #[bldP g, .slice A2 m cap, .slice A3 m2 cap2] w (ClPost w base g N A (putF N ls (neg xs ++ ys))) := by
  have HLit := hid (literals_i N xs A2 m cap B w h0 h1 hB hi (by omega))
  rw [hx] at HLit
  have HX := hid hx
  have hx0 := cells_at h.box
  have H := hid h
  have HI := hid hi
  have HI3 := hid hi3
  have HLen := hid hi.len
  have HLen3 := hid hi3.len
  have HN := hid (show 0 ≤ N ∧ N ≤ 1000000 from ⟨h0, h1⟩)
  have HC := hid (fun w1 A4 k c4 (hbw : Below w.heap.size w w1) (hi : Ints w1 w1.heap.size A4 k (neg xs ++ ys)) (hk : k ≤ 100000) => bclause_i base g n c k c4 w1.heap.size N A A4 ls (neg xs ++ ys) w1 (h.below hbw) (Nat.le_trans hb hbw.size) hi (Nat.le_refl _) h0 h1 hn hk)
  obtain ⟨Q, HQ⟩ : ∃ Q : Ending → World → Prop, Hid (Q = ClPost w base g N A (putF N ls (neg xs ++ ys))) := ⟨_, hid rfl⟩
  rw [← HQ.out]
  clear h hi hi3 hx h0 h1
  go_enter Try.func22, Try.ntmps22
  go_wp2_with (go_at_call 29; go_must (refine HLit.out.mono ?_); rintro e w1 ⟨rfl, HB1⟩)
  go_loopg [6, 23] m (fun gk v6 v5 wr => ∃ k : Nat, k ≤ m ∧ gk = m - k ∧ v5 = .int .i64 k ∧ ∃ A4 c4, v6 = .slice A4 k c4 ∧ Hid (Own wr w.heap.size A4 k c4 (neg (xs.take k))) ∧ Hid (Below w.heap.size w wr))
  case atStart => exact ⟨0, by omega, rfl, rfl, _, _, rfl, hid (Own.nil _ _), HB1⟩
  case round =>
    obtain ⟨k, hk, rfl, rfl, A4, c4, rfl, HO, HB⟩ := hrel
    by_cases hlt : k < m
    · have hlt' : (k : Int) < (m : Int) := by omega
      obtain ⟨b, off, x, rfl, hbb, hx, hc⟩ := (HI.out.below (HB.out.mono hB)).at_ hlt
      have HX2 := hid hx
      have hlx := lit_all HX.out hx
      have hw : IntKind.i64.wrap (-x) = -x := by
        have := HN.out
        obtain ⟨q0, q1, q2⟩ : x ≠ 0 ∧ -N ≤ x ∧ x ≤ N := by simpa [lit] using hlx
        rw [IntKind.wrap_i64]; omega
      clear hx hlx
      go_wp2_with (at_builtin; go_must (refine wpList_append_ints rfl _ _ rfl w.heap.size k c4 1 1 _ A4 _ (neg (xs.take k)) [-x] rfl rfl (HO.out.below (below1 _ _)) (ints_new _ [-x] _ rfl) (Nat.le_trans HB.out.size (by simp)) (by omega) ?_); intro A5 c5 w3 hown hbel hgrow; have HO3 := hid hown; have HB3 := hid ((HB.out.alloc HB.out.size _).trans hbel); clear hown hbel hgrow)
      go_roundg (m - (k + 1))
      case measure => omega
      case rel => exact ⟨k + 1, by omega, rfl, rfl, _, _, rfl, hid (by rw [← neg_push HX2.out]; exact HO3.out), HB3⟩
    · have hlt' : ¬ (k : Int) < (m : Int) := by omega
      obtain rfl : k = m := by omega
      have HO2 : Hid (Own wr w.heap.size A4 k c4 (neg xs)) := hid (by have := HO.out; rwa [List.take_of_length_le (by have := HLen.out; omega)] at this)
      go_wp2_with (first
        | (at_builtin; go_must (refine wpList_append_ints rfl _ _ rfl w.heap.size k c4 m2 cap2 B A4 A3 (neg xs) ys rfl rfl HO2.out (HI3.out.below (HB.out.mono hB)) HB.out.size (by omega) ?_); intro A5 c5 w3 hown hbel hgrow; have HO3 := hid hown; have HB3 := hid (HB.out.trans hbel); clear hown hbel hgrow)
        | (go_at_call 20; go_must (refine (HC.out _ A5 _ c5 HB3.out HO3.out.ints (by omega)).mono ?_); rintro e w4 ⟨rfl, A6, n6, c6, HB6, HK6, HA6⟩))
      go_end0
      rw [HQ.out]
      exact ⟨rfl, A6, n6, c6, HB6, hid (Kept.step (base := base) (n := n) (c := c) (N := N) (ls := ls) HB3.out HK6.out), hid (HA6.out.imp id fun h a ha => Nat.le_trans HB3.out.size (h a ha))⟩
end Go.Proofs.Ytkmcdbkdlalhdaa
