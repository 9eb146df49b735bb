/- Rows of bits in memory. No conditions. -/
import Derived.Test.YtlbcinanpnjjjaaDoorFlG
import Derived.Test.YtlbcinanpnjjjaaDoorLvB
import Derived.OwnWalk
import Derived.Deep.RegionLaw
namespace Go.Proofs.YtlbcinanpnjjjaaDoor
open Go.RowKit Go.Maps
set_option linter.unusedVariables false
set_option linter.unusedSimpArgs false
/-- A row of nw words in block g: which numbers are there. -/
def BitM (W : World) (g nw : Nat) (m : Nat → Bool) : Prop :=
  ∃ cs : Array Value, W.heap[g]? = some (.cells cs 78 (0, 0)) ∧ cs.size = nw ∧ ∀ i, i < nw → ∃ x : Nat, cs[i]? = some (.int .u64 x) ∧ x < 18446744073709551616 ∧ ∀ j, j < 64 → x.testBit j = m (64 * i + j)
section
variable {W W' : World} {g nw : Nat} {m m' : Nat → Bool}
theorem BitM.lt (h : BitM W g nw m) : g < W.heap.size := by
  obtain ⟨cs, h1, -⟩ := h
  exact (Array.getElem?_eq_some_iff.1 h1).1
theorem BitM.soft (h : BitM W g nw m) (i : Nat) : W.frozen? ⟨g, i, none⟩ = false := by
  obtain ⟨cs, h1, -⟩ := h
  exact frozen_no h1 i
theorem BitM.at (h : BitM W g nw m) (hb : W'.heap[g]? = W.heap[g]?) : BitM W' g nw m := by
  obtain ⟨cs, h1, h2⟩ := h
  exact ⟨cs, hb.trans h1, h2⟩
theorem BitM.later (h : BitM W g nw m) (hb : Below W.heap.size W W') : BitM W' g nw m := h.at (hb.block g h.lt)
theorem BitM.word (h : BitM W g nw m) {i : Nat} (hi : i < nw) : ∃ x : Nat, W.cell? ⟨g, i, none⟩ = some (.int .u64 x) ∧ x < 18446744073709551616 ∧ ∀ j, j < 64 → x.testBit j = m (64 * i + j) := by
  obtain ⟨cs, h1, h2, h3⟩ := h
  obtain ⟨x, q1, q2⟩ := h3 i hi
  exact ⟨x, by rw [cells_at h1 i]; exact q1, q2⟩
theorem BitM.as (h : BitM W g nw m) (he : ∀ v, v < 64 * nw → m v = m' v) : BitM W g nw m' := by
  obtain ⟨cs, h1, h2, h3⟩ := h
  refine ⟨cs, h1, h2, fun i hi => ?_⟩
  obtain ⟨x, q1, q2, q3⟩ := h3 i hi
  exact ⟨x, q1, q2, fun j hj => by rw [q3 j hj]; exact he _ (by omega)⟩
theorem BitM.set (h : BitM W g nw m) {i x : Nat} (hi : i < nw) (hx : x < 18446744073709551616) (h1 : ∀ a, a ≠ i → ∀ j, j < 64 → m' (64 * a + j) = m (64 * a + j)) (h2 : ∀ j, j < 64 → x.testBit j = m' (64 * i + j)) :
    BitM (W.setCell ⟨g, i, none⟩ (.int .u64 x)) g nw m' := by
  obtain ⟨cs, q1, q2, q3⟩ := h
  refine ⟨_, set_here q1 i _, by simp [q2], fun a ha => ?_⟩
  rw [Array.getElem?_setIfInBounds]
  by_cases e : i = a
  · subst e
    exact ⟨x, by simp [q2, hi], hx, h2⟩
  · rw [if_neg e]
    obtain ⟨y, p1, p2, p3⟩ := q3 a ha
    exact ⟨y, p1, p2, fun j hj => by rw [p3 j hj, h1 a (fun q => e q.symm) j hj]⟩
theorem BitM.made {base : Nat} (h : W.ownsRow base 78 1 (.slice (some ⟨g, 0, none⟩) nw nw) nw (madeCells (Value.cells (.int .u64 0)) (nw * 1)).toList) : BitM W g nw (fun _ => false) := by
  rcases h.2 with ⟨e0, -⟩ | ⟨g', cap, cur, e0, -, h2, hn, hc, hs, ht⟩
  · simp at e0
  · injection e0 with e1 e2 e3
    injection e1 with e1
    injection e1 with e1
    subst e1 e3
    refine ⟨cur, h2, by omega, fun i hi => ⟨0, ?_, by decide, fun j _ => by simp⟩⟩
    have hl : cur.toList.take (nw * 1) = cur.toList := List.take_of_length_le (by simp; omega)
    rw [hl] at ht
    rw [← Array.getElem?_toList, ht]
    simp [madeCells, Value.cells, hi, Nat.mod_one]
/-- A block of other cells isn't a row. -/
theorem BitM.ne (h : BitM W g nw m) {k t : Nat} {vs : Array Value} {fr : Nat × Nat} (hk : W.heap[k]? = some (.cells vs t fr)) (ht : t ≠ 78) : k ≠ g := by
  rintro rfl
  obtain ⟨cs, h1, -⟩ := h
  rw [h1] at hk
  injection hk with hk
  injection hk with _ hk
  exact ht hk.symm
end
/-- Only block g is other. -/
structure Kept (g : Nat) (w w' : World) : Prop where
  size : w'.heap.size = w.heap.size
  below : Below g w w'
  block : ∀ k, k ≠ g → w'.heap[k]? = w.heap[k]?
theorem Kept.refl (g : Nat) (w : World) : Kept g w w := ⟨rfl, Below.refl _ _, fun _ _ => rfl⟩
theorem Kept.drew {g : Nat} {w W : World} (h : Kept g w W) : Kept g w W.drew := ⟨h.size, ⟨h.below.os, h.below.tape, h.below.output, h.below.size, h.below.block⟩, h.block⟩
theorem Kept.set {g : Nat} {w W : World} (h : Kept g w W) (i : Nat) (u : Value) : Kept g w (W.setCell ⟨g, i, none⟩ u) :=
  ⟨by rw [← h.size]; simp [World.setCell], h.below.setCell (Nat.le_refl _) _, fun k hk => (Below.heap_setCell _ _ _ _ hk).trans (h.block k hk)⟩
theorem put_word' (x s : Nat) (hx : x < 18446744073709551616) (hs : s < 64) : bits .or .u64 (x : Int) (IntKind.u64.wrap (2 ^ s)) = ((x ||| 2 ^ s : Nat) : Int) := by
  have := put_word x s hx hs
  rwa [Int.one_mul] at this
theorem drop_word' (x s : Nat) (hx : x < 18446744073709551616) (hs : s < 64) : bits .andNot .u64 (x : Int) (IntKind.u64.wrap (2 ^ s)) = ((x &&& (18446744073709551615 - 2 ^ s) : Nat) : Int) := by
  have := drop_word x s hx hs
  rwa [Int.one_mul] at this
theorem split64 (k : Nat) : k = 64 * (k / 64) + k % 64 := by omega
section
variable {m : Nat → Bool}
def unmark (m : Nat → Bool) (k : Nat) : Nat → Bool := fun v => m v && !(v == k)
end
set_option maxRecDepth 100000 in
set_option maxHeartbeats 4000000 in
theorem has_f (g nw k : Nat) (m : Nat → Bool) (w : World) (h : BitM w g nw m) (hk : k < 64 * nw) (hn : nw < 1000000) :
    Calls Tryd.prog 38 #[.slice (some ⟨g, 0, none⟩) nw nw, .int .i64 k] w fun e w' => e = .returned (.bool (m k)) ∧ w' = w := by
  obtain ⟨x, hc, hx, hb⟩ := h.word (i := k / 64) (by omega)
  have hm : x.testBit (k % 64) = m k := by rw [hb _ (by omega), ← split64]
  rw [← hm, ← has_word x (k % 64) hx]
  go_enter Tryd.func38, Tryd.ntmps38
  go_wp2
  go_ret
  exact ⟨rfl, rfl⟩
set_option maxRecDepth 100000 in
set_option maxHeartbeats 4000000 in
theorem put_f (g nw k : Nat) (m : Nat → Bool) (w : World) (h : BitM w g nw m) (hk : k < 64 * nw) (hn : nw < 1000000) :
    Calls Tryd.prog 25 #[.slice (some ⟨g, 0, none⟩) nw nw, .int .i64 k] w fun e w' => e = .returned (.tuple #[]) ∧ Hid (BitM w' g nw (mark m k)) ∧ Hid (Kept g w w') := by
  obtain ⟨x, hc, hx, hb⟩ := h.word (i := k / 64) (by omega)
  have HS := hid (put_word' x (k % 64) hx (by omega))
  have HB : Hid (BitM (w.setCell ⟨g, k / 64, none⟩ (.int .u64 ((x ||| 2 ^ (k % 64) : Nat) : Int))) g nw (mark m k)) := hid (by
    refine h.set (by omega) (put_lt x _ hx (by omega)) (fun a ha j hj => ?_) (fun j hj => ?_)
    · have : ((64 * a + j) == k) = false := by simp; omega
      simp [mark, this]
    · rw [put_bit, hb j hj]
      have : ((64 * (k / 64) + j) == k) = decide (k % 64 = j) := by
        by_cases e : k % 64 = j
        · rw [decide_eq_true e]; simp; omega
        · rw [decide_eq_false e]; simp; omega
      simp [mark, this, Bool.or_comm])
  have hf := h.soft (k / 64)
  clear hb
  obtain ⟨q, hq⟩ : ∃ q, k / 64 = q := ⟨_, rfl⟩
  obtain ⟨s, hs⟩ : ∃ s, k % 64 = s := ⟨_, rfl⟩
  have hw1 : IntKind.i64.wrap ((k : Int) / 64) = (q : Int) := by rw [IntKind.wrap_i64]; omega
  have hw2 : (k : Int).tmod 64 = (s : Int) := by rw [Int.tmod_eq_emod_of_nonneg (by omega)]; omega
  have q0 : (0 : Int) ≤ (q : Int) := by omega
  have q1 : (q : Int) < (nw : Int) := by omega
  have s0 : (0 : Int) ≤ (s : Int) := by omega
  have s1 : (s : Int) ≤ 64 := by omega
  rw [hq] at hc hf HB
  rw [hs] at HS HB
  have hcd : w.drew.cell? ⟨g, q, none⟩ = some (.int .u64 x) := hc
  have hfd : w.drew.frozen? ⟨g, q, none⟩ = false := hf
  clear hx hk hn hq hs h
  go_enter Tryd.func25, Tryd.ntmps25
  go_wp2
  go_region_law (fail)
  refine bodyPost_end (results_none rfl _ _ _) rfl ?_
  exact ⟨rfl, by rw [HS.out]; exact hid (HB.out.at rfl), hid (((Kept.refl g w).set _ _).drew)⟩
set_option maxRecDepth 100000 in
set_option maxHeartbeats 4000000 in
theorem drop_f (g nw k : Nat) (m : Nat → Bool) (w : World) (h : BitM w g nw m) (hk : k < 64 * nw) (hn : nw < 1000000) :
    Calls Tryd.prog 45 #[.slice (some ⟨g, 0, none⟩) nw nw, .int .i64 k] w fun e w' => e = .returned (.tuple #[]) ∧ Hid (BitM w' g nw (unmark m k)) ∧ Hid (Kept g w w') := by
  obtain ⟨x, hc, hx, hb⟩ := h.word (i := k / 64) (by omega)
  have HS := hid (drop_word' x (k % 64) hx (by omega))
  have HB : Hid (BitM (w.setCell ⟨g, k / 64, none⟩ (.int .u64 ((x &&& (18446744073709551615 - 2 ^ (k % 64)) : Nat) : Int))) g nw (unmark m k)) := hid (by
    refine h.set (by omega) (and_not_lt x _ hx) (fun a ha j hj => ?_) (fun j hj => ?_)
    · have : ((64 * a + j) == k) = false := by simp; omega
      simp [unmark, this]
    · rw [drop_bit _ _ _ (by omega) hj, hb j hj]
      have : ((64 * (k / 64) + j) == k) = decide (k % 64 = j) := by
        by_cases e : k % 64 = j
        · rw [decide_eq_true e]; simp; omega
        · rw [decide_eq_false e]; simp; omega
      simp [unmark, this])
  have hf := h.soft (k / 64)
  clear hb
  obtain ⟨q, hq⟩ : ∃ q, k / 64 = q := ⟨_, rfl⟩
  obtain ⟨s, hs⟩ : ∃ s, k % 64 = s := ⟨_, rfl⟩
  have hw1 : IntKind.i64.wrap ((k : Int) / 64) = (q : Int) := by rw [IntKind.wrap_i64]; omega
  have hw2 : (k : Int).tmod 64 = (s : Int) := by rw [Int.tmod_eq_emod_of_nonneg (by omega)]; omega
  have q0 : (0 : Int) ≤ (q : Int) := by omega
  have q1 : (q : Int) < (nw : Int) := by omega
  have s0 : (0 : Int) ≤ (s : Int) := by omega
  have s1 : (s : Int) ≤ 64 := by omega
  rw [hq] at hc hf HB
  rw [hs] at HS HB
  have hcd : w.drew.cell? ⟨g, q, none⟩ = some (.int .u64 x) := hc
  have hfd : w.drew.frozen? ⟨g, q, none⟩ = false := hf
  clear hx hk hn hq hs h
  go_enter Tryd.func45, Tryd.ntmps45
  go_wp2
  go_region_law (fail)
  refine bodyPost_end (results_none rfl _ _ _) rfl ?_
  exact ⟨rfl, by rw [HS.out]; exact hid (HB.out.at rfl), hid (((Kept.refl g w).set _ _).drew)⟩
/-- All of another one joined, in the first i words. -/
def joinN (m o : Nat → Bool) (i : Nat) : Nat → Bool := fun v => m v || (decide (v < 64 * i) && o v)
/-- Does c tell whether something below N is new? -/
def NewIs (c : Bool) (m o : Nat → Bool) (N : Nat) : Prop := c = true ↔ ∃ v, v < N ∧ o v = true ∧ m v = false
/-- What a join leaves. -/
def JoinP (g nw : Nat) (m o : Nat → Bool) (w : World) (e : Ending) (w' : World) : Prop :=
  ∃ c : Bool, e = .returned (.bool c) ∧ Hid (BitM w' g nw (fun v => m v || o v)) ∧ Hid (Kept g w w') ∧ Hid (NewIs c m o (64 * nw))
set_option maxRecDepth 100000 in
set_option maxHeartbeats 8000000 in
theorem join_f (g g2 nw : Nat) (m o : Nat → Bool) (w : World) (h : BitM w g nw m) (h2 : BitM w g2 nw o) (hg : g2 ≠ g) (hn : nw < 1000000) :
    Calls Tryd.prog 44 #[.slice (some ⟨g, 0, none⟩) nw nw, .slice (some ⟨g2, 0, none⟩) nw nw] w (JoinP g nw m o w) := by
  have H1 := hid (h.as (m' := joinN m o 0) (fun v _ => by simp [joinN]))
  have H2 := hid h2
  have HK := hid (Kept.refl g w)
  have HC : Hid (NewIs false m o (64 * 0)) := hid (Iff.intro (fun h => by cases h) (fun ⟨v, h, _⟩ => absurd h (by omega)))
  have HN := hid hn
  have HG := hid hg
  clear h h2 hn hg
  go_enter Tryd.func44, Tryd.ntmps44
  go_wp2
  go_loopg [5, 10] nw (fun gk v5 v10 wr => ∃ (i : Nat) (c : Bool), i ≤ nw ∧ gk = nw - i ∧ v5 = .bool c ∧ v10 = .int .i64 i ∧ Hid (BitM wr g nw (joinN m o i)) ∧ Hid (BitM wr g2 nw o) ∧ Hid (Kept g w wr) ∧ Hid (NewIs c m o (64 * i)))
  case atStart => exact ⟨0, false, by omega, by omega, rfl, rfl, H1, H2, HK, HC⟩
  case round =>
    clear H1 H2 HK HC
    obtain ⟨i, c, hi, rfl, rfl, rfl, H1, H2, HK, HC⟩ := hrel
    have hnw : nw < 1000000 := HN.out
    by_cases hin : i < nw
    · have hin' : (i : Int) < (nw : Int) := by omega
      have i0 : (0 : Int) ≤ (i : Int) := by omega
      obtain ⟨x, hc1, hx, hb⟩ := H1.out.word hin
      obtain ⟨y, hc2, hy, hb2⟩ := H2.out.word hin
      have hf := H1.out.soft i
      have HO : Hid (bits .or .u64 (x : Int) (y : Int) = ((x ||| y : Nat) : Int)) := hid (u64_or_nat x y hx hy)
      have HM := hid (more_word y x hy hx)
      have HX := hid hx
      have HB : Hid (BitM (wr.setCell ⟨g, i, none⟩ (.int .u64 ((x ||| y : Nat) : Int))) g nw (joinN m o (i + 1))) := hid (by
        refine H1.out.set hin (join_lt x y hx hy) (fun a ha j hj => ?_) (fun j hj => ?_)
        · unfold joinN
          by_cases e : a < i
          · rw [decide_eq_true (by omega : 64 * a + j < 64 * (i + 1)), decide_eq_true (by omega : 64 * a + j < 64 * i)]
          · rw [decide_eq_false (by omega : ¬ 64 * a + j < 64 * (i + 1)), decide_eq_false (by omega : ¬ 64 * a + j < 64 * i)]
        · rw [Nat.testBit_or, hb j hj, hb2 j hj]
          unfold joinN
          rw [decide_eq_true (by omega : 64 * i + j < 64 * (i + 1)), decide_eq_false (by omega : ¬ 64 * i + j < 64 * i)]
          simp)
      have HB2 := hid (H2.out.at (W' := wr.setCell ⟨g, i, none⟩ (.int .u64 ((x ||| y : Nat) : Int))) (Below.heap_setCell _ _ _ _ HG.out))
      have HKK := hid (HK.out.set i (.int .u64 ((x ||| y : Nat) : Int)))
      have HBB := hid hb
      have HBB2 := hid hb2
      have step : Hid (∀ c2 : Bool, ((c2 = true) ↔ (c = true ∨ ∃ j, j < 64 ∧ y.testBit j = true ∧ x.testBit j = false)) → NewIs c2 m o (64 * (i + 1))) := hid (by
        intro c2 h
        have hc := HC.out
        unfold NewIs at hc ⊢
        rw [h, hc]
        constructor
        · rintro (⟨v, h1, h2⟩ | ⟨j, h1, h2, h3⟩)
          · exact ⟨v, by omega, h2⟩
          · rw [HBB2.out j h1] at h2
            rw [HBB.out j h1] at h3
            unfold joinN at h3
            simp only [Bool.or_eq_false_iff] at h3
            exact ⟨64 * i + j, by omega, h2, h3.1⟩
        · rintro ⟨v, h1, h2, h3⟩
          by_cases hv : v < 64 * i
          · exact .inl ⟨v, hv, h2, h3⟩
          · refine .inr ⟨v - 64 * i, by omega, ?_, ?_⟩
            · rw [HBB2.out _ (by omega), show 64 * i + (v - 64 * i) = v by omega]; exact h2
            · rw [HBB.out _ (by omega), show 64 * i + (v - 64 * i) = v by omega]
              unfold joinN
              rw [decide_eq_false hv, h3]; rfl)
      clear hb hb2 hx hy H1 H2
      cases c
      · obtain ⟨c2, hc2'⟩ : ∃ c2, (bits .andNot .u64 (y : Int) (x : Int) != 0) = c2 := ⟨_, rfl⟩
        have HC2 := hid (step.out c2 (by rw [← hc2', HM.out]; simp))
        go_wp2
        rw [HO.out]
        go_roundg (nw - (i + 1))
        case measure => omega
        case rel => exact ⟨i + 1, c2, by omega, rfl, rfl, rfl, HB, HB2, HKK, HC2⟩
      · have HC2 := hid (step.out true (by simp))
        go_wp2
        rw [HO.out]
        go_roundg (nw - (i + 1))
        case measure => omega
        case rel => exact ⟨i + 1, true, by omega, rfl, rfl, rfl, HB, HB2, HKK, HC2⟩
    · have hin' : ¬ (i : Int) < (nw : Int) := by omega
      obtain rfl : i = nw := by omega
      go_wp2
      go_ret
      exact ⟨c, rfl, hid (H1.out.as (fun v hv => by simp [joinN, hv])), HK, HC⟩
end Go.Proofs.YtlbcinanpnjjjaaDoor
