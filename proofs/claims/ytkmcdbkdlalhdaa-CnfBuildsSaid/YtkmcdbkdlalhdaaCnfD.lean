/- Slices of the call's own: copied, sorted, each number once. Conditions: at most 200000 numbers. -/
import Derived.Test.YtkmcdbkdlalhdaaCnfC
import Derived.Lib.OwnBridge
import Derived.Sort.OwnSortedInts
import Derived.Shelf.GgSortFunc.SW
namespace Go.Proofs.Ytkmcdbkdlalhdaa
open Go.RowKit Go.Maps Go.Lib Go.Sort
set_option linter.unusedVariables false
set_option linter.unusedSimpArgs false
/-- A slice of the call's own, from block base on, that holds xs. -/
def Own (w : World) (base : Nat) (A : Option Addr) (n c : Nat) (xs : List Int) : Prop := w.ownsRow base 3 1 (.slice A n c) n (xs.map (Value.int .i64))
theorem Own.len {w : World} {base n c : Nat} {A : Option Addr} {xs : List Int} (h : Own w base A n c xs) : xs.length = n := by have := h.1; simp at this; omega
theorem Own.ints {w : World} {base n c : Nat} {A : Option Addr} {xs : List Int} (h : Own w base A n c xs) : Ints w w.heap.size A n xs := Ints.own h
theorem Own.below {w w' : World} {base n c : Nat} {A : Option Addr} {xs : List Int} (h : Own w base A n c xs) (hb : Below w.heap.size w w') : Own w' base A n c xs := by
  refine ⟨h.1, h.2.imp id ?_⟩
  rintro ⟨g, cap, cur, e, h1, h2, h3⟩
  exact ⟨g, cap, cur, e, h1, old_block hb (Array.getElem?_eq_some_iff.1 h2).1 h2, h3⟩
theorem Own.low {w : World} {base base' n c : Nat} {A : Option Addr} {xs : List Int} (h : Own w base A n c xs) (hb : base' ≤ base) : Own w base' A n c xs := by
  refine ⟨h.1, h.2.imp id ?_⟩
  rintro ⟨g, cap, cur, e, h1, h2⟩
  exact ⟨g, cap, cur, e, by omega, h2⟩
theorem Own.cap {w : World} {base n c : Nat} {A : Option Addr} {xs : List Int} (h : Own w base A n c xs) : n ≤ c ∧ c ≤ 9223372036854775807 := by
  rcases h.2 with ⟨e, h0⟩ | ⟨g, cap, cur, e, h1, h2, h3, h4, -⟩
  · injection e; omega
  · injection e; subst_vars; unfold maxLen at h4; omega
theorem Own.isInts {w : World} {base n c : Nat} {A : Option Addr} {xs : List Int} (h : Own w base A n c xs) : IsInts w w.heap.size (.slice A n c) xs := by
  have hl := h.len
  subst hl
  exact ⟨A, c, rfl, h.cap.1, h.cap.2, h.ints⟩
theorem Own.form {w : World} {base n c : Nat} {A : Option Addr} {xs : List Int} (h : Own w base A n c xs) (hn : 0 < n) : ∃ g cur, A = some ⟨g, 0, none⟩ ∧ base ≤ g ∧ g < w.heap.size ∧ w.heap[g]? = some (.cells cur 3 (0, 0)) ∧ n ≤ c ∧ c ≤ maxLen ∧ cur.size = c * 1 := by
  rcases h.2 with ⟨e, h0⟩ | ⟨g, cap, cur, e, h1, h2, h3, h4, h5, -⟩
  · omega
  · injection e; subst_vars; exact ⟨g, cur, rfl, h1, (Array.getElem?_eq_some_iff.1 h2).1, h2, h3, h4, h5⟩
theorem own_form {w : World} {base n : Nat} {v : Value} {xs : List Value} (h : w.ownsRow base 3 1 v n xs) : ∃ A c, v = .slice A n c := by
  rcases h.2 with ⟨e, h0⟩ | ⟨g, cap, cur, e, -⟩
  · exact ⟨_, _, by rw [e, h0]⟩
  · exact ⟨_, _, e⟩
theorem clone_i (xs : List Int) (A : Option Addr) (n cap B : Nat) (w : World) (h : Ints w B A n xs) (hl : n ≤ 200000) :
    Calls Try.prog 37 #[.slice A n cap] w fun e w' => ∃ A' c', e = .returned (.slice A' n c') ∧ Hid (Own w' w.heap.size A' n c' xs) ∧ Hid (Below w.heap.size w w') := by
  have hn := h.len
  rcases h.2 with h0 | ⟨b, off, rfl, hb, hc⟩
  · subst h0
    obtain rfl : xs = [] := List.eq_nil_of_length_eq_zero hn
    cases A with
    | none => exact (Try.slices_Clone_int_nil 0 cap w).mono fun e w' ⟨he, hw⟩ => ⟨none, 0, he, hid ⟨rfl, .inl ⟨rfl, rfl⟩⟩, hid (by rw [hw]; exact Below.refl _ _)⟩
    | some a =>
      refine (Try.slices_Clone_int_zero a cap w).mono ?_
      rintro e w' ⟨v', he, ho, hne, hbel⟩
      obtain ⟨A', c', rfl⟩ := own_form ho
      exact ⟨A', c', he, hid ho, hid hbel⟩
  · refine (Try.slices_Clone_int b off n cap xs w (by omega) (by omega) ?_).mono ?_
    · intro j hj
      have := hc j (.int .i64 xs[j]) (by rw [List.getElem?_map, List.getElem?_eq_getElem hj]; rfl)
      rw [this, List.getD_eq_getElem?_getD, List.getElem?_eq_getElem hj]; rfl
    · rintro e w' ⟨v', he, ho, hne, hbel⟩
      obtain ⟨A', c', rfl⟩ := own_form ho
      rw [List.take_of_length_le (by omega)] at ho
      exact ⟨A', c', he, hid ho, hid hbel⟩
theorem grow1 (W : World) (o : Obj) : W.alloc o = grow (W.drewN 0) #[o] := by rw [alloc_eq_grow]; rfl
set_option maxHeartbeats 1000000 in
theorem norm1_i (x y : Int) (W : World) : Calls Try.prog 39 #[.int .i64 x, .int .i64 y] W fun e w' => e = .returned (.int .i64 (cfN x y)) ∧ ∃ q os', w' = grow (W.drewN q) os' := by
  have HF : Hid (cfN x y = or2 (compareInt (sz x) (sz y)) (compareInt y x)) := hid rfl
  obtain ⟨r, HR⟩ : ∃ r, Hid (cfN x y = r) := ⟨_, hid rfl⟩
  rw [HR.out]
  obtain ⟨a, HA⟩ : ∃ a, Hid (compareInt (sz x) (sz y) = a) := ⟨_, hid rfl⟩
  obtain ⟨b, HB⟩ : ∃ b, Hid (compareInt y x = b) := ⟨_, hid rfl⟩
  have hor : ∀ c1, Calls Try.prog 40 #[.slice (some ⟨W.heap.size, 0, none⟩) 2 c1] (W.alloc (.cells #[.int .i64 a, .int .i64 b] 3)) fun e w' => e = .returned (.int .i64 r) ∧ w' = (W.alloc (.cells #[.int .i64 a, .int .i64 b] 3)) := by
    intro c1
    have := or_i a b W.heap.size c1 (W.alloc (.cells #[.int .i64 a, .int .i64 b] 3)) (cells_at (heap_alloc_new W _))
    rw [← HR.out, HF.out, HA.out, HB.out]
    exact this
  have h41 : ∀ w, Calls Try.prog 41 #[.int .u64 (sz x), .int .u64 (sz y)] w fun e w' => e = .returned (.int .i64 a) ∧ w' = w := by rw [← HA.out]; exact fun w => cmp64_i _ _ w
  have h43 : ∀ w, Calls Try.prog 43 #[.int .i64 y, .int .i64 x] w fun e w' => e = .returned (.int .i64 b) ∧ w' = w := by rw [← HB.out]; exact fun w => Try.cmp_Compare_int _ _ w
  go_enter Try.func39, Try.ntmps39
  go_wp2_with (first
    | (go_at_call 42; refine (size_i _ _).mono ?_; rintro e w' ⟨rfl, rfl⟩)
    | (go_at_call 41; refine (h41 _).mono ?_; rintro e w' ⟨rfl, rfl⟩)
    | (go_at_call 43; refine (h43 _).mono ?_; rintro e w' ⟨rfl, rfl⟩)
    | (go_at_call 40; refine (hor _).mono ?_; rintro e w' ⟨rfl, rfl⟩))
  go_ret
  exact ⟨rfl, 0, _, grow1 _ _⟩
theorem norm1_lays (blk off size : Nat) (w : World) : CmpLays1 Try.prog 39 #[] (Value.int .i64) cfN blk off size w := fun _ _ _ _ x y => norm1_i x y _
theorem sort_i (xs : List Int) (A : Option Addr) (n c base : Nat) (w : World) (h : Own w base A n c xs) (hl : n ≤ 200000) :
    Calls Try.prog 38 #[.slice A n c, .func (.func 39) #[] #[]] w fun e w' => e = .returned (.tuple #[]) ∧ Hid (Own w' base A n c (srt xs)) ∧ Hid (Below base w w') := by
  have hn := h.len
  have eg : ∀ args w, (callFunc 39 args).run Try.prog w = .ok (.enter 39 args) w := enters_of Try.func39 (by kernel_rfl) rfl
  rcases Nat.eq_zero_or_pos n with h0 | h0
  · subst h0
    obtain rfl : xs = [] := List.eq_nil_of_length_eq_zero hn
    have h' : Own w base A 0 c (srt []) := by rw [show srt [] = [] by simp [srt]]; exact h
    exact (Try.slices_SortFunc_none (α := Int) A c (.func (.func 39) #[] #[]) w).mono fun e w' ⟨he, hw⟩ => ⟨he, hid (by subst hw; exact h'), hid (by subst hw; exact Below.refl _ _)⟩
  · obtain ⟨g, cur, rfl, hbg, hg, hblk, h1, h2, h3⟩ := h.form h0
    obtain ⟨g', cap', e1, -, -, -, -, -, hH⟩ := holds_of_ownsRow (α := Int) (enc := Value.int .i64) (zs := xs) h (by simp)
    injection e1 with e1
    injection e1 with e1
    injection e1 with e1
    subst e1
    have hsz : xs.toArray.size = n := by simpa using hn
    have hs := Try.slices_SortFunc_total (Value.int .i64) (fun _ => rfl) cfN swoN 39 #[] g 0 c xs.toArray w eg (norm1_lays _ _ _ _) hH hg (by rw [hsz]; omega) totN
    rw [hsz] at hs
    refine hs.mono ?_
    rintro e w' ⟨he, m, os, hw⟩
    have hw2 : w' = grow (putRow (Value.int .i64) (Sort.ahead w m) g 0 (srt xs).toArray) os := hw
    subst hw2
    refine ⟨he, hid ?_, hid ?_⟩
    · have := ownsRow_sortedI (w := w) (base := base) (g := g) (cap := c) (n := m) (e := 3) (os := os) (cur := cur) (ss := xs) (ts := srt xs) (srt_len xs) hbg hblk (by omega) h2 h3
      rw [hn] at this
      exact this
    · have hb1 := below_putRow (enc := Value.int .i64) (q := m) (d := (srt xs).toArray) (Below.refl base w) hbg
      refine hb1.trans ⟨rfl, rfl, rfl, by rw [size_grow]; omega, fun k hk => ?_⟩
      exact heap_grow_old _ _ (by rw [Go.Proofs.size_putRow]; show k < w.heap.size; omega)
theorem compact_i (xs : List Int) (A : Option Addr) (n c base : Nat) (w : World) (h : Own w base A n c xs) (hl : n ≤ 200000) :
    Calls Try.prog 44 #[.slice A n c] w fun e w' => e = .returned (.slice A (Lib.compact xs).length c) ∧ Hid (Own w' base A (Lib.compact xs).length c (Lib.compact xs)) ∧ Hid (Below base w w') := by
  have hn := h.len
  rcases Nat.eq_zero_or_pos n with h0 | h0
  · subst h0
    obtain rfl : xs = [] := List.eq_nil_of_length_eq_zero hn
    exact (Try.slices_Compact_int_empty A c w).mono fun e w' ⟨he, hw⟩ => ⟨he, hid (by subst hw; exact h), hid (by subst hw; exact Below.refl _ _)⟩
  · obtain ⟨g, cur, rfl, hbg, hg, hblk, h1, h2, h3⟩ := h.form h0
    obtain ⟨g', cap', e1, -, -, -, -, -, hH⟩ := holds_of_ownsRow (α := Int) (enc := Value.int .i64) (zs := xs) h (by simp)
    injection e1 with e1
    injection e1 with e1
    injection e1 with e1
    subst e1
    have hs := Try.slices_Compact_int g 0 c xs w hH (by omega) (by omega)
    rw [hn] at hs
    have hle := compact_len xs
    refine hs.mono ?_
    rintro e w' ⟨he, m, hw⟩
    subst hw
    refine ⟨he, hid ?_, hid (below_putRow (Below.refl base w) hbg)⟩
    have := ownsRow_putRow (q := m) (k := (Lib.compact xs).length) (ys := Lib.compact xs ++ List.replicate (n - (Lib.compact xs).length) 0) h (by simp; omega) (by omega)
    rw [List.take_left] at this
    exact this
end Go.Proofs.Ytkmcdbkdlalhdaa
