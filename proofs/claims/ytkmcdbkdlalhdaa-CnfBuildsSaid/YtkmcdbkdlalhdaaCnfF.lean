/- Closures on literals: are all literals, and a clause without one. Conditions: at most 200000 numbers. -/
import Derived.Test.YtkmcdbkdlalhdaaCnfE
namespace Go.Proofs.Ytkmcdbkdlalhdaa
open Go.RowKit Go.Maps Go.Lib Go.Sort
set_option linter.unusedVariables false
set_option linter.unusedSimpArgs false
theorem lits1_i (N x : Int) (B : Nat) (W : World) (h0 : 0 ≤ N) (h1 : N ≤ 1000000) (hc : W.cell? ⟨B, 0, none⟩ = some (.int .i64 N)) :
    Calls Try.prog 46 #[.int .i64 x, .pointer (some ⟨B, 0, none⟩)] W fun e w' => e = .returned (.bool (!lit N x)) ∧ w' = W := by
  obtain ⟨r, HR⟩ : ∃ r, Hid (lit N x = r) := ⟨_, hid rfl⟩
  have hL : Calls Try.prog 32 #[.int .i64 x, .int .i64 N] W fun e w' => e = .returned (.bool r) ∧ w' = W := by rw [← HR.out]; exact literal_i x N W h0 h1
  rw [HR.out]
  clear h0 h1
  cases r
  all_goals
    go_enter Try.func46, Try.ntmps46
    go_wp2_with (go_at_call 32; refine hL.mono ?_; rintro e w' ⟨rfl, rfl⟩)
    go_ret
    exact ⟨rfl, rfl⟩
theorem lits1_at (N : Int) (B : Nat) (w : World) (h0 : 0 ≤ N) (h1 : N ≤ 1000000) (hB : B < w.heap.size) (hc : w.cell? ⟨B, 0, none⟩ = some (.int .i64 N)) :
    PredAt Try.prog 46 #[.pointer (some ⟨B, 0, none⟩)] (Value.int .i64) (fun x => !lit N x) w := fun W x hb => by
  unfold FnGives
  exact (lits1_i N x B W h0 h1 ((hb.cell (p := ⟨B, 0, none⟩) hB).trans hc)).mono fun e w' ⟨he, hw⟩ => ⟨he, 0, hw⟩
theorem get_bang {xs : List Int} {j : Nat} (hj : j < xs.length) : xs[j]! = xs[j] := getElem!_pos xs j hj
theorem any_not (N : Int) (xs : List Int) : (xs.any fun x => !lit N x) = !xs.all (lit N) := by
  induction xs with
  | nil => rfl
  | cons x r ih => simp only [List.any_cons, List.all_cons, ih, Bool.not_and]
theorem contf_i (N : Int) (xs : List Int) (A : Option Addr) (n cap B G : Nat) (w : World) (h0 : 0 ≤ N) (h1 : N ≤ 1000000) (hG : G < w.heap.size) (hc : w.cell? ⟨G, 0, none⟩ = some (.int .i64 N)) (h : Ints w B A n xs) (hl : n ≤ 200000) :
    Calls Try.prog 45 #[.slice A n cap, .func (.func 46) #[] #[.pointer (some ⟨G, 0, none⟩)]] w fun e w' => e = .returned (.bool (!xs.all (lit N))) ∧ Hid (Below w.heap.size w w') := by
  have hn := h.len
  have eg : ∀ args w, (callFunc 46 args).run Try.prog w = .ok (.enter 46 args) w := enters_of Try.func46 (by kernel_rfl) rfl
  rcases h.2 with hz | ⟨b, off, rfl, hb, hcc⟩
  · subst hz
    obtain rfl : xs = [] := List.eq_nil_of_length_eq_zero hn
    exact (Try.slices_ContainsFunc_empty (α := Int) A cap _ w).mono fun e w' ⟨he, hw⟩ => ⟨he, hid (by subst hw; exact Below.refl _ _)⟩
  · have := Try.slices_ContainsFunc (Value.int .i64) (fun x => !lit N x) 46 #[.pointer (some ⟨G, 0, none⟩)] eg b off n cap xs w (lits1_at N G w h0 h1 hG hc) (by omega) (by omega)
      (fun j hj => by
        rw [get_bang hj]
        exact hcc j _ (by rw [List.getElem?_map, List.getElem?_eq_getElem hj]; rfl))
    rw [List.take_of_length_le (by omega), any_not] at this
    exact this.mono fun e w' ⟨he, q, hw⟩ => ⟨he, hid (by subst hw; exact below_drewN (Below.refl _ _) q)⟩
theorem literals_i (N : Int) (xs : List Int) (A : Option Addr) (n cap B : Nat) (w : World) (h0 : 0 ≤ N) (h1 : N ≤ 1000000) (hB : B ≤ w.heap.size) (h : Ints w B A n xs) (hl : n ≤ 200000) :
    Calls Try.prog 29 #[.slice A n cap, .int .i64 N] w fun e w' => e = .returned (.bool (xs.all (lit N))) ∧ Hid (Below w.heap.size w w') := by
  have hb1 := below1 w (.cells #[.int .i64 N] 3)
  have hcon := contf_i N xs A n cap B w.heap.size (w.alloc (.cells #[.int .i64 N] 3)) h0 h1 (by simp) (cells_at (heap_alloc_new w _) 0) (h.below (hb1.mono hB)) hl
  have HB := hid hb1
  obtain ⟨r, HR⟩ : ∃ r, Hid (xs.all (lit N) = r) := ⟨_, hid rfl⟩
  rw [HR.out] at hcon ⊢
  have HC := hid hcon
  clear hcon hb1 h
  cases r
  all_goals
    go_enter Try.func29, Try.ntmps29
    go_wp2_with (go_at_call 45; refine HC.out.mono ?_; rintro e w' ⟨rfl, HB2⟩)
    go_ret
    exact ⟨rfl, hid (after HB.out HB2.out HB.out.size)⟩
theorem with1_i (v x : Int) (B : Nat) (W : World) (hc : W.cell? ⟨B, 0, none⟩ = some (.int .i64 v)) :
    Calls Try.prog 49 #[.int .i64 x, .pointer (some ⟨B, 0, none⟩)] W fun e w' => e = .returned (.bool (x == v)) ∧ w' = W := by
  obtain ⟨r, hr⟩ : ∃ r, (x == v) = r := ⟨_, rfl⟩
  rw [hr]
  cases r
  all_goals
    go_enter Try.func49, Try.ntmps49
    go_wp2
    go_ret
    exact ⟨rfl, rfl⟩
theorem with1_at (v : Int) (B : Nat) (w : World) (hB : B < w.heap.size) (hc : w.cell? ⟨B, 0, none⟩ = some (.int .i64 v)) :
    PredAt Try.prog 49 #[.pointer (some ⟨B, 0, none⟩)] (Value.int .i64) (fun x => x == v) w := fun W x hb => by
  unfold FnGives
  exact (with1_i v x B W ((hb.cell (p := ⟨B, 0, none⟩) hB).trans hc)).mono fun e w' ⟨he, hw⟩ => ⟨he, 0, hw⟩
theorem with1_over (v : Int) (B blk off size : Nat) (w : World) (hB : B < w.heap.size) (hne : B ≠ blk) (hc : w.cell? ⟨B, 0, none⟩ = some (.int .i64 v)) :
    PredOver Try.prog 49 #[.pointer (some ⟨B, 0, none⟩)] (Value.int .i64) (fun x => x == v) blk off size w := fun n os dk x _ => by
  unfold FnGives
  refine (with1_i v x B _ ?_).mono fun e w' ⟨he, hw⟩ => ⟨he, 0, hw⟩
  unfold sortWorld
  rw [cell?_grow _ _ _ (by show B < (putRow _ _ _ _ _).heap.size; rw [Go.Proofs.size_putRow]; exact hB), cell?_putRow_other _ _ blk off _ _ (Or.inl hne)]
  exact hc
/-- A clause without a literal. -/
def wo (xs : List Int) (v : Int) : List Int := xs.filter fun x => !(x == v)
theorem wo_len (xs : List Int) (v : Int) : (wo xs v).length ≤ xs.length := List.length_filter_le _ _
theorem del_0 (A : Option Addr) (cap : Nat) (fv : Value) (w : World) : Calls Try.prog 48 #[.slice A 0 cap, fv] w fun e w' => e = .returned (.slice A 0 cap) ∧ w' = w := by
  go_enter Try.func48, Try.ntmps48
  go_wp2_with (go_at_call 54; refine (Try.slices_IndexFunc_empty (α := Int) A cap fv _).mono ?_; rintro e w' ⟨rfl, rfl⟩)
  go_ret
  exact ⟨rfl, rfl⟩
theorem del_i (v : Int) (xs : List Int) (A : Option Addr) (n c base G : Nat) (w : World) (hG : G < base) (hGw : G < w.heap.size) (hc : w.cell? ⟨G, 0, none⟩ = some (.int .i64 v)) (h : Own w base A n c xs) (hl : n ≤ 200000) :
    Calls Try.prog 48 #[.slice A n c, .func (.func 49) #[] #[.pointer (some ⟨G, 0, none⟩)]] w fun e w' => e = .returned (.slice A (wo xs v).length c) ∧ Hid (Own w' base A (wo xs v).length c (wo xs v)) ∧ Hid (Below base w w') := by
  have hn := h.len
  have eg : ∀ args w, (callFunc 49 args).run Try.prog w = .ok (.enter 49 args) w := enters_of Try.func49 (by kernel_rfl) rfl
  rcases Nat.eq_zero_or_pos n with h0 | h0
  · subst h0
    obtain rfl : xs = [] := List.eq_nil_of_length_eq_zero hn
    exact (del_0 A c _ w).mono fun e w' ⟨he, hw⟩ => ⟨he, hid (by subst hw; exact h), hid (by subst hw; exact Below.refl _ _)⟩
  · obtain ⟨g, cur, rfl, hbg, hg, hblk, h1, h2, h3⟩ := h.form h0
    obtain ⟨g', cap', e1, -, -, -, -, -, hH⟩ := holds_of_ownsRow (α := Int) (enc := Value.int .i64) (zs := xs) h (by simp)
    injection e1 with e1
    injection e1 with e1
    injection e1 with e1
    subst e1
    have hsz : xs.toArray.size = n := by simpa using hn
    have hs := Try.slices_DeleteFunc (Value.int .i64) (fun _ => rfl) (fun x => x == v) 49 #[.pointer (some ⟨G, 0, none⟩)] eg 0 Try.zeroValue3 g 0 c xs.toArray w
      (with1_at v G w hGw hc) (with1_over v G g 0 _ w hGw (by omega) hc) hH (by rw [hsz]; omega) (by rw [hsz]; omega)
    rw [hsz] at hs
    have hle := wo_len xs v
    refine hs.mono ?_
    rintro e w' ⟨he, m, hw⟩
    subst hw
    refine ⟨he, hid ?_, hid (below_putRow (Below.refl base w) hbg)⟩
    have := ownsRow_putRow (q := m) (k := (wo xs v).length) (ys := wo xs v ++ List.replicate (n - (wo xs v).length) 0) h (by simp; omega) (by omega)
    rw [List.take_left] at this
    exact this
theorem without_i (v : Int) (xs : List Int) (A : Option Addr) (n cap B : Nat) (w : World) (hB : B ≤ w.heap.size) (h : Ints w B A n xs) (hl : n ≤ 200000) :
    Calls Try.prog 35 #[.slice A n cap, .int .i64 v] w fun e w' => ∃ A' c', e = .returned (.slice A' (wo xs v).length c') ∧ Hid (Own w' w.heap.size A' (wo xs v).length c' (wo xs v)) ∧ Hid (Below w.heap.size w w') := by
  have hb1 := below1 w (.cells #[.int .i64 v] 3)
  have hcl := clone_i xs A n cap B (w.alloc (.cells #[.int .i64 v] 3)) (h.below (hb1.mono hB)) hl
  have hdel : ∀ A c w1, Own w1 (w.alloc (.cells #[.int .i64 v] 3)).heap.size A n c xs → Below (w.alloc (.cells #[.int .i64 v] 3)).heap.size (w.alloc (.cells #[.int .i64 v] 3)) w1 → Calls Try.prog 48 #[.slice A n c, .func (.func 49) #[] #[.pointer (some ⟨w.heap.size, 0, none⟩)]] w1 fun e w' => e = .returned (.slice A (wo xs v).length c) ∧ Hid (Own w' (w.alloc (.cells #[.int .i64 v] 3)).heap.size A (wo xs v).length c (wo xs v)) ∧ Hid (Below (w.alloc (.cells #[.int .i64 v] 3)).heap.size w1 w') :=
    fun A c w1 ho hbe => del_i v xs A n c _ w.heap.size w1 (by simp) (Nat.lt_of_lt_of_le (by simp) hbe.size) ((hbe.cell (p := ⟨w.heap.size, 0, none⟩) (by simp)).trans (cells_at (heap_alloc_new w _) 0)) ho hl
  obtain ⟨ys, HY⟩ : ∃ ys, Hid (wo xs v = ys) := ⟨_, hid rfl⟩
  rw [HY.out] at hdel ⊢
  obtain ⟨m, HM⟩ : ∃ m, Hid (ys.length = m) := ⟨_, hid rfl⟩
  rw [HM.out] at hdel ⊢
  have HC := hid hcl
  have HD := hid hdel
  have HB := hid hb1
  clear hcl hdel hb1 h
  go_enter Try.func35, Try.ntmps35
  go_wp2_with (first
    | (go_at_call 37; refine HC.out.mono ?_; rintro e w1 ⟨A1, c1, rfl, HO1, HB1⟩)
    | (go_at_call 48; refine (HD.out _ _ _ HO1.out HB1.out).mono ?_; rintro e w2 ⟨rfl, HO2, HB2⟩))
  go_ret
  exact ⟨_, _, rfl, hid (HO2.out.low HB.out.size), hid (HB.out.trans ((HB1.out.trans HB2.out).mono HB.out.size))⟩
theorem contains_i (v : Int) (xs : List Int) (A : Option Addr) (n cap B : Nat) (w : World) (h : Ints w B A n xs) (hl : n ≤ 200000) :
    Calls Try.prog 34 #[.slice A n cap, .int .i64 v] w fun e w' => e = .returned (.bool (xs.contains v)) ∧ w' = w := by
  have hn := h.len
  rcases h.2 with hz | ⟨b, off, rfl, hb, hcc⟩
  · subst hz
    obtain rfl : xs = [] := List.eq_nil_of_length_eq_zero hn
    exact Try.slices_Contains_int_empty A cap v w
  · have := Try.slices_Contains_int b off n cap xs v w (by omega) (by omega) (fun j hj => by
      rw [List.getD_eq_getElem?_getD, List.getElem?_eq_getElem hj]
      exact hcc j _ (by rw [List.getElem?_map, List.getElem?_eq_getElem hj]; rfl))
    rw [List.take_of_length_le (by omega)] at this
    exact this
end Go.Proofs.Ytkmcdbkdlalhdaa
