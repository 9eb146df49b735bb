/- What a judge asks of variables, places, signs; and the reference. No conditions. -/
import Derived.Test.YtfhdiahjfnphkaaCR10
namespace Go.Proofs.Ytfhdiahjfnphkaa
open Go.RowKit Go.Maps
set_option linter.unusedVariables false
set_option linter.unusedSimpArgs false
/-- Is it one of the first n? -/
def inN (n : Nat) (v : Int) : Bool := decide (0 ≤ v) && decide (v < n)
theorem inN_f1 {n : Nat} {v : Int} (h : v < 0) : inN n v = false := by simp [inN]; omega
theorem inN_f2 {n : Nat} {v : Int} (h : (n : Int) ≤ v) : inN n v = false := by simp [inN]; omega
theorem inN_t {n : Nat} {v : Int} (h1 : ¬ v < 0) (h2 : ¬ (n : Int) ≤ v) : inN n v = true := by simp [inN]; omega
theorem all_no {xs : List Int} {n k : Nat} {x : Int} (h : xs[k]? = some x) (hx : inN n x = false) : xs.all (inN n) = false := by
  rw [List.all_eq_false]
  exact ⟨x, List.mem_of_getElem? h, by simp [hx]⟩
theorem all_yes {xs : List Int} {n : Nat} (h : ∀ k x, k < xs.length → xs[k]? = some x → inN n x = true) : xs.all (inN n) = true := by
  rw [List.all_eq_true]
  intro x hx
  obtain ⟨k, hk⟩ := List.getElem?_of_mem hx
  exact h k x (List.getElem?_eq_some_iff.1 hk).1 hk
theorem mist_i (b : Bool) (w : World) : Calls Try.prog 75 #[.bool b] w fun e w' => e = .returned (.int .i64 (if b then 7 else 0)) ∧ w' = w := by
  cases b
  · go_enter Try.func75, Try.ntmps75
    go_wp2
    go_ret
    exact ⟨rfl, rfl⟩
  · go_enter Try.func75, Try.ntmps75
    go_wp2
    go_ret
    exact ⟨rfl, rfl⟩
theorem one_i (b : Bool) (f : Int) (w : World) : Calls Try.prog 40 #[.bool b, .int .i64 f] w fun e w' => e = .returned (.int .i64 (if b then f else 0)) ∧ w' = w := by
  cases b
  · go_enter Try.func40, Try.ntmps40
    go_wp2
    go_ret
    exact ⟨rfl, rfl⟩
  · go_enter Try.func40, Try.ntmps40
    go_wp2
    go_ret
    exact ⟨rfl, rfl⟩
theorem none_i (J : Value) (x : InD) (ao mo : Option Addr) (ac mc : Nat) (w : World) : Calls Try.prog 71 #[J, .agg (InV x ao ac mo mc)] w fun e w' => e = .returned (.int .i64 3) ∧ Hid (Below w.heap.size w w') := by
  go_enter Try.func71, Try.ntmps71
  go_wp2
  go_ret
  exact ⟨rfl, hid (below1 _ _)⟩
theorem there_g (xs : List Int) (A : Option Addr) (c J nv vc : Nat) (va : Option Addr) (r : Bool) (w : World) (h1 : IntsM w A xs) (hJ : w.cell? ⟨J, 5, none⟩ = some (.slice va nv vc)) (hr : xs.all (inN nv) = r) :
    Calls Try.prog 74 #[.pointer (some ⟨J, 0, none⟩), .slice A xs.length c] w fun e w' => e = .returned (.bool r) ∧ w' = w := by
  have hl := h1.1
  obtain ⟨n, hn⟩ : ∃ n : Nat, xs.length = n := ⟨_, rfl⟩
  rw [hn]
  rw [hn] at hl
  have H1 := hid h1
  have HN := hid hn
  have HR := hid hr
  clear h1 hn hr
  go_enter Try.func74, Try.ntmps74
  go_wp2
  go_loopg [9] n (fun gk v9 wr => ∃ k : Nat, k ≤ n ∧ gk = n - k ∧ v9 = .int .i64 k ∧ wr = w ∧ Hid (∀ i x, i < k → xs[i]? = some x → inN nv x = true))
  case atStart => exact ⟨0, by omega, rfl, rfl, rfl, hid (fun i x hi => absurd hi (by omega))⟩
  case round =>
    obtain ⟨k, hk, rfl, rfl, rfl, HA⟩ := hrel
    by_cases hlt : k < n
    · have hlt' : (k : Int) < (n : Int) := by omega
      obtain ⟨x, hx⟩ := get_some HN.out hlt
      obtain ⟨b, o, rfl, hb1, hc1⟩ := H1.out.2 k x hx
      simp only [IntAt, Nat.mul_one] at hc1
      have HX := hid hx
      clear hx
      by_cases e1 : x < 0
      · have hf : r = false := HR.out.symm.trans (all_no HX.out (inN_f1 e1))
        subst hf
        go_wp2
        go_ret
        exact ⟨rfl, rfl⟩
      by_cases e2 : (nv : Int) ≤ x
      · have hf : r = false := HR.out.symm.trans (all_no HX.out (inN_f2 e2))
        subst hf
        go_wp2
        go_ret
        exact ⟨rfl, rfl⟩
      go_wp2
      go_roundg (n - (k + 1))
      case measure => omega
      case rel => exact ⟨k + 1, by omega, rfl, rfl, rfl, hid (fun i x' hi h1 => by
        by_cases hik : i < k
        · exact HA.out i x' hik h1
        · obtain rfl : i = k := by omega
          rw [HX.out] at h1
          cases h1
          exact inN_t (by omega) (by omega))⟩
    · have hlt' : ¬ (k : Int) < (n : Int) := by omega
      have hf : r = true := HR.out.symm.trans (all_yes (fun i x hi h1 => HA.out i x (by have := HN.out; omega) h1))
      subst hf
      go_wp2
      go_ret
      exact ⟨rfl, rfl⟩
theorem place_g (xs : List Int) (A : Option Addr) (c J nv vc : Nat) (va : Option Addr) (r : Bool) (w : World) (h1 : IntsM w A xs) (hJ : w.cell? ⟨J, 10, none⟩ = some (.slice va nv vc)) (hr : xs.all (inN nv) = r) :
    Calls Try.prog 79 #[.pointer (some ⟨J, 0, none⟩), .slice A xs.length c] w fun e w' => e = .returned (.bool r) ∧ w' = w := by
  have hl := h1.1
  obtain ⟨n, hn⟩ : ∃ n : Nat, xs.length = n := ⟨_, rfl⟩
  rw [hn]
  rw [hn] at hl
  have H1 := hid h1
  have HN := hid hn
  have HR := hid hr
  clear h1 hn hr
  go_enter Try.func79, Try.ntmps79
  go_wp2
  go_loopg [9] n (fun gk v9 wr => ∃ k : Nat, k ≤ n ∧ gk = n - k ∧ v9 = .int .i64 k ∧ wr = w ∧ Hid (∀ i x, i < k → xs[i]? = some x → inN nv x = true))
  case atStart => exact ⟨0, by omega, rfl, rfl, rfl, hid (fun i x hi => absurd hi (by omega))⟩
  case round =>
    obtain ⟨k, hk, rfl, rfl, rfl, HA⟩ := hrel
    by_cases hlt : k < n
    · have hlt' : (k : Int) < (n : Int) := by omega
      obtain ⟨x, hx⟩ := get_some HN.out hlt
      obtain ⟨b, o, rfl, hb1, hc1⟩ := H1.out.2 k x hx
      simp only [IntAt, Nat.mul_one] at hc1
      have HX := hid hx
      clear hx
      by_cases e1 : x < 0
      · have hf : r = false := HR.out.symm.trans (all_no HX.out (inN_f1 e1))
        subst hf
        go_wp2
        go_ret
        exact ⟨rfl, rfl⟩
      by_cases e2 : (nv : Int) ≤ x
      · have hf : r = false := HR.out.symm.trans (all_no HX.out (inN_f2 e2))
        subst hf
        go_wp2
        go_ret
        exact ⟨rfl, rfl⟩
      go_wp2
      go_roundg (n - (k + 1))
      case measure => omega
      case rel => exact ⟨k + 1, by omega, rfl, rfl, rfl, hid (fun i x' hi h1 => by
        by_cases hik : i < k
        · exact HA.out i x' hik h1
        · obtain rfl : i = k := by omega
          rw [HX.out] at h1
          cases h1
          exact inN_t (by omega) (by omega))⟩
    · have hlt' : ¬ (k : Int) < (n : Int) := by omega
      have hf : r = true := HR.out.symm.trans (all_yes (fun i x hi h1 => HA.out i x (by have := HN.out; omega) h1))
      subst hf
      go_wp2
      go_ret
      exact ⟨rfl, rfl⟩
theorem has_g (xs : List Int) (A : Option Addr) (c : Nat) (x : CoD) (va fa ia : Option Addr) (vc fc ic : Nat) (r : Bool) (w : World) (h1 : IntsM w A xs) (hr : xs.all (inN x.vs.length) = r) :
    Calls Try.prog 53 #[.agg (CoV x va vc fa fc ia ic), .slice A xs.length c] w fun e w' => e = .returned (.bool r) ∧ Hid (Below w.heap.size w w') := by
  have hl := h1.1
  obtain ⟨n, hn⟩ : ∃ n : Nat, xs.length = n := ⟨_, rfl⟩
  rw [hn]
  rw [hn] at hl
  have H1 := hid (fun W (hb : Below w.heap.size w W) => h1.later int_stays hb)
  have HN := hid hn
  have HR := hid hr
  have HB := hid (below1 w (.cells (CoV x va vc fa fc ia ic) 37))
  have HX := hid (heap_alloc_new w (.cells (CoV x va vc fa fc ia ic) 37))
  clear h1 hn hr
  go_enter Try.func53, Try.ntmps53
  go_wp2
  obtain ⟨W1, hW1⟩ : ∃ W1, w.alloc (.cells (CoV x va vc fa fc ia ic) 37) = W1 := ⟨_, rfl⟩
  rw [hW1] at HB HX ⊢
  clear hW1
  go_loopg [5] n (fun gk v5 wr => ∃ k : Nat, k ≤ n ∧ gk = n - k ∧ v5 = .int .i64 k ∧ Hid (Below w.heap.size w wr) ∧ Hid (wr.heap[w.heap.size]? = some (.cells (CoV x va vc fa fc ia ic) 37 (0, 0))) ∧ Hid (∀ i y, i < k → xs[i]? = some y → inN x.vs.length y = true))
  case atStart => exact ⟨0, by omega, by omega, rfl, HB, HX, hid (fun i x hi => absurd hi (by omega))⟩
  case round =>
    clear HB HX
    obtain ⟨k, hk, rfl, rfl, HB, HX, HA⟩ := hrel
    have hx0 := cells_at HX.out
    by_cases hlt : k < n
    · have hlt' : (k : Int) < (n : Int) := by omega
      obtain ⟨y, hy⟩ := get_some HN.out hlt
      obtain ⟨b, o, rfl, hb1, hc1⟩ := (H1.out _ HB.out).2 k y hy
      simp only [IntAt, Nat.mul_one] at hc1
      have HY := hid hy
      clear hy
      by_cases e1 : y < 0
      · have hf : r = false := HR.out.symm.trans (all_no HY.out (inN_f1 e1))
        subst hf
        go_wp2
        go_quiet (fail)
        go_wp2
        go_ret
        exact ⟨rfl, hid (below_drewN HB.out _)⟩
      by_cases e2 : (x.vs.length : Int) ≤ y
      · have hf : r = false := HR.out.symm.trans (all_no HY.out (inN_f2 e2))
        subst hf
        go_wp2
        go_quiet (fail)
        go_wp2
        go_ret
        exact ⟨rfl, hid (below_drewN HB.out _)⟩
      go_wp2
      go_quiet (fail)
      go_wp2
      go_roundg (n - (k + 1))
      case measure => omega
      case rel => exact ⟨k + 1, by omega, rfl, rfl, hid (below_drewN HB.out _), HX, hid (fun i x' hi h1 => by
        by_cases hik : i < k
        · exact HA.out i x' hik h1
        · obtain rfl : i = k := by omega
          rw [HY.out] at h1
          cases h1
          exact inN_t (by omega) (by omega))⟩
    · have hlt' : ¬ (k : Int) < (n : Int) := by omega
      have hf : r = true := HR.out.symm.trans (all_yes (fun i x hi h1 => HA.out i x (by have := HN.out; omega) h1))
      subst hf
      go_wp2
      go_ret
      exact ⟨rfl, HB⟩
theorem cell_lt {w : World} {b o : Nat} {v : Value} (h : w.cell? ⟨b, o, none⟩ = some v) : b < w.heap.size := by
  by_cases hb : b < w.heap.size
  · exact hb
  · simp [World.cell?, Array.getElem?_eq_none (Nat.le_of_not_lt hb)] at h
theorem kept1 {w : World} {b o : Nat} {v : Value} (ob : Obj) (h : w.cell? ⟨b, o, none⟩ = some v) : (w.alloc ob).cell? ⟨b, o, none⟩ = some v := cell_keep (below1 w ob) (cell_lt h) h
/-- The type of a variable that is there. -/
theorem kind_g (x : VaD) (k b o J nv vc : Nat) (w : World) (hJ : w.cell? ⟨J, 5, none⟩ = some (.slice (some ⟨b, o, none⟩) nv vc)) (hk : k < nv) (hc : CellsAt w b (o + k * 3) (VaV x)) :
    Calls Try.prog 76 #[.pointer (some ⟨J, 0, none⟩), .int .i64 k] w fun e w' => e = .returned (.agg #[.bool x.t.p, .string x.t.name]) ∧ Hid (Below w.heap.size w w') := by
  have hlt' : (k : Int) < (nv : Int) := by omega
  have HB := hid (below1 w (.cells #[.bool x.t.p, .string x.t.name] 31))
  have d0 : w.cell? ⟨b, o + k * 3, none⟩ = some (.bool x.t.p) := hc 0 _ rfl
  have d1 : w.cell? ⟨b, o + k * 3 + 1, none⟩ = some (.string x.t.name) := hc 1 _ rfl
  clear hc
  have hJ1 := fun o => kept1 o hJ
  have e0 := fun o => kept1 o d0
  have e1 := fun o => kept1 o d1
  have hlt := hid (cell_lt hJ)
  clear hJ d0 d1
  go_enter Try.func76, Try.ntmps76
  go_wp2
  exact bodyPost_ret (v := .agg #[.bool x.t.p, .string x.t.name]) (by simp [results, Try.results76, go_sem]) rfl ⟨rfl, HB⟩
def eqS (s : ByteArray) : Bool := s.toList == [61, 61] || s.toList == [33, 61]
theorem equals_i (s : ByteArray) (r : Bool) (w : World) (hr : eqS s = r) : Calls Try.prog 81 #[.string s] w fun e w' => e = .returned (.bool r) ∧ w' = w := by
  unfold eqS at hr
  cases e1 : (s.toList == [61, 61])
  · cases e2 : (s.toList == [33, 61])
    · have hf : r = false := by rw [← hr, e1, e2]; rfl
      subst hf
      clear hr
      go_enter Try.func81, Try.ntmps81
      go_wp2
      go_ret
      exact ⟨rfl, rfl⟩
    · have hf : r = true := by rw [← hr, e1, e2]; rfl
      subst hf
      clear hr
      go_enter Try.func81, Try.ntmps81
      go_wp2
      go_ret
      exact ⟨rfl, rfl⟩
  · have hf : r = true := by rw [← hr, e1]; rfl
    subst hf
    clear hr
    go_enter Try.func81, Try.ntmps81
    go_wp2
    go_ret
    exact ⟨rfl, rfl⟩
end Go.Proofs.Ytfhdiahjfnphkaa
