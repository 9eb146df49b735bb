/- Are lists of numbers, of truths, the same? No conditions. -/
import Derived.Test.YtbmjhkimeeahhaaFlD
namespace Go.Proofs.Ytbmjhkimeeahhaa
open Go.RowKit Go.Maps
set_option linter.unusedVariables false
set_option linter.unusedSimpArgs false
def BoolAt (W : World) (b o : Nat) (x : Bool) : Prop := W.cell? ⟨b, o, none⟩ = some (.bool x)
abbrev BoolsM := RowM 1 BoolAt
theorem bool_stays : Stays BoolAt := fun W W' b o x hb hlt h => (hb.cell (p := ⟨b, o, none⟩) hlt).trans h
theorem numbers_i (xs ys : List Int) (A A2 : Option Addr) (c c2 : Nat) (r : Bool) (w : World) (h1 : IntsM w A xs) (h2 : IntsM w A2 ys) (hr : eqL (· == ·) xs ys = r) :
    Calls Try.prog 17 #[.slice A xs.length c, .slice A2 ys.length c2] w fun e w' => e = .returned (.bool r) ∧ Hid (Below w.heap.size w w') := by
  have hl := h1.1
  obtain ⟨n, hn⟩ : ∃ n : Nat, xs.length = n := ⟨_, rfl⟩
  obtain ⟨m, hm⟩ : ∃ m : Nat, ys.length = m := ⟨_, rfl⟩
  rw [hn, hm]
  rw [hn] at hl
  have H1 := hid h1
  have H2 := hid h2
  have HN := hid hn
  have HM := hid hm
  have HR := hid hr
  clear h1 h2 hn hm hr
  by_cases hnm : n = m
  · subst hnm
    have e0 : ((n : Int) != (n : Int)) = false := by simp
    go_enter Try.func17, Try.ntmps17
    go_wp2
    go_loopg [5] n (fun gk v5 wr => ∃ k : Nat, k ≤ n ∧ gk = n - k ∧ v5 = .int .i64 k ∧ Hid (Below w.heap.size w wr) ∧ Hid (∀ i x y, i < k → xs[i]? = some x → ys[i]? = some y → (x == y) = true))
    case atStart => exact ⟨0, by omega, rfl, rfl, hid (Below.refl _ _), hid (fun i x y hi => absurd hi (by omega))⟩
    case round =>
      obtain ⟨k, hk, rfl, rfl, HB, HA⟩ := hrel
      by_cases hlt : k < n
      · have hlt' : (k : Int) < (n : Int) := by omega
        obtain ⟨x, hx⟩ := get_some HN.out hlt
        obtain ⟨y, hy⟩ := get_some HM.out hlt
        obtain ⟨b, o, rfl, hb1, hc1⟩ := (H1.out.later int_stays HB.out).2 k x hx
        obtain ⟨b2, o2, rfl, hb2, hc2⟩ := (H2.out.later int_stays HB.out).2 k y hy
        simp only [IntAt, Nat.mul_one] at hc1 hc2
        have HX := hid hx
        have HY := hid hy
        clear hx hy
        cases e : (x != y)
        case true =>
          have hf : r = false := HR.out.symm.trans (eqL_no HX.out HY.out (by simpa using e))
          subst hf
          have HBA := HB
          go_wp2
          go_quiet (fail)
          go_wp2
          go_ret
          exact ⟨rfl, hid (below_drewN HBA.out _)⟩
        case false =>
          have HBA := HB
          go_wp2
          go_quiet (fail)
          go_wp2
          go_roundg (n - (k + 1))
          case measure => omega
          case rel => exact ⟨k + 1, by omega, rfl, rfl, hid (below_drewN HBA.out _), hid (fun i x' y' hi h1 h2 => by
            by_cases hik : i < k
            · exact HA.out i x' y' hik h1 h2
            · obtain rfl : i = k := by omega
              rw [HX.out] at h1
              rw [HY.out] at h2
              cases h1
              cases h2
              simpa using e)⟩
      · have hlt' : ¬ (k : Int) < (n : Int) := by omega
        have hf : r = true := HR.out.symm.trans (eqL_yes (HN.out.trans HM.out.symm) (fun i x y hi h1 h2 => HA.out i x y (by have := HN.out; omega) h1 h2))
        subst hf
        go_wp2
        go_ret
        exact ⟨rfl, HB⟩
  · have e0 : ((n : Int) != (m : Int)) = true := by simp; omega
    have hf : r = false := HR.out.symm.trans (eqL_len (by rw [HN.out, HM.out]; exact hnm))
    subst hf
    go_enter Try.func17, Try.ntmps17
    go_wp2
    go_ret
    exact ⟨rfl, hid (Below.refl _ _)⟩

theorem truths_i (xs ys : List Bool) (A A2 : Option Addr) (c c2 : Nat) (r : Bool) (w : World) (h1 : BoolsM w A xs) (h2 : BoolsM w A2 ys) (hr : eqL (· == ·) xs ys = r) :
    Calls Try.prog 9 #[.slice A xs.length c, .slice A2 ys.length c2] w fun e w' => e = .returned (.bool r) ∧ Hid (Below w.heap.size w w') := by
  have hl := h1.1
  obtain ⟨n, hn⟩ : ∃ n : Nat, xs.length = n := ⟨_, rfl⟩
  obtain ⟨m, hm⟩ : ∃ m : Nat, ys.length = m := ⟨_, rfl⟩
  rw [hn, hm]
  rw [hn] at hl
  have H1 := hid h1
  have H2 := hid h2
  have HN := hid hn
  have HM := hid hm
  have HR := hid hr
  clear h1 h2 hn hm hr
  by_cases hnm : n = m
  · subst hnm
    have e0 : ((n : Int) != (n : Int)) = false := by simp
    go_enter Try.func9, Try.ntmps9
    go_wp2
    go_loopg [5] n (fun gk v5 wr => ∃ k : Nat, k ≤ n ∧ gk = n - k ∧ v5 = .int .i64 k ∧ Hid (Below w.heap.size w wr) ∧ Hid (∀ i x y, i < k → xs[i]? = some x → ys[i]? = some y → (x == y) = true))
    case atStart => exact ⟨0, by omega, rfl, rfl, hid (Below.refl _ _), hid (fun i x y hi => absurd hi (by omega))⟩
    case round =>
      obtain ⟨k, hk, rfl, rfl, HB, HA⟩ := hrel
      by_cases hlt : k < n
      · have hlt' : (k : Int) < (n : Int) := by omega
        obtain ⟨x, hx⟩ := get_some HN.out hlt
        obtain ⟨y, hy⟩ := get_some HM.out hlt
        obtain ⟨b, o, rfl, hb1, hc1⟩ := (H1.out.later bool_stays HB.out).2 k x hx
        obtain ⟨b2, o2, rfl, hb2, hc2⟩ := (H2.out.later bool_stays HB.out).2 k y hy
        simp only [BoolAt, Nat.mul_one] at hc1 hc2
        have HX := hid hx
        have HY := hid hy
        clear hx hy
        cases x <;> cases y
        · have HBA := HB
          go_wp2
          go_quiet (fail)
          go_wp2
          go_roundg (n - (k + 1))
          case measure => omega
          case rel => exact ⟨k + 1, by omega, rfl, rfl, hid (below_drewN HBA.out _), hid (fun i x' y' hi h1 h2 => by
            by_cases hik : i < k
            · exact HA.out i x' y' hik h1 h2
            · obtain rfl : i = k := by omega
              rw [HX.out] at h1
              rw [HY.out] at h2
              cases h1
              cases h2
              rfl)⟩
        · have hf : r = false := HR.out.symm.trans (eqL_no HX.out HY.out rfl)
          subst hf
          have HBA := HB
          go_wp2
          go_quiet (fail)
          go_wp2
          go_ret
          exact ⟨rfl, hid (below_drewN HBA.out _)⟩
        · have hf : r = false := HR.out.symm.trans (eqL_no HX.out HY.out rfl)
          subst hf
          have HBA := HB
          go_wp2
          go_quiet (fail)
          go_wp2
          go_ret
          exact ⟨rfl, hid (below_drewN HBA.out _)⟩
        · have HBA := HB
          go_wp2
          go_quiet (fail)
          go_wp2
          go_roundg (n - (k + 1))
          case measure => omega
          case rel => exact ⟨k + 1, by omega, rfl, rfl, hid (below_drewN HBA.out _), hid (fun i x' y' hi h1 h2 => by
            by_cases hik : i < k
            · exact HA.out i x' y' hik h1 h2
            · obtain rfl : i = k := by omega
              rw [HX.out] at h1
              rw [HY.out] at h2
              cases h1
              cases h2
              rfl)⟩
      · have hlt' : ¬ (k : Int) < (n : Int) := by omega
        have hf : r = true := HR.out.symm.trans (eqL_yes (HN.out.trans HM.out.symm) (fun i x y hi h1 h2 => HA.out i x y (by have := HN.out; omega) h1 h2))
        subst hf
        go_wp2
        go_ret
        exact ⟨rfl, HB⟩
  · have e0 : ((n : Int) != (m : Int)) = true := by simp; omega
    have hf : r = false := HR.out.symm.trans (eqL_len (by rw [HN.out, HM.out]; exact hnm))
    subst hf
    go_enter Try.func9, Try.ntmps9
    go_wp2
    go_ret
    exact ⟨rfl, hid (Below.refl _ _)⟩

end Go.Proofs.Ytbmjhkimeeahhaa
