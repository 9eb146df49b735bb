/- Lists by the reference, over equal lists; has. No conditions. -/
import Derived.Test.YtbmjhkimeeahhaaFmH
import Derived.Test.YtbmjhkimeeahhaaFlI
import Derived.Test.YtbmjhkimeeahhaaFlL
import Derived.StillTailTactics
namespace Go.Proofs.Ytbmjhkimeeahhaa
open Go.RowKit Go.Maps
set_option linter.unusedVariables false
set_option linter.unusedSimpArgs false
theorem Tab.ints {W : World} {T base n c : Nat} {vs : Nat → Value} {F : Nat → List Int} (h : Tab W T base n vs F c) {i : Nat} (hi : i < n) (hc : c ≤ 10000000) : ∃ A cap, vs i = .slice A (F i).length cap ∧ IntsM W A (F i) := by
  have hr := h.row i hi
  obtain ⟨A, cap, e⟩ := own_slice hr
  have hf := h.few i hi
  refine ⟨A, cap, e, by omega, fun j y hy => ?_⟩
  rw [e] at hr
  obtain ⟨b, h1, h2, h3⟩ := own_cell (E := F i) hr hy
  exact ⟨b, 0, h1, h2, by simpa [IntAt] using h3⟩
theorem eqL_refl' (xs : List Int) : eqL (· == ·) xs xs = true := eqL_yes rfl (fun i x y _ h1 h2 => by rw [h1] at h2; cases h2; simp)
set_option maxRecDepth 100000 in
set_option maxHeartbeats 8000000 in
theorem lists_i (T T2 b b2 n c c2 : Nat) (vs vs2 : Nat → Value) (F : Nat → List Int) (w : World) (h1 : Tab w T b n vs F c) (h2 : Tab w T2 b2 n vs2 F c2) (hc : c ≤ 10000000) (hc2 : c2 ≤ 10000000) (hn : n < 1000000) :
    Calls Try.prog 12 #[.slice (some ⟨T, 0, none⟩) n n, .slice (some ⟨T2, 0, none⟩) n n] w fun e w' => e = .returned (.bool true) ∧ Hid (Below w.heap.size w w') := by
  have H1 := hid h1
  have H2 := hid h2
  have HC := hid hc
  have HC2 := hid hc2
  have HN := hid hn
  have hnn : ((n : Int) != (n : Int)) = false := by simp
  clear h1 h2 hc hc2 hn
  go_enter Try.func12, Try.ntmps12
  go_wp2
  have HW0 := hid (Below.refl w.heap.size w)
  go_loopg [5] n (fun gk p wr => ∃ i : Nat, i ≤ n ∧ gk = n - i ∧ p = .int .i64 i ∧ Hid (Below w.heap.size w wr))
  case atStart => exact ⟨0, by omega, by omega, rfl, HW0⟩
  case round =>
    clear HW0
    obtain ⟨i, hi, rfl, rfl, HW⟩ := hrel
    have n9 : n < 1000000 := HN.out
    by_cases hin : i < n
    · have hin' : (i : Int) < (n : Int) := by omega
      have i0 : (0 : Int) ≤ (i : Int) := by omega
      have HT1 := hid (H1.out.later HW.out)
      have HT2 := hid (H2.out.later HW.out)
      have hc1 := HT1.out.cell hin
      have hc2 := HT2.out.cell hin
      have HIN := hid hin
      go_wp2
      go_still_tail 8, (by kernel_rfl)
      change wpList _ _ _ _ _ wr.drew
      have HD1 := hid (HT1.out.later (below_drew1 wr))
      have HD2 := hid (HT2.out.later (below_drew1 wr))
      obtain ⟨A, cap, e1, hI1⟩ := HD1.out.ints HIN.out HC.out
      obtain ⟨A2, cap2, e2, hI2⟩ := HD2.out.ints HIN.out HC2.out
      have HI1 := hid hI1
      have HI2 := hid hI2
      have HWd := hid (below_drewN HW.out 1)
      simp only [e1, e2]
      clear hI1 hI2 hc1 hc2
      go_wp2_with (go_at_call 17; go_must (refine (numbers_i (F i) (F i) A A2 cap cap2 true _ HI1.out HI2.out (eqL_refl' _)).mono ?_); rintro e w8 ⟨rfl, hb⟩; have HW8 := hid (after HWd.out hb.out HWd.out.size); clear hb)
      go_roundg (n - (i + 1))
      case measure => omega
      case rel => exact ⟨i + 1, by omega, rfl, rfl, HW8⟩
    · have hin' : ¬ (i : Int) < (n : Int) := by omega
      go_wp2
      go_ret
      exact ⟨rfl, HW⟩
end Go.Proofs.Ytbmjhkimeeahhaa
