/- alive: the chapter's example. No conditions. -/
import Derived.Test.YtlbcinanpnjjjaaDoorLvJ
import Derived.OwnWalk
namespace Go.Proofs.YtlbcinanpnjjjaaDoor
open Go.RowKit Go.Maps
set_option linter.unusedVariables false
set_option linter.unusedSimpArgs false
theorem info26 : (Tryd.prog.info? 26).map (fun i => (i.zero, i.size, i.bytes)) = some (some (.agg #[.bool false, .string ⟨#[]⟩, .int .i64 0]), 3, 32) := by kernel_rfl
abbrev exI (op d a b : Int) : InD := ⟨op, d, a, b, 0, 0, 0, 0, 0, 0, ⟨#[]⟩, [], []⟩
abbrev exVa : VaD := ⟨⟨false, ⟨#[]⟩⟩, 0⟩
abbrev exC : CoD := ⟨⟨#[]⟩, 0, [exVa, exVa, exVa], exVa, [], [exI 1 0 0 0, exI 1 1 0 0, exI 4 2 0 1, exI 18 0 2 0]⟩
abbrev exV : Array Value := InV (exI 1 0 0 0) none 0 none 0 ++ InV (exI 1 1 0 0) none 0 none 0 ++ InV (exI 4 2 0 1) none 0 none 0 ++ InV (exI 18 0 2 0) none 0 none 0
theorem ex_nx0 : nxE exC 0 = [1] := by decide
theorem ex_nx1 : nxE exC 1 = [2] := by decide
theorem ex_nx2 : nxE exC 2 = [3] := by decide
theorem ex_nx3 : nxE exC 3 = [] := by decide
theorem askB_one {x : CoD} {i j v : Nat} (h : nxE x i = [j]) : AskB x i v ↔ Ask x j v := by
  unfold AskB
  rw [h]
  simp
theorem askB_none {x : CoD} {i v : Nat} (h : nxE x i = []) : ¬ AskB x i v := by
  unfold AskB
  rw [h]
  simp
theorem ex_b3 (v : Nat) : ¬ AskB exC 3 v := askB_none ex_nx3
theorem ex_b2 (v : Nat) : AskB exC 2 v ↔ v = 2 := by
  rw [askB_one ex_nx2, ask_iff]
  have h1 : rdV exC 3 v = true ↔ v = 2 := by
    have : rdV exC 3 v = ([2] : List Int).any (fun y => y == (v : Int)) := rfl
    rw [this]; simp; omega
  simp only [h1, ex_b3, false_and, or_false]
theorem ex_b1 (v : Nat) : AskB exC 1 v ↔ (v = 0 ∨ v = 1) := by
  rw [askB_one ex_nx1, ask_iff, ex_b2]
  have h1 : rdV exC 2 v = true ↔ (v = 0 ∨ v = 1) := by
    have : rdV exC 2 v = ([0, 1] : List Int).any (fun y => y == (v : Int)) := rfl
    rw [this]; simp; omega
  have h2 : wrV exC 2 v = false ↔ v ≠ 2 := by
    have : wrV exC 2 v = ((2 : Int) == (v : Int)) := rfl
    rw [this]; simp; omega
  rw [h1, h2]
  omega
theorem ex_b0 (v : Nat) : AskB exC 0 v ↔ v = 0 := by
  rw [askB_one ex_nx0, ask_iff, ex_b1]
  have h1 : rdV exC 1 v = false := by
    have : rdV exC 1 v = ([] : List Int).any (fun y => y == (v : Int)) := rfl
    rw [this]; rfl
  have h2 : wrV exC 1 v = false ↔ v ≠ 1 := by
    have : wrV exC 1 v = ((1 : Int) == (v : Int)) := rfl
    rw [this]; simp; omega
  rw [h1, h2]
  simp only [Bool.false_eq_true, false_or]
  omega
theorem ex_fits : Fits exC := by
  intro r hr
  simp only [List.mem_cons, List.not_mem_nil, or_false] at hr
  rcases hr with rfl | rfl | rfl | rfl
  all_goals exact ⟨by decide, by decide, by decide⟩
/-- The words of the rows behind. -/
def exX : Nat → Nat
  | 0 => 1
  | 1 => 3
  | 2 => 4
  | _ => 0
def exN : Nat → Nat
  | 0 => 1
  | 1 => 2
  | 2 => 1
  | _ => 0
theorem ex_row {mA mB : Nat → Nat → Bool} (h : TellsT exC 4 64 mA mB) (i v : Nat) (hi : i < 4) (hv : v < 64) : mB i v = (exX i).testBit v := by
  have e := (h i v hi hv).2
  have k1 : ∀ v : Nat, v < 64 → (((1 : Nat).testBit v) = true ↔ v = 0) := by decide
  have k3 : ∀ v : Nat, v < 64 → (((3 : Nat).testBit v) = true ↔ (v = 0 ∨ v = 1)) := by decide
  have k4 : ∀ v : Nat, v < 64 → (((4 : Nat).testBit v) = true ↔ v = 2) := by decide
  match i, hi with
  | 0, _ => exact Bool.eq_iff_iff.2 (by rw [e, ex_b0]; exact (k1 v hv).symm)
  | 1, _ => exact Bool.eq_iff_iff.2 (by rw [e, ex_b1]; exact (k3 v hv).symm)
  | 2, _ => exact Bool.eq_iff_iff.2 (by rw [e, ex_b2]; exact (k4 v hv).symm)
  | 3, _ =>
    have h0 : (0 : Nat).testBit v = false := by simp
    show mB 3 v = (0 : Nat).testBit v
    rw [h0]
    cases hb : mB 3 v
    · rfl
    · exact absurd (e.1 hb) (ex_b3 v)
theorem ex_ones (i : Nat) (hi : i < 4) (W : World) : Calls Tryd.prog 50 #[.int .u64 (exX i : Nat)] W fun e w' => e = .returned (.int .i64 (exN i : Nat)) ∧ w' = W := by
  match i, hi with
  | 0, _ => exact ones_1 W
  | 1, _ => exact ones_3 W
  | 2, _ => exact ones_4 W
  | 3, _ => exact ones_0 W
theorem ex_mem {W : World} {I : Nat} (h : W.heap[I]? = some (.cells exV 53 (0, 0))) : RowM 13 InAt W (some ⟨I, 0, none⟩) exC.ins := by
  have nil : ∀ l : List Int, l = [] → IntsM W none l := fun l hl => by subst hl; exact ⟨by simp, fun a b hab => by simp at hab⟩
  refine ⟨by simp, fun i y hy => ⟨I, 0, rfl, (Array.getElem?_eq_some_iff.1 h).1, none, 0, none, 0, fun j v hv => ?_, ?_⟩⟩
  · rw [cells_at h]
    have hj := (Array.getElem?_eq_some_iff.1 hv).1
    match i, hy with
    | 0, hy =>
      simp at hy
      subst hy
      simp at hj
      rw [show 0 + 0 * 13 + j = j by omega, Array.getElem?_append_left (by simp; omega), Array.getElem?_append_left (by simp; omega), Array.getElem?_append_left (by simp; omega)]
      exact hv
    | 1, hy =>
      simp at hy
      subst hy
      simp at hj
      rw [show 0 + 1 * 13 + j = 13 + j by omega, Array.getElem?_append_left (by simp; omega), Array.getElem?_append_left (by simp; omega), Array.getElem?_append_right (by simp)]
      simpa using hv
    | 2, hy =>
      simp at hy
      subst hy
      simp at hj
      rw [show 0 + 2 * 13 + j = 26 + j by omega, Array.getElem?_append_left (by simp; omega), Array.getElem?_append_right (by simp)]
      simpa using hv
    | 3, hy =>
      simp at hy
      subst hy
      simp at hj
      rw [show 0 + 3 * 13 + j = 39 + j by omega, Array.getElem?_append_right (by simp)]
      simpa using hv
    | i + 4, hy => simp at hy
  · match i, hy with
    | 0, hy => simp at hy; subst hy; exact ⟨nil _ rfl, nil _ rfl⟩
    | 1, hy => simp at hy; subst hy; exact ⟨nil _ rfl, nil _ rfl⟩
    | 2, hy => simp at hy; subst hy; exact ⟨nil _ rfl, nil _ rfl⟩
    | 3, hy => simp at hy; subst hy; exact ⟨nil _ rfl, nil _ rfl⟩
    | i + 4, hy => simp at hy
set_option maxRecDepth 100000 in
set_option maxHeartbeats 8000000 in
theorem alive_f (w : World) : Calls Tryd.prog 5 #[] w fun e w' => e = .returned (.bool true) ∧ Hid (Below w.heap.size w w') := by
  obtain ⟨i0t, hti, hz0, hz1, hz2⟩ := info_parts info26
  have HM : Hid (i0t.bytes * 3 ≤ 281474976710656) := hid (by rw [hz2]; omega)
  have HM3 : Hid (3 ≤ maxLen) := hid (by unfold maxLen; omega)
  have HOF := hid (fun (S : Nat) (W : World) => of_f exC (some ⟨S, 0, none⟩) none (some ⟨W.heap.size, 0, none⟩) 3 0 4 (W.alloc (.cells exV 53)) (by decide) (by decide) (ex_mem (heap_alloc_new W (.cells exV 53))) ex_fits)
  go_enter Tryd.func5, Tryd.ntmps5
  go_wp2_with (first
    | (at_make; refine wpList_make_full _ rfl _ _ 22 rfl w.heap.size 26 i0t (.agg #[.bool false, .string ⟨#[]⟩, .int .i64 0]) 3 Tryd.underlying22 hti hz0 hz1 .i64 .i64 3 3 3 rfl rfl rfl rfl HM.out HM3.out (Nat.le_refl _) ?_; intro w1 hown hgrow
       have HB1 := hid ((Below.refl _ w).grown hgrow (Nat.le_refl _) (by rintro k e; cases e))
       have HB1 := hid (HB1.out.alloc HB1.out.size (.cells exV 53))
       clear hown hgrow)
    | (go_at_call 7; refine (HOF.out w.heap.size w1).mono ?_; rintro e w2 ⟨P, TA, TB, gA, gB, mA, mB, rfl, hlt, htl⟩
       have HL : Hid (LT (w1.alloc (.cells exV 53)) exC (some ⟨w.heap.size, 0, none⟩) none (some ⟨w1.heap.size, 0, none⟩) 3 0 4 4 1 P TA TB gA gB mA mB w2) := hid hlt.out
       have HT : Hid (TellsT exC 4 64 mA mB) := hid htl.out
       have HB2 := hid (after HB1.out HL.out.bel HB1.out.size)
       have q10 : mB 1 0 = true := by rw [ex_row HT.out 1 0 (by omega) (by omega)]; decide
       have q11 : mB 1 1 = true := by rw [ex_row HT.out 1 1 (by omega) (by omega)]; decide
       have q12 : mB 1 2 = false := by rw [ex_row HT.out 1 2 (by omega) (by omega)]; decide
       have q01 : mB 0 1 = false := by rw [ex_row HT.out 0 1 (by omega) (by omega)]; decide
       have B10 : Hid (Calls Tryd.prog 18 #[.pointer (some ⟨P, 0, none⟩), .int .i64 1, .int .i64 0] w2 fun e w' => e = .returned (.bool true) ∧ w' = w2) := hid (by
         have := behind_f 1 0 HL.out (by omega) (by decide) (by decide) (by omega) (by omega)
         rw [q10] at this; exact this)
       have B11 : Hid (Calls Tryd.prog 18 #[.pointer (some ⟨P, 0, none⟩), .int .i64 1, .int .i64 1] w2 fun e w' => e = .returned (.bool true) ∧ w' = w2) := hid (by
         have := behind_f 1 1 HL.out (by omega) (by decide) (by decide) (by omega) (by omega)
         rw [q11] at this; exact this)
       have B12 : Hid (Calls Tryd.prog 18 #[.pointer (some ⟨P, 0, none⟩), .int .i64 1, .int .i64 2] w2 fun e w' => e = .returned (.bool false) ∧ w' = w2) := hid (by
         have := behind_f 1 2 HL.out (by omega) (by decide) (by decide) (by omega) (by omega)
         rw [q12] at this; exact this)
       have B01 : Hid (Calls Tryd.prog 18 #[.pointer (some ⟨P, 0, none⟩), .int .i64 0, .int .i64 1] w2 fun e w' => e = .returned (.bool false) ∧ w' = w2) := hid (by
         have := behind_f 0 1 HL.out (by omega) (by decide) (by decide) (by omega) (by omega)
         rw [q01] at this; exact this)
       have BM : Hid (Calls Tryd.prog 14 #[.pointer (some ⟨P, 0, none⟩)] w2 fun e w' => e = .returned (.int .i64 2) ∧ w' = w2) := hid (by
         have := most_f exN HL.out (by omega) (fun i => by unfold exN; split <;> omega) (fun i hi => count_f (gB i) (exX i) (exN i) (mB i) w2 (HL.out.rb.row i hi) (by unfold exX; split <;> omega) (fun v hv => ex_row HT.out i v hi hv) (by unfold exN; split <;> omega) (fun W => ex_ones i hi W))
         exact this)
       clear hlt htl q10 q11 q12 q01 HOF)
    | (go_at_call 18; have tok := B10; clear B10; with_reducible refine tok.out.mono ?_; rintro e w' ⟨rfl, hw⟩; obtain rfl := hw.symm)
    | (go_at_call 18; have tok := B11; clear B11; with_reducible refine tok.out.mono ?_; rintro e w' ⟨rfl, hw⟩; obtain rfl := hw.symm)
    | (go_at_call 18; have tok := B12; clear B12; with_reducible refine tok.out.mono ?_; rintro e w' ⟨rfl, hw⟩; obtain rfl := hw.symm)
    | (go_at_call 18; have tok := B01; clear B01; with_reducible refine tok.out.mono ?_; rintro e w' ⟨rfl, hw⟩; obtain rfl := hw.symm)
    | (go_at_call 14; with_reducible refine BM.out.mono ?_; rintro e w' ⟨rfl, hw⟩; obtain rfl := hw.symm))
  go_ret
  exact ⟨rfl, HB2⟩
end Go.Proofs.YtlbcinanpnjjjaaDoor
