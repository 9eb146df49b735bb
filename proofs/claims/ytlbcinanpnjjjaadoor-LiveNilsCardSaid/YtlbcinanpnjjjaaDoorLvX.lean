/- LiveNils, as a call: it returns true, and leaves what was as it was. No conditions. -/
import Derived.Test.YtlbcinanpnjjjaaDoorLvW
import Derived.BigQuiet
namespace Go.Proofs.YtlbcinanpnjjjaaDoor
open Go.RowKit Go.Maps Go.Shelf
set_option linter.unusedVariables false
set_option linter.unusedSimpArgs false
attribute [local go_sem] Oper.semAt_some
set_option maxRecDepth 100000 in
set_option maxHeartbeats 16000000 in
theorem nils_law (x : CoD) (va fa ia : Option Addr) (vc fc ic : Nat) (at_ v : Int) (w : World) (hC : CoM w x va fa ia) :
    Calls Tryd.prog 4 #[.agg (CoV x va vc fa fc ia ic), .int .i64 at_, .int .i64 v] w fun e w' => e = .returned (.bool true) ∧ Hid (Below w.heap.size w w') := by
  have HS := hid (SB.start w (CoV x va vc fa fc ia ic))
  have HC := hid hC
  clear hC
  refine (callsIn_wide (n := 10)).1 ?_
  refine callsIn_of_wp_marks Tryd.func4 rfl trivial ?_ rfl
  simp only [Tryd.ntmps4, List.size_toArray, List.length_cons, List.length_nil, Nat.reduceAdd, Nat.reduceSub, Array.replicate_succ, Array.replicate_zero, List.push_toArray, List.append_toArray, List.nil_append, List.cons_append]
  refine wpIn_wide.2 ?_
  go_upto_region 3 with (go_at_call 5; refine (alive_f _).mono ?_; rintro e w1 ⟨rfl, hb⟩; have H1 := hid (HS.out.later hb.out); have hc1 := cells_at H1.out.c; clear HS hb)
  have HA : Hid (at_ < 0 ∨ (0 ≤ at_ ∧ at_ < (x.ins.length : Int)) ∨ (0 ≤ at_ ∧ ¬ at_ < (x.ins.length : Int))) := hid (by omega)
  have HVV : Hid (v < 0 ∨ (0 ≤ v ∧ v < (x.vs.length : Int)) ∨ (0 ≤ v ∧ ¬ v < (x.vs.length : Int))) := hid (by omega)
  have HLF := hid (light_f x va fa ia vc fc ic w1 (HC.out.later H1.out.bel))
  rcases HA.out with a0 | ⟨a0, a1⟩ | ⟨a0, a1⟩ <;> rcases HVV.out with v0 | ⟨v0, v1⟩ | ⟨v0, v1⟩
  all_goals try have a0' : ¬ 0 ≤ at_ := by omega
  all_goals try have v0' : ¬ 0 ≤ v := by omega
  all_goals clear HA HVV
  all_goals go_upto_region 5 with (first
    | (go_at_call 6; refine HLF.out.mono ?_; rintro e w2 ⟨⟨l, rfl, hl⟩, hb⟩; have H2 := hid (H1.out.later hb.out); have HLt := hid hl; have hxc := cells_at H2.out.c; have hr2 := frozen_no H2.out.r 0; have hr3 := cells_at H2.out.r; clear hb hl hc1; cases l)
    | (go_at_call 5; refine (alive_f _).mono ?_; rintro e w3 ⟨rfl, hb⟩; have H3 := hid (H2.out.later hb.out); clear hb hxc hr2 hr3; have hr2 := frozen_no H3.out.r 0; have hr3 := cells_at H3.out.r))
  all_goals try (have e := H3.out.set true; exact ⟨_, res4 (b := w.heap.size + 1) (v := .bool true) rfl e.2, rfl, hid e.1⟩)
  all_goals
    have hfit := HLt.out trivial
    have HA0 : Hid (inN x.ins.length at_ = false) := hid (by simp [inN]; omega)
    have HV0 : Hid (inN x.vs.length v = false) := hid (by simp [inN]; omega)
    have HN : Hid (x.ins.length ≤ 150) := hid hfit.1
    have HV80 : Hid (x.vs.length ≤ 80) := hid hfit.2.1
    have HOF := hid (of_f x va fa ia vc fc ic w2 (by omega) (by omega) (HC.out.ins.later in_stays H2.out.bel) hfit.2.2)
    clear hfit HLt HLF H1 hr2 hr3
    try clear a0'
    try clear v0'
    try clear a1
    try clear v1
    clear a0 v0
    go_wp2_with (first
      | (go_at_call 7; refine HOF.out.mono ?_; rintro e w4 ⟨P, TA, TB, gA, gB, mA, mB, rfl, hlt, htl⟩; have HT4 := hid hlt.out; have H4 := hid (H2.out.later hlt.out.bel); clear hlt htl hxc)
      | (go_at_call 10; refine (vars_nil at_ _).mono ?_; rintro e w' ⟨rfl, hw⟩; obtain rfl := hw.symm))
    have h00 : 0 < w4.heap.size := by have := (Array.getElem?_eq_some_iff.1 H4.out.r).1; omega
    have hsz : w.heap.size + 1 < w4.heap.size := (Array.getElem?_eq_some_iff.1 H4.out.r).1
    have HSZ := hid hsz
    clear hsz HOF H2
    refine (wpIn_wide (n := 10)).1 ?_
    refine range_none 10 (by decide) (gf := 29) (lb := #[]) (enc := fun v : Int => #[.int .i64 v]) (Nb := 0) rfl (enters_of Tryd.func29 (by kernel_rfl) rfl) (seq_nil 9 0 w4) h00 (fun _ => rfl) (fun W => Below w4.heap.size w4 W) (fun A B h1 h2 => h1.trans h2) (Below.refl _ _) ?_
    rintro W5 hb5 hk5
    have H5 := hid (H4.out.later hb5)
    have HT5 := hid (HT4.out.later hb5)
    have HK5 := hid hk5
    clear hb5 hk5 h00 H4 HT4
    go_wp2_with (first
      | (go_at_call 17; with_reducible refine (ahead_nil at_ v _).mono ?_; rintro e w' ⟨rfl, hw⟩; obtain rfl := hw.symm; clear hw)
      | (go_at_call 18; with_reducible refine (behind_nil at_ v _).mono ?_; rintro e w' ⟨rfl, hw⟩; obtain rfl := hw.symm; clear hw)
      | (go_at_call 12; with_reducible refine (idle_nil _).mono ?_; rintro e w6 ⟨rfl, hb⟩; have H6 := hid (H5.out.later hb.out); have HT6 := hid (HT5.out.later hb.out); have HK6 := hid ((hb.out.block _ (Array.getElem?_eq_some_iff.1 HK5.out).1).trans HK5.out); clear hb)
      | (go_at_call 15; with_reducible refine (last_nil v _).mono ?_; rintro e w7 ⟨rfl, hb⟩; have H7 := hid (H6.out.later hb.out); have HT7 := hid (HT6.out.later hb.out); have HK7 := hid ((hb.out.block _ (Array.getElem?_eq_some_iff.1 HK6.out).1).trans HK6.out); clear hb)
      | (go_at_call 14; with_reducible refine (most_nil _).mono ?_; rintro e w' ⟨rfl, hw⟩; obtain rfl := hw.symm; clear hw)
      | (go_at_call 17; with_reducible refine (ahead_no at_ 0 HT7.out HA0.out).mono ?_; rintro e w' ⟨rfl, hw⟩; obtain rfl := hw.symm; clear hw)
      | (go_at_call 18; with_reducible refine (behind_no 0 v HT7.out HV0.out).mono ?_; rintro e w' ⟨rfl, hw⟩; obtain rfl := hw.symm; clear hw)
      | (go_at_call 15; with_reducible refine (last_no v HT7.out HV0.out (by have := HN.out; omega)).mono ?_; rintro e w8 ⟨rfl, hb⟩; have H8 := hid (H7.out.later hb.out); have HK8 := hid ((hb.out.block _ (Array.getElem?_eq_some_iff.1 HK7.out).1).trans HK7.out); clear hb)
      | (go_at_call 5; refine (alive_f _).mono ?_; rintro e w9 ⟨rfl, hb⟩; have H9 := hid (H8.out.later hb.out); have HK9 := hid ((hb.out.block _ (Array.getElem?_eq_some_iff.1 HK8.out).1).trans HK8.out); clear hb; have hr2 := frozen_no H9.out.r 0; have hr3 := cells_at H9.out.r))
    have e := H9.out.end_ (S := w4.heap.size) HSZ.out HK9.out
    exact leave4 (S := w4.heap.size) (b := w.heap.size + 1) (v := .bool true) e.1 rfl e.2.1 e.2.2.1 ⟨rfl, hid e.2.2.2⟩
end Go.Proofs.YtlbcinanpnjjjaaDoor
