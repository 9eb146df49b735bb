/- What an instruction reads, by the program. Condition: at most 40 arguments. -/
import Derived.Test.YtlbcinanpnjjjaaDoorLvR
import Derived.Lib.SliceRun
namespace Go.Proofs.YtlbcinanpnjjjaaDoor
open Go.RowKit Go.Maps
set_option linter.unusedVariables false
set_option linter.unusedSimpArgs false
set_option maxRecDepth 100000 in
set_option maxHeartbeats 4000000 in
theorem clone_f (xs : List Int) (A : Option Addr) (c : Nat) (w : World) (h : IntsM w A xs) (hl : xs.length ≤ 40) :
    Calls Tryd.prog 42 #[.slice A xs.length c] w fun e w' => ∃ v, e = .returned v ∧ Hid (IsInts w' v xs) ∧ Hid (Below w.heap.size w w') := by
  have hq := fun (w : World) (a : Option Addr) (n c : Nat) => Lib.run_eql_slice_nil w 27 3 a n c 0 0 Tryd.underlying27
  obtain ⟨i0t, hti, hz0, hz1, hz2⟩ := info_parts info3
  rcases A with - | ad
  · obtain rfl : xs = [] := by
      cases xs with
      | nil => rfl
      | cons y l => obtain ⟨b, o, e, -⟩ := h.2 0 y rfl; cases e
    clear h hl
    go_enter Tryd.func42, Tryd.ntmps42
    go_wp2
    go_ret
    exact ⟨_, rfl, hid (ints_nil _), hid (Below.refl _ _)⟩
  · have HN : Hid (∀ j u, (xs.map (Value.int .i64))[j]? = some u → (w.alloc (.cells #[] 3)).cell? (ad.add j) = some u) := hid (by
      by_cases h0 : xs = []
      · subst h0; intro j u hu; simp at hu
      · obtain ⟨b, o, e, -⟩ := news_of h h0
        cases e
        exact news_later h h0 (below1 _ _))
    have HO := hid (World.ownsRow_made (e := 3) (size := 1) (base := w.heap.size) w #[] 0 (Nat.le_refl _) (by unfold maxLen; omega) rfl)
    have HB := hid (below1 w (.cells #[] 3))
    obtain ⟨n, hn⟩ : ∃ n : Nat, xs.length = n := ⟨_, rfl⟩
    rw [hn] at hl ⊢
    have HL := hid hn
    clear hn h
    go_enter Tryd.func42, Tryd.ntmps42
    go_wp2_with (at_builtin; go_must (refine wpList_append_own_at _ rfl _ _ 27 rfl w.heap.size 3 i0t (.int .i64 0) 1 8 Tryd.underlying27 hti hz0 hz1 hz2 rfl (by decide) _ 0 [] rfl HO.out ad n c (xs.map (Value.int .i64)) rfl (by rw [List.length_map, HL.out, Nat.mul_one]) HN.out (ints_one' xs) (by unfold maxLen; omega) (by omega) (by simp) ?_); intro v' w1 hown hgrow hnil hblk
                 have HO1 := hid hown
                 have HG1 := hid hgrow
                 clear hown hgrow hnil hblk)
    go_ret
    exact ⟨_, rfl, hid (ints_owns (by simpa using HO1.out) (by have := HL.out; omega)), hid (HB.out.grown HG1.out HB.out.size (by rintro k e; cases e; exact Nat.le_refl _))⟩
set_option maxRecDepth 100000 in
set_option maxHeartbeats 8000000 in
theorem reads_f (r : InD) (ao mo : Option Addr) (ac mc : Nat) (w : World) (hx : IntsM w ao r.xs) (hl : r.xs.length ≤ 40) :
    Calls Tryd.prog 23 #[.agg (InV r ao ac mo mc)] w fun e w' => ∃ v, e = .returned v ∧ Hid (IsInts w' v (rdsF r)) ∧ Hid (Below w.heap.size w w') := by
  obtain ⟨op, d, a, b, tt, el, f, n, l, c, sg, xs, ms⟩ := r
  simp only at hx hl
  have HB1 := hid (below1 w)
  have HB2 := hid (below2 w)
  have HC := hid (fun o => clone_f xs ao ac (w.alloc o) (hx.later int_stays (below1 w o)) hl)
  have HIN := hid (fun o => hx.later int_stays (below1 w o))
  clear hx hl
  by_cases h15 : op = 15
  · subst h15
    go_enter Tryd.func23, Tryd.ntmps23
    go_wp2_with (go_at_call 42; refine (HC.out _).mono ?_; rintro e w1 ⟨u, rfl, hu, hb⟩)
    go_ret
    exact ⟨_, rfl, hid (by rw [show rdsF ⟨15, d, a, b, tt, el, f, n, l, c, sg, xs, ms⟩ = xs from rfl]; exact hu.out), hid (after (HB1.out _) hb.out (HB1.out _).size)⟩
  · clear HC HIN
    rcases hr1 : rd1 op with - | -
    · have hr2 : rd2 op = false := by
        cases h2 : rd2 op
        · rfl
        · exfalso
          simp only [rd2, rd2L, List.any_cons, List.any_nil, Bool.or_false, Bool.or_eq_true, beq_iff_eq] at h2
          rcases h2 with h | h | h <;> (subst h; exact absurd hr1 (by decide))
      have HE : Hid (rdsF ⟨op, d, a, b, tt, el, f, n, l, c, sg, xs, ms⟩ = []) := hid (by unfold rdsF; simp only [if_neg h15, hr1, hr2]; rfl)
      have f15 : (op == 15) = false := by simp [h15]
      simp only [rd1, rdL, List.any_cons, List.any_nil, Bool.or_eq_false_iff] at hr1
      obtain ⟨h3, h4, h6, h7, h8, h9, h10, h11, h13, h14, h17, h18, -⟩ := hr1
      have ff : ∀ {k : Int}, (k == op) = false → (op == k) = false := fun h => by simp at h ⊢; omega
      have g3 := ff h3
      have g4 := ff h4
      have g6 := ff h6
      have g7 := ff h7
      have g8 := ff h8
      have g9 := ff h9
      have g10 := ff h10
      have g11 := ff h11
      have g13 := ff h13
      have g14 := ff h14
      have g17 := ff h17
      have g18 := ff h18
      clear h3 h4 h6 h7 h8 h9 h10 h11 h13 h14 h17 h18 hr2
      go_enter Tryd.func23, Tryd.ntmps23
      go_wp2
      go_ret
      exact ⟨_, rfl, hid (by rw [HE.out]; exact ints_nil _), hid (HB1.out _)⟩
    · simp only [rd1, rdL, List.any_cons, List.any_nil, Bool.or_eq_true, beq_iff_eq, Bool.false_eq_true, or_false] at hr1
      clear h15
      rcases hr1 with rfl | rfl | rfl | rfl | rfl | rfl | rfl | rfl | rfl | rfl | rfl | rfl
      all_goals
        go_enter Tryd.func23, Tryd.ntmps23
        go_wp2
        go_ret
        first
          | exact ⟨_, rfl, hid (show IsInts _ _ [a] from new_ints _ _ [a] _ rfl 1 rfl (by simp)), hid (HB2.out _ _)⟩
          | exact ⟨_, rfl, hid (show IsInts _ _ [a, b] from new_ints _ _ [a, b] _ rfl 2 rfl (by simp)), hid (HB2.out _ _)⟩
end Go.Proofs.YtlbcinanpnjjjaaDoor
