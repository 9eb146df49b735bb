/- A builder's formula. Conditions: at most 200000 clauses of at most 200000 numbers. -/
import Derived.Test.YtkmcdbkdlalhdaaCnfO
namespace Go.Proofs.Ytkmcdbkdlalhdaa
open Go.RowKit Go.Maps Go.Lib Go.Sort
set_option linter.unusedVariables false
set_option linter.unusedSimpArgs false
/-- What a call that hands back a formula leaves. -/
def FormPost (w : World) (N : Int) (ls : List (List Int)) (e : Ending) (w' : World) : Prop := ∃ A' n' c', e = .returned (form N A' n' c') ∧ Hid (OwnL w' w.heap.size A' n' c' ls) ∧ Hid (Below w.heap.size w w')
set_option maxHeartbeats 1000000 in
theorem formula_i (base g n c : Nat) (N : Int) (A : Option Addr) (ls : List (List Int)) (w : World) (h : Bld w base g N A n c ls) (hl : n ≤ 200000) (hs : Short ls) :
    Calls Try.prog 24 #[bldP g] w (FormPost w N ls) := by
  have HB1 := hid (below1 w (.cells #[.int .i64 0, .slice none 0 0] 29))
  have HX := hid (heap_alloc_new w (.cells #[.int .i64 0, .slice none 0 0] 29))
  have hx0 := cells_at h.box
  have hx1 := cells_at (h.below HB1.out).box
  have HL := hid (h.row.lists.below HB1.out)
  have HC := hid (copied_i N ls A n c w.heap.size (w.alloc (.cells #[.int .i64 0, .slice none 0 0] 29)).drew HB1.out.size (HL.out.below (below_drew1' _ _)) hl hs)
  obtain ⟨Q, HQ⟩ : ∃ Q : Ending → World → Prop, Hid (Q = FormPost w N ls) := ⟨_, hid rfl⟩
  rw [← HQ.out]
  clear h
  go_enter Try.func24, Try.ntmps24
  go_wp2
  go_region_law (
    go_simp
    go_at_call 33
    refine HC.out.mono ?_
    rintro e w2 ⟨A2, c2, rfl, HO2, HB2⟩
    have HX2 := hid (old_block HB2.out (by simp) HX.out)
    have hy2 := cells_at HX2.out
    have hf2 := frozen_no HX2.out)
  all_goals
    have HR := put2_heap (.int .i64 N) (.slice A2 n c2) HX2.out
    have HO3 := HO2.out.put2 HX2.out (by decide) (by decide) (.int .i64 N) (.slice A2 n c2)
    have HW : Below w.heap.size w w2 := after (after HB1.out (below_drew1 _) HB1.out.size) HB2.out (Nat.le_trans HB1.out.size (Nat.le_refl _))
    clear hy2 hf2 hx0 hx1
    go_wp2
    refine bodyPost_ret (v := form N A2 n c2) (res29 Try.results24 rfl HR) rfl ?_
    rw [HQ.out]
    exact ⟨A2, n, c2, rfl, hid (HO3.low HB1.out.size), hid (put2_below _ _ HW (Nat.le_refl _))⟩
theorem formula_nil (w : World) : Calls Try.prog 24 #[.pointer none] w (FormPost w 0 []) := by
  have HB1 := hid (below1 w (.cells #[.int .i64 0, .slice none 0 0] 29))
  have HX := hid (heap_alloc_new w (.cells #[.int .i64 0, .slice none 0 0] 29))
  obtain ⟨Q, HQ⟩ : ∃ Q : Ending → World → Prop, Hid (Q = FormPost w 0 []) := ⟨_, hid rfl⟩
  rw [← HQ.out]
  go_enter Try.func24, Try.ntmps24
  go_wp2
  refine bodyPost_ret (v := form 0 none 0 0) (res29 Try.results24 rfl HX.out) rfl ?_
  rw [HQ.out]
  exact ⟨none, 0, 0, rfl, hid (OwnL.nil _ _), HB1⟩
end Go.Proofs.Ytkmcdbkdlalhdaa
