/- The judge on the chapter's example. No conditions. -/
import Derived.Test.YtfhdiahjfnphkaaIrB
import Derived.Deep.RegionWith
import Derived.Laws.StructEq
namespace Go.Proofs.Ytfhdiahjfnphkaa
open Go.RowKit Go.Maps
set_option linter.unusedVariables false
set_option linter.unusedSimpArgs false
abbrev jobj0 (F B : Nat) : Array Value := #[n0, .slice (some ⟨F, 0, none⟩) 1 1, .map (some B), s0, i0, n0, .bool false, s0, i0, n0, n0]
abbrev jobj1 (V I F B : Nat) : Array Value := #[n0, .slice (some ⟨F, 0, none⟩) 1 1, .map (some B), .string mainS, i0, .slice (some ⟨V, 0, none⟩) 1 1, .bool false, s0, i0, n0, .slice (some ⟨I, 0, none⟩) 2 2]
abbrev ins1 : Value := .agg #[.int .i64 1, i0, i0, i0, i0, .int .i64 7, s0, n0, n0, i0, i0, i0, i0]
abbrev ins2 : Value := .agg #[.int .i64 18, i0, i0, i0, i0, i0, s0, n0, n0, i0, i0, i0, i0]
structure Judge (w : World) (V I F B J : Nat) : Prop where
  s : Small w V I F
  j : w.heap[J]? = some (.cells (jobj1 V I F B) 70 (0, 0))
theorem Judge.below {w W : World} {V I F B J : Nat} (h : Judge w V I F B J) (hb : Below w.heap.size w W) : Judge W V I F B J :=
  ⟨h.s.below hb, old_block hb (Array.getElem?_eq_some_iff.1 h.j).1 h.j⟩
theorem Judge.drew {w : World} {V I F B J : Nat} (h : Judge w V I F B J) : Judge w.drew V I F B J := ⟨⟨h.s.v, h.s.i, h.s.f⟩, h.j⟩
theorem asks1 (w : World) (p : Value) : Calls Try.prog 50 #[p, .int .i64 1] w fun e w' => e = .returned (.func (.func 58) #[p] #[]) ∧ w' = w := by
  go_enter Try.func50, Try.ntmps50
  go_wp2
  go_ret
  exact ⟨rfl, rfl⟩
theorem asks18 (w : World) (p : Value) : Calls Try.prog 50 #[p, .int .i64 18] w fun e w' => e = .returned (.func (.func 70) #[p] #[]) ∧ w' = w := by
  go_enter Try.func50, Try.ntmps50
  go_wp2
  go_ret
  exact ⟨rfl, rfl⟩
theorem there_i (w : World) (V I F B J b : Nat) (hj : Judge w V I F B J) (hb : w.cell? ⟨b, 0, none⟩ = some i0) : Calls Try.prog 74 #[.pointer (some ⟨J, 0, none⟩), .slice (some ⟨b, 0, none⟩) 1 1] w fun e w' => e = .returned (.bool true) ∧ w' = w := by
  have hc := cells_at hj.j
  clear hj
  go_enter Try.func74, Try.ntmps74
  go_wp2
  go_loopg [9] 1 (fun gk v9 wr => ∃ k : Nat, k ≤ 1 ∧ gk = 1 - k ∧ v9 = .int .i64 k ∧ wr = w)
  case atStart => exact ⟨0, by omega, rfl, rfl, rfl⟩
  case round =>
    obtain ⟨k, hk, rfl, rfl, rfl⟩ := hrel
    by_cases hlt : k < 1
    · obtain rfl : k = 0 := by omega
      clear hlt hk
      go_wp2
      all_goals go_roundg (1 - (0 + 1))
      case measure => omega
      case rel => exact ⟨1, by omega, rfl, rfl, rfl⟩
    · obtain rfl : k = 1 := by omega
      clear hlt hk
      go_wp2
      go_ret
      exact ⟨rfl, rfl⟩
theorem kind_i (w : World) (V I F B J : Nat) (hj : Judge w V I F B J) : Calls Try.prog 76 #[.pointer (some ⟨J, 0, none⟩), i0] w fun e w' => e = .returned (.agg #[.bool false, s0]) ∧ Hid (Below w.heap.size w w') := by
  have hc := fun o => cells_at1 hj.j o
  have hv := fun o => cells_at1 hj.s.v o
  have HB := hid (below1 w (.cells #[.bool false, s0] 31))
  have hlt := hid (Array.getElem?_eq_some_iff.1 hj.j).1
  clear hj
  go_enter Try.func76, Try.ntmps76
  go_wp2
  exact bodyPost_ret (v := .agg #[.bool false, s0]) (by simp [results, Try.results76, go_sem]) rfl ⟨rfl, HB⟩
theorem mistyped0 (w : World) : Calls Try.prog 75 #[.bool false] w fun e w' => e = .returned i0 ∧ w' = w := by
  go_enter Try.func75, Try.ntmps75
  go_wp2
  go_ret
  exact ⟨rfl, rfl⟩
theorem new_cell (w : World) (o : Obj) (v : Value) (t : TypeId) : ((w.alloc o).alloc (.cells #[v] t)).cell? ⟨w.heap.size + 1, 0, none⟩ = some v := by
  have := heap_alloc_new (w.alloc o) (.cells #[v] t)
  rw [World.size_alloc] at this
  exact cells_at this 0
theorem number_i (w : World) (V I F B J : Nat) (hj : Judge w V I F B J) : Calls Try.prog 58 #[.pointer (some ⟨J, 0, none⟩), ins1] w fun e w' => e = .returned i0 ∧ Hid (Below w.heap.size w w') := by
  have HJ := hid (fun o p => hj.below (below2 w o p))
  have HB := hid (below2 w)
  have hfd : ∀ w : World, (Instr.field 31 (.agg #[.bool false, s0]) 0).run Try.prog w = .ok (.bool false) w := fun _ => by kernel_rfl
  clear hj
  go_enter Try.func58, Try.ntmps58
  go_wp2_with (first
    | (go_at_call 74; refine (there_i _ _ _ _ _ _ _ (HJ.out _ _) (new_cell _ _ _ _)).mono ?_; rintro e w' ⟨rfl, rfl⟩)
    | (go_at_call 76; refine (kind_i _ _ _ _ _ _ (HJ.out _ _)).mono ?_; rintro e w1 ⟨rfl, hb1⟩)
    | (go_at_call 75; refine (mistyped0 _).mono ?_; rintro e w' ⟨rfl, rfl⟩))
  go_ret
  exact ⟨rfl, hid (after (HB.out _ _) hb1.out (HB.out _ _).size)⟩
set_option maxHeartbeats 4000000 in
theorem ret_i (w : World) (V I F B J : Nat) (hj : Judge w V I F B J) : Calls Try.prog 70 #[.pointer (some ⟨J, 0, none⟩), ins2] w fun e w' => e = .returned i0 ∧ Hid (Below w.heap.size w w') := by
  have HJ := hid (fun o p => hj.below (below2 w o p))
  have HB := hid (below2 w)
  have hc := fun o p => cells_at2 hj.j o p
  clear hj
  go_enter Try.func70, Try.ntmps70
  go_wp2_with (first
    | (go_at_call 74; refine (there_i _ _ _ _ _ _ _ (HJ.out _ _) (new_cell _ _ _ _)).mono ?_; rintro e w' ⟨rfl, rfl⟩))
  go_region_with (first
    | (go_at_call 76; refine (kind_i _ _ _ _ _ _ (HJ.out _ _).drew).mono ?_; rintro e w1 ⟨rfl, hb1⟩; have hc1 := cells_at ((HJ.out _ _).drew.below hb1.out).j)
    | (go_at_call 75; refine (mistyped0 _).mono ?_; rintro e w' ⟨rfl, rfl⟩))
  all_goals go_wp2
  all_goals go_ret
  all_goals exact ⟨rfl, hid (after (HB.out _ _).drew hb1.out (HB.out _ _).size)⟩
end Go.Proofs.Ytfhdiahjfnphkaa
