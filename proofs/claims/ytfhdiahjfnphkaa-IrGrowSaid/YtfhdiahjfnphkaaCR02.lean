/- The parts of Right, of the chapter's example and of an empty module. No conditions. -/
import Derived.Test.YtfhdiahjfnphkaaCR01
namespace Go.Proofs.Ytfhdiahjfnphkaa
open Go.RowKit Go.Maps
set_option linter.unusedVariables false
set_option linter.unusedSimpArgs false
theorem after {n : Nat} {w w1 w2 : World} (h : Below n w w1) (h2 : Below w1.heap.size w1 w2) (hn : n ≤ w1.heap.size) : Below n w w2 := h.trans (h2.mono hn)
theorem below1 (w : World) (o : Obj) : Below w.heap.size w (w.alloc o) := (Below.refl _ _).alloc (Nat.le_refl _) _
theorem below2 (w : World) (o p : Obj) : Below w.heap.size w ((w.alloc o).alloc p) := (below1 w o).alloc (by simp) _
theorem mainEq : (mainS.toList == [109, 97, 105, 110]) = true := by rw [ByteArray.toList_eq]; rfl
theorem ix_code1 (w : World) (V I F b : Nat) (hS : Small w V I F) (hb : w.heap[b]? = some (.cells #[.string mainS] 9 (0, 0))) : Calls Try.prog 30 #[.slice (some ⟨F, 0, none⟩) 1 1, .func (.func 31) #[] #[.pointer (some ⟨b, 0, none⟩)]] w fun e w' => e = .returned (.int .i64 0) ∧ Hid (Below w.heap.size w w') := by
  have hc := cells_at hS.f
  have HB := hid hb
  clear hb hS
  go_enter Try.func30, Try.ntmps30
  go_wp2
  go_loopg [8] 0 (fun gk v8 wr => gk = 0 ∧ v8 = .int .i64 0 ∧ wr = w)
  case atStart => exact ⟨rfl, rfl, rfl⟩
  case round =>
    obtain ⟨rfl, rfl, rfl⟩ := hrel
    go_wp2_with (first | (go_at_call 31; refine (isMain_i _ _ _ _ _ _ _ _ _ true _ HB.out mainEq).mono ?_; rintro e w2 ⟨rfl, hb2⟩))
    go_ret
    exact ⟨rfl, hb2⟩
theorem ix_code0 (w : World) (c : Value) : Calls Try.prog 30 #[n0, .func (.func 31) #[] #[c]] w fun e w' => e = .returned (.int .i64 (-1)) ∧ Hid (Below w.heap.size w w') := by
  go_enter Try.func30, Try.ntmps30
  go_wp2
  go_loopg [8] 0 (fun gk v8 wr => gk = 0 ∧ v8 = .int .i64 0 ∧ wr = w)
  case atStart => exact ⟨rfl, rfl, rfl⟩
  case round =>
    obtain ⟨rfl, rfl, rfl⟩ := hrel
    go_wp2
    go_ret
    exact ⟨rfl, hid (Below.refl _ _)⟩
theorem func_s (w : World) (V I F : Nat) (hS : Small w V I F) : Calls Try.prog 12 #[smallV F, .string mainS] w fun e w' => e = .returned (.int .i64 0) ∧ Hid (Below w.heap.size w w') := by
  have HS := hid (hS.below (below2 w (.cells #[n0, .slice (some ⟨F, 0, none⟩) 1 1] 25) (.cells #[.string mainS] 9)))
  have HB := hid (below2 w (.cells #[n0, .slice (some ⟨F, 0, none⟩) 1 1] 25) (.cells #[.string mainS] 9))
  have hn := heap_alloc_new (w.alloc (.cells #[n0, .slice (some ⟨F, 0, none⟩) 1 1] 25)) (.cells #[.string mainS] 9)
  rw [World.size_alloc] at hn
  clear hS
  go_enter Try.func12, Try.ntmps12
  go_wp2_with (first | (go_at_call 30; refine (ix_code1 _ _ _ _ _ HS.out hn).mono ?_; rintro e w2 ⟨rfl, hb2⟩))
  go_ret
  exact ⟨rfl, hid (after HB.out hb2.out HB.out.size)⟩
theorem func_e (w : World) : Calls Try.prog 12 #[.agg #[n0, n0], .string mainS] w fun e w' => e = .returned (.int .i64 (-1)) ∧ Hid (Below w.heap.size w w') := by
  have HB := hid (below2 w (.cells #[n0, n0] 25) (.cells #[.string mainS] 9))
  go_enter Try.func12, Try.ntmps12
  go_wp2_with (first | (go_at_call 30; refine (ix_code0 _ _).mono ?_; rintro e w2 ⟨rfl, hb2⟩))
  go_ret
  exact ⟨rfl, hid (after HB.out hb2.out HB.out.size)⟩
theorem twice_s (w : World) (V I F : Nat) (hS : Small w V I F) : Calls Try.prog 34 #[smallV F] w fun e w' => e = .returned (.bool false) ∧ Hid (Below w.heap.size w w') := by
  have HB := hid (below1 w (.cells #[n0, .slice (some ⟨F, 0, none⟩) 1 1] 25))
  have hn := heap_alloc_new w (.cells #[n0, .slice (some ⟨F, 0, none⟩) 1 1] 25)
  have hc := cells_at hn
  have HS := hid (hS.below HB.out)
  clear hS
  go_enter Try.func34, Try.ntmps34
  go_wp2
  obtain ⟨W1, hW1⟩ : ∃ W1, w.alloc (.cells #[n0, .slice (some ⟨F, 0, none⟩) 1 1] 25) = W1 := ⟨_, rfl⟩
  obtain ⟨B, hB⟩ : ∃ B, Hid (w.heap.size = B) := ⟨_, hid rfl⟩
  rw [hW1] at hn hc HB HS ⊢
  rw [hB.out] at hc hn ⊢
  clear hW1
  go_loopg [8] 0 (fun gk v8 wr => gk = 0 ∧ v8 = .int .i64 0 ∧ wr = W1)
  case atStart => exact ⟨rfl, rfl, rfl⟩
  case round =>
    obtain ⟨rfl, rfl, rfl⟩ := hrel
    go_wp2_with (first
      | (go_at_call 45; refine (rep_struct0 _).mono ?_; rintro e w2 ⟨rfl, hb2⟩; have hc2 := cells_at (old_block hb2.out (Array.getElem?_eq_some_iff.1 hn).1 hn); have HS2 := hid (HS.out.below hb2.out))
      | (go_at_call 47; refine (rep_code1 _ _ _ _ HS2.out).mono ?_; rintro e w3 ⟨rfl, hb3⟩))
    go_ret
    exact ⟨rfl, hid (after HB.out (after hb2.out hb3.out hb2.out.size) HB.out.size)⟩
theorem twice_e (w : World) : Calls Try.prog 34 #[.agg #[n0, n0]] w fun e w' => e = .returned (.bool false) ∧ Hid (Below w.heap.size w w') := by
  have HB := hid (below1 w (.cells #[n0, n0] 25))
  have hn := heap_alloc_new w (.cells #[n0, n0] 25)
  have hc := cells_at hn
  go_enter Try.func34, Try.ntmps34
  go_wp2
  obtain ⟨W1, hW1⟩ : ∃ W1, w.alloc (.cells #[n0, n0] 25) = W1 := ⟨_, rfl⟩
  obtain ⟨B, hB⟩ : ∃ B, Hid (w.heap.size = B) := ⟨_, hid rfl⟩
  rw [hW1] at hn hc HB ⊢
  rw [hB.out] at hc hn ⊢
  clear hW1
  go_loopg [8] 0 (fun gk v8 wr => gk = 0 ∧ v8 = .int .i64 0 ∧ wr = W1)
  case atStart => exact ⟨rfl, rfl, rfl⟩
  case round =>
    obtain ⟨rfl, rfl, rfl⟩ := hrel
    go_wp2_with (first
      | (go_at_call 45; refine (rep_struct0 _).mono ?_; rintro e w2 ⟨rfl, hb2⟩; have hc2 := cells_at (old_block hb2.out (Array.getElem?_eq_some_iff.1 hn).1 hn))
      | (go_at_call 47; refine (rep_code0 _).mono ?_; rintro e w3 ⟨rfl, hb3⟩))
    go_ret
    exact ⟨rfl, hid (after HB.out (after hb2.out hb3.out hb2.out.size) HB.out.size)⟩
end Go.Proofs.Ytfhdiahjfnphkaa
