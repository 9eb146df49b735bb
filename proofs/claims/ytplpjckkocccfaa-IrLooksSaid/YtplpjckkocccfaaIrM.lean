/- The word of an operation, by both. No conditions. -/
import Derived.Test.YtplpjckkocccfaaIrI
namespace Go.Proofs.Ytplpjckkocccfaa
open Go.RowKit Go.Maps
set_option linter.unusedVariables false
set_option linter.unusedSimpArgs false
def wordAt (op : Int) : Value := wordsA[op.toNat]?.getD undef
def wordR (op : Int) : Value := if 1 ≤ op ∧ op ≤ 18 then wordAt op else s0
theorem wordA_at {op : Int} (h0 : 0 ≤ op) (h1 : op < 19) : wordsA[op.toNat]? = some (wordAt op) := by
  unfold wordAt
  have : op.toNat < wordsA.size := by show op.toNat < 19; omega
  rw [Array.getElem?_eq_getElem this]; rfl
theorem wordR_0 : wordAt 0 = wordR 0 := rfl
theorem wordR_in {op : Int} (h0 : 0 ≤ op) (h1 : op < 19) : wordAt op = wordR op := by
  by_cases h : 1 ≤ op
  · simp [wordR, h, show op ≤ 18 by omega]
  · obtain rfl : op = 0 := by omega
    rfl
theorem wordR_out {op : Int} (h : ¬ (1 ≤ op ∧ op ≤ 18)) : s0 = wordR op := by simp [wordR, h]
set_option maxHeartbeats 4000000 in
theorem word_i (op : Int) (w : World) : Calls Try.prog 13 #[.int .i64 op] w fun e w' => e = .returned (wordR op) ∧ Hid (Below w.heap.size w w') := by
  have hbu := words_built
  have HT := hid (table_new w)
  by_cases h : 0 ≤ op ∧ op < 19
  · have hc : ∀ zs, ((w.alloc (.cells zs 58)).setRow w.heap.size wordsA).cell? ⟨w.heap.size, op.toNat, none⟩ = some (wordAt op) := fun zs => (cells_at (table_new w zs wordsA).2 _).trans (wordA_at h.1 h.2)
    rw [← wordR_in h.1 h.2]
    obtain ⟨v, hv⟩ : ∃ v, wordAt op = v := ⟨_, rfl⟩
    rw [hv] at hc ⊢
    have g0 : ¬ op < 0 := by omega
    have g1 : ¬ 19 ≤ op := by omega
    have g2 : 0 ≤ op := h.1
    have g3 : op < 19 := h.2
    clear h hv
    go_enter Try.func13, Try.ntmps13
    go_wp2_with ((with_reducible guard_target =~ wpList Try.prog _ _ ({ dst := none, op := Op.store 58 (Operand.tmp 3) (Operand.tmp 4), type := 0, pos := _, after := _, guard := none } :: _) _ _); go_must (refine wpList_store_row rfl 58 _ _ rfl w.heap.size wordsA rfl rfl 58 _ (heap_alloc_new w _) (by kernel_rfl) (by kernel_rfl) (by kernel_rfl) ?_))
    go_ret
    exact ⟨rfl, hid (HT.out _ _).1⟩
  · rw [← wordR_out (by omega)]
    clear hbu
    have hbu := words_built
    by_cases h0 : op < 0
    · clear h
      go_enter Try.func13, Try.ntmps13
      go_wp2_with ((with_reducible guard_target =~ wpList Try.prog _ _ ({ dst := none, op := Op.store 58 (Operand.tmp 3) (Operand.tmp 4), type := 0, pos := _, after := _, guard := none } :: _) _ _); go_must (refine wpList_store_row rfl 58 _ _ rfl w.heap.size wordsA rfl rfl 58 _ (heap_alloc_new w _) (by kernel_rfl) (by kernel_rfl) (by kernel_rfl) ?_))
      go_ret
      exact ⟨rfl, hid (HT.out _ _).1⟩
    · have g1 : 19 ≤ op := by omega
      clear h
      go_enter Try.func13, Try.ntmps13
      go_wp2_with ((with_reducible guard_target =~ wpList Try.prog _ _ ({ dst := none, op := Op.store 58 (Operand.tmp 3) (Operand.tmp 4), type := 0, pos := _, after := _, guard := none } :: _) _ _); go_must (refine wpList_store_row rfl 58 _ _ rfl w.heap.size wordsA rfl rfl 58 _ (heap_alloc_new w _) (by kernel_rfl) (by kernel_rfl) (by kernel_rfl) ?_))
      go_ret
      exact ⟨rfl, hid (HT.out _ _).1⟩
abbrev rwordsA : Array Value := #[.string ⟨#[110, 117, 109]⟩, .string ⟨#[110, 117, 108, 108]⟩, .string ⟨#[99, 111, 112, 121]⟩, .string ⟨#[98, 105, 110]⟩, .string ⟨#[103, 101, 116]⟩, .string ⟨#[112, 117, 116]⟩, .string ⟨#[108, 111, 97, 100]⟩, .string ⟨#[115, 116, 111, 114, 101]⟩, .string ⟨#[103, 105, 118, 101]⟩, .string ⟨#[116, 97, 107, 101]⟩, .string ⟨#[115, 101, 116]⟩, .string ⟨#[110, 101, 119]⟩, .string ⟨#[102, 114, 101, 101]⟩, .string ⟨#[105, 115, 110, 117, 108, 108]⟩, .string ⟨#[99, 97, 108, 108]⟩, .string ⟨#[106, 117, 109, 112]⟩, .string ⟨#[98, 114, 97, 110, 99, 104]⟩, .string ⟨#[114, 101, 116]⟩]
theorem rword_at {op : Int} (h0 : 1 ≤ op) (h1 : op ≤ 18) : rwordsA[(op - 1).toNat]? = some (wordAt op) := by
  have : op = 1 ∨ op = 2 ∨ op = 3 ∨ op = 4 ∨ op = 5 ∨ op = 6 ∨ op = 7 ∨ op = 8 ∨ op = 9 ∨ op = 10 ∨ op = 11 ∨ op = 12 ∨ op = 13 ∨ op = 14 ∨ op = 15 ∨ op = 16 ∨ op = 17 ∨ op = 18 := by omega
  rcases this with rfl | rfl | rfl | rfl | rfl | rfl | rfl | rfl | rfl | rfl | rfl | rfl | rfl | rfl | rfl | rfl | rfl | rfl <;> rfl
theorem rwords_i (w : World) : Calls Try.prog 22 #[] w fun e w' => e = .returned (.slice (some ⟨w.heap.size, 0, none⟩) 18 18) ∧ w' = w.alloc (.cells rwordsA 9) := by
  go_enter Try.func22, Try.ntmps22
  go_wp2
  go_ret
  exact ⟨rfl, rfl⟩
theorem rword_i (op : Int) (w : World) : Calls Try.prog 14 #[.int .i64 op] w fun e w' => e = .returned (wordR op) ∧ Hid (Below w.heap.size w w') := by
  by_cases h : 1 ≤ op ∧ op ≤ 18
  · have hw : wordR op = wordAt op := by simp [wordR, h]
    have hc : (w.alloc (.cells rwordsA 9)).cell? ⟨w.heap.size, op.toNat - 1, none⟩ = some (wordAt op) := (cells_at (heap_alloc_new w _) _).trans (show rwordsA[op.toNat - 1]? = some (wordAt op) from (show (op - 1).toNat = op.toNat - 1 by omega) ▸ rword_at h.1 h.2)
    rw [hw]
    obtain ⟨v, hv⟩ : ∃ v, wordAt op = v := ⟨_, rfl⟩
    rw [hv] at hc ⊢
    have g0 : ¬ op < 1 := by omega
    have g1 : ¬ 18 < op := by omega
    have g2 : 0 ≤ op - 1 := by omega
    have g3 : op - 1 < 18 := by omega
    have HB := hid (below1 w (.cells rwordsA 9))
    clear h hv hw
    go_enter Try.func14, Try.ntmps14
    go_wp2_with (go_at_call 22; refine (rwords_i _).mono ?_; rintro e w' ⟨rfl, rfl⟩)
    go_ret
    exact ⟨rfl, HB⟩
  · rw [← wordR_out h]
    by_cases h0 : op < 1
    · clear h
      go_enter Try.func14, Try.ntmps14
      go_wp2
      go_ret
      exact ⟨rfl, hid (Below.refl _ _)⟩
    · have g1 : 18 < op := by omega
      clear h
      go_enter Try.func14, Try.ntmps14
      go_wp2
      go_ret
      exact ⟨rfl, hid (Below.refl _ _)⟩
end Go.Proofs.Ytplpjckkocccfaa
