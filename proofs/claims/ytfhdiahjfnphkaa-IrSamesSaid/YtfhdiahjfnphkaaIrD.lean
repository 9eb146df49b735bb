/- A function of the chapter's example, judged. No conditions. -/
import Derived.Test.YtfhdiahjfnphkaaIrC
import Derived.WalkMore
namespace Go.Proofs.Ytfhdiahjfnphkaa
open Go.RowKit Go.Maps
set_option linter.unusedVariables false
set_option linter.unusedSimpArgs false
abbrev code1 (V I : Nat) : Value := .agg (codeObj V I)
structure Wrote (J : Nat) (vs : Array Value) (w W : World) : Prop where
  here : W.heap[J]? = some (.cells vs 70 (0, 0))
  below : Below J w W
  size : W.heap.size = w.heap.size
  block : ∀ k, k ≠ J → W.heap[k]? = w.heap[k]?
theorem Wrote.set {J : Nat} {vs : Array Value} {w W : World} (h : Wrote J vs w W) (i : Nat) (v : Value) : Wrote J (vs.setIfInBounds i v) w (W.setCell ⟨J, i, none⟩ v) := by
  refine ⟨?_, h.below.setCell (Nat.le_refl _) v, by rw [← h.size]; simp [World.setCell], fun k hk => (Below.heap_setCell _ _ _ _ hk).trans (h.block k hk)⟩
  have := h.here
  simp only [World.setCell, Array.getElem?_modify]
  simp [this]
theorem cast_w {J : Nat} {vs vs' : Array Value} {w W : World} (e : vs = vs') (h : Wrote J vs w W) : Wrote J vs' w W := e ▸ h
theorem frozen_no {W : World} {k t : Nat} {vs : Array Value} (h : W.heap[k]? = some (.cells vs t (0, 0))) (i : Nat) : W.frozen? ⟨k, i, none⟩ = false := by
  simp [World.frozen?, h]
abbrev stored (W : World) (V I J : Nat) : World := (((((((W.setCell ⟨J, 3, none⟩ (.string mainS)).setCell ⟨J, 4, none⟩ (.int .i64 0)).setCell ⟨J, 5, none⟩ (.slice (some ⟨V, 0, none⟩) 1 1)).setCell ⟨J, 6, none⟩ (.bool false)).setCell ⟨J, 7, none⟩ (.string ⟨#[]⟩)).setCell ⟨J, 8, none⟩ (.int .i64 0)).setCell ⟨J, 9, none⟩ (.slice none 0 0)).setCell ⟨J, 10, none⟩ (.slice (some ⟨I, 0, none⟩) 2 2)
theorem stored_wrote (W : World) (V I F B J : Nat) (h : W.heap[J]? = some (.cells (jobj0 F B) 70 (0, 0))) : Wrote J (jobj1 V I F B) W (stored W V I J) := by
  have h0 : Wrote J (jobj0 F B) W W := ⟨h, Below.refl _ _, rfl, fun _ _ => rfl⟩
  have h1 := h0.set 3 (.string mainS)
  have h2 := h1.set 4 (.int .i64 0)
  have h3 := h2.set 5 (.slice (some ⟨V, 0, none⟩) 1 1)
  have h4 := h3.set 6 (.bool false)
  have h5 := h4.set 7 (.string ⟨#[]⟩)
  have h6 := h5.set 8 (.int .i64 0)
  have h7 := h6.set 9 (.slice none 0 0)
  have h8 := h7.set 10 (.slice (some ⟨I, 0, none⟩) 2 2)
  clear h0 h1 h2 h3 h4 h5 h6 h7 h
  have e : ((((((((jobj0 F B).setIfInBounds 3 (.string mainS)).setIfInBounds 4 (.int .i64 0)).setIfInBounds 5 (.slice (some ⟨V, 0, none⟩) 1 1)).setIfInBounds 6 (.bool false)).setIfInBounds 7 (.string ⟨#[]⟩)).setIfInBounds 8 (.int .i64 0)).setIfInBounds 9 (.slice none 0 0)).setIfInBounds 10 (.slice (some ⟨I, 0, none⟩) 2 2) = jobj1 V I F B := by simp [jobj0, jobj1]
  rw [e] at h8
  exact h8
structure CodeSt (w : World) (V I F B J N : Nat) (wr : World) : Prop where
  below : Below J w wr
  judge : Judge wr V I F B J
  box : wr.heap[N]? = some (.cells (codeObj V I) 37 (0, 0))
  big : J ≤ wr.heap.size
  size : w.heap.size ≤ wr.heap.size
  keep : ∀ k, k ≠ J → k < w.heap.size → wr.heap[k]? = w.heap[k]?
theorem CodeSt.step {w : World} {V I F B J N : Nat} {wr W : World} (h : CodeSt w V I F B J N wr) (hb : Below wr.heap.size wr W) : CodeSt w V I F B J N W :=
  ⟨h.below.trans (hb.mono h.big), h.judge.below hb, old_block hb (Array.getElem?_eq_some_iff.1 h.box).1 h.box, Nat.le_trans h.big hb.size, Nat.le_trans h.size hb.size,
    fun k hk hlt => (hb.block k (Nat.lt_of_lt_of_le hlt h.size)).trans (h.keep k hk hlt)⟩
theorem code_start (w : World) (V I F B J : Nat) (hS : Small w V I F) (hJ : w.heap[J]? = some (.cells (jobj0 F B) 70 (0, 0))) (hV : V < J) (hI : I < J) (hF : F < J) :
    CodeSt w V I F B J w.heap.size (stored (w.alloc (.cells (codeObj V I) 37)) V I J) := by
  have hlt := (Array.getElem?_eq_some_iff.1 hJ).1
  have b1 := below1 w (.cells (codeObj V I) 37)
  have hw := stored_wrote (w.alloc (.cells (codeObj V I) 37)) V I F B J (old_block b1 hlt hJ)
  have hs := hS.below b1
  refine ⟨(b1.mono (Nat.le_of_lt hlt)).trans hw.below, ⟨⟨(hw.block _ (by omega)).trans hs.v, (hw.block _ (by omega)).trans hs.i, (hw.block _ (by omega)).trans hs.f⟩, hw.here⟩, (hw.block _ (by omega)).trans (heap_alloc_new w _), ?_, ?_, fun k hk hl => (hw.block _ hk).trans (Below.heap_alloc _ _ _ hl)⟩
  · rw [hw.size, World.size_alloc]; omega
  · rw [hw.size, World.size_alloc]; omega
set_option maxRecDepth 100000 in
set_option maxHeartbeats 4000000 in
theorem code_i (w : World) (V I F B J : Nat) (hS : Small w V I F) (hJ : w.heap[J]? = some (.cells (jobj0 F B) 70 (0, 0))) (hV : V < J) (hI : I < J) (hF : F < J) :
    Calls Try.prog 36 #[.pointer (some ⟨J, 0, none⟩), code1 V I] w fun e w' => e = .returned i0 ∧ Hid (Below J w w') ∧ Hid (w.heap.size ≤ w'.heap.size ∧ ∀ k, k ≠ J → k < w.heap.size → w'.heap[k]? = w.heap[k]?) := by
  have hfz := frozen_no (old_block (below1 w (.cells (codeObj V I) 37)) (Array.getElem?_eq_some_iff.1 hJ).1 hJ)
  have hc := cells_at1 hJ (.cells (codeObj V I) 37)
  have HC := hid (code_start w V I F B J hS hJ hV hI hF)
  clear hS hJ hV hI hF
  go_enter Try.func36, Try.ntmps36
  go_wp2
  go_step3
  go_wp2
  obtain ⟨W2, hW2⟩ : ∃ W2, stored (w.alloc (.cells (codeObj V I) 37)) V I J = W2 := ⟨_, rfl⟩
  obtain ⟨N, hN⟩ : ∃ N, Hid (w.heap.size = N) := ⟨_, hid rfl⟩
  rw [hW2] at HC
  simp only [stored] at hW2
  rw [hW2]
  rw [hN.out] at HC ⊢
  clear hW2 hc hfz
  have hc := cells_at HC.out.box
  go_step3
  go_wp2
  clear hc
  go_loopg [5, 45] 2 (fun gk v5 v45 wr => ∃ k : Nat, k ≤ 2 ∧ gk = 2 - k ∧ v45 = .int .i64 k ∧ v5 = i0 ∧ Hid (CodeSt w V I F B J N wr))
  case atStart => exact ⟨0, by omega, rfl, rfl, rfl, HC⟩
  case round =>
    obtain ⟨k, hk, rfl, rfl, rfl, HR⟩ := hrel
    have hi := cells_at HR.out.judge.s.i
    have hc := cells_at HR.out.box
    by_cases h0 : k = 0
    · subst h0
      clear hk
      go_wp2_with (first
        | (go_at_call 50; refine (asks1 _ _).mono ?_; rintro e w' ⟨rfl, rfl⟩; have HA := hid (HR.out.step (below1 _ (.cells #[.int .i64 1, i0, i0, i0, i0, .int .i64 7, s0, n0, n0, i0, i0, i0, i0] 49))))
        | (go_at_call 58; refine (number_i _ _ _ _ _ _ HA.out.judge).mono ?_; rintro e w1 ⟨rfl, hb1⟩; have HB := hid (HA.out.step hb1.out)))
      all_goals go_roundg (2 - (0 + 1))
      case measure => omega
      case rel => exact ⟨1, by omega, rfl, rfl, rfl, HB⟩
    · by_cases h1 : k = 1
      · subst h1
        clear hk
        go_wp2_with (first
          | (go_at_call 50; refine (asks18 _ _).mono ?_; rintro e w' ⟨rfl, rfl⟩; have HA := hid (HR.out.step (below1 _ (.cells #[.int .i64 18, i0, i0, i0, i0, i0, s0, n0, n0, i0, i0, i0, i0] 49))))
          | (go_at_call 70; refine (ret_i _ _ _ _ _ _ HA.out.judge).mono ?_; rintro e w1 ⟨rfl, hb1⟩; have HB := hid (HA.out.step hb1.out)))
        all_goals go_roundg (2 - (1 + 1))
        case measure => omega
        case rel => exact ⟨2, by omega, rfl, rfl, rfl, HB⟩
      · obtain rfl : k = 2 := by omega
        clear hk
        go_wp2
        rw [Exit.noGoto_ret]
        go_ret
        exact ⟨rfl, hid HR.out.below, hid ⟨HR.out.size, HR.out.keep⟩⟩
end Go.Proofs.Ytfhdiahjfnphkaa
