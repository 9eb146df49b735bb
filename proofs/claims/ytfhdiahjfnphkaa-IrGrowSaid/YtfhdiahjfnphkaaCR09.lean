/- The judge on the chapter's example. No conditions. -/
import Derived.Test.YtfhdiahjfnphkaaCR02
import Derived.Deep.RegionWith
import Derived.Laws.StructEq
import Derived.WalkMore
import Derived.RangeFuncNested
import Derived.RangeFuncLeaves
import Derived.Shelf.Abstract
import Derived.OwnWalkIn
import Derived.TacticsInMore
import Derived.LoopNIn
import Derived.LoopIn
import Derived.Maps.OwnIn
namespace Go.Proofs.Ytfhdiahjfnphkaa
open Go.RowKit Go.Maps
set_option linter.unusedVariables false
set_option linter.unusedSimpArgs false
abbrev jobj0 (F B : Nat) : Array Value := #[n0, .slice (some ⟨F, 0, none⟩) 1 1, .map (some B), s0, i0, n0, .bool false, s0, i0, n0, n0]
abbrev jobj1 (V I F B : Nat) : Array Value := #[n0, .slice (some ⟨F, 0, none⟩) 1 1, .map (some B), .string mainS, i0, .slice (some ⟨V, 0, none⟩) 1 1, .bool false, s0, i0, n0, .slice (some ⟨I, 0, none⟩) 2 2]
abbrev ins1 : Value := .agg #[.int .i64 1, i0, i0, i0, i0, .int .i64 7, s0, n0, n0, i0, i0, i0, i0]
abbrev ins2 : Value := .agg #[.int .i64 18, i0, i0, i0, i0, i0, s0, n0, n0, i0, i0, i0, i0]
structure Judge (w : World) (V I F B J : Nat) : Prop where
  s : Small w V I F
  j : w.heap[J]? = some (.cells (jobj1 V I F B) 70 (0, 0))
theorem Judge.below {w W : World} {V I F B J : Nat} (h : Judge w V I F B J) (hb : Below w.heap.size w W) : Judge W V I F B J :=
  ⟨h.s.below hb, old_block hb (Array.getElem?_eq_some_iff.1 h.j).1 h.j⟩
theorem Judge.drew {w : World} {V I F B J : Nat} (h : Judge w V I F B J) : Judge w.drew V I F B J := ⟨⟨h.s.v, h.s.i, h.s.f⟩, h.j⟩
theorem asks1 (w : World) (p : Value) : Calls Try.prog 50 #[p, .int .i64 1] w fun e w' => e = .returned (.func (.func 58) #[p] #[]) ∧ w' = w := by
  go_enter Try.func50, Try.ntmps50
  go_wp2
  go_ret
  exact ⟨rfl, rfl⟩
theorem asks18 (w : World) (p : Value) : Calls Try.prog 50 #[p, .int .i64 18] w fun e w' => e = .returned (.func (.func 70) #[p] #[]) ∧ w' = w := by
  go_enter Try.func50, Try.ntmps50
  go_wp2
  go_ret
  exact ⟨rfl, rfl⟩
theorem there_i (w : World) (V I F B J b : Nat) (hj : Judge w V I F B J) (hb : w.cell? ⟨b, 0, none⟩ = some i0) : Calls Try.prog 74 #[.pointer (some ⟨J, 0, none⟩), .slice (some ⟨b, 0, none⟩) 1 1] w fun e w' => e = .returned (.bool true) ∧ w' = w := by
  have hc := cells_at hj.j
  clear hj
  go_enter Try.func74, Try.ntmps74
  go_wp2
  go_loopg [9] 1 (fun gk v9 wr => ∃ k : Nat, k ≤ 1 ∧ gk = 1 - k ∧ v9 = .int .i64 k ∧ wr = w)
  case atStart => exact ⟨0, by omega, rfl, rfl, rfl⟩
  case round =>
    obtain ⟨k, hk, rfl, rfl, rfl⟩ := hrel
    by_cases hlt : k < 1
    · obtain rfl : k = 0 := by omega
      clear hlt hk
      go_wp2
      all_goals go_roundg (1 - (0 + 1))
      case measure => omega
      case rel => exact ⟨1, by omega, rfl, rfl, rfl⟩
    · obtain rfl : k = 1 := by omega
      clear hlt hk
      go_wp2
      go_ret
      exact ⟨rfl, rfl⟩
theorem kind_i (w : World) (V I F B J : Nat) (hj : Judge w V I F B J) : Calls Try.prog 76 #[.pointer (some ⟨J, 0, none⟩), i0] w fun e w' => e = .returned (.agg #[.bool false, s0]) ∧ Hid (Below w.heap.size w w') := by
  have hc := fun o => cells_at1 hj.j o
  have hv := fun o => cells_at1 hj.s.v o
  have HB := hid (below1 w (.cells #[.bool false, s0] 31))
  have hlt := hid (Array.getElem?_eq_some_iff.1 hj.j).1
  clear hj
  go_enter Try.func76, Try.ntmps76
  go_wp2
  exact bodyPost_ret (v := .agg #[.bool false, s0]) (by simp [results, Try.results76, go_sem]) rfl ⟨rfl, HB⟩
theorem mistyped0 (w : World) : Calls Try.prog 75 #[.bool false] w fun e w' => e = .returned i0 ∧ w' = w := by
  go_enter Try.func75, Try.ntmps75
  go_wp2
  go_ret
  exact ⟨rfl, rfl⟩
theorem new_cell (w : World) (o : Obj) (v : Value) (t : TypeId) : ((w.alloc o).alloc (.cells #[v] t)).cell? ⟨w.heap.size + 1, 0, none⟩ = some v := by
  have := heap_alloc_new (w.alloc o) (.cells #[v] t)
  rw [World.size_alloc] at this
  exact cells_at this 0
theorem number_i (w : World) (V I F B J : Nat) (hj : Judge w V I F B J) : Calls Try.prog 58 #[.pointer (some ⟨J, 0, none⟩), ins1] w fun e w' => e = .returned i0 ∧ Hid (Below w.heap.size w w') := by
  have HJ := hid (fun o p => hj.below (below2 w o p))
  have HB := hid (below2 w)
  have hfd : ∀ w : World, (Instr.field 31 (.agg #[.bool false, s0]) 0).run Try.prog w = .ok (.bool false) w := fun _ => by kernel_rfl
  clear hj
  go_enter Try.func58, Try.ntmps58
  go_wp2_with (first
    | (go_at_call 74; refine (there_i _ _ _ _ _ _ _ (HJ.out _ _) (new_cell _ _ _ _)).mono ?_; rintro e w' ⟨rfl, rfl⟩)
    | (go_at_call 76; refine (kind_i _ _ _ _ _ _ (HJ.out _ _)).mono ?_; rintro e w1 ⟨rfl, hb1⟩)
    | (go_at_call 75; refine (mistyped0 _).mono ?_; rintro e w' ⟨rfl, rfl⟩))
  go_ret
  exact ⟨rfl, hid (after (HB.out _ _) hb1.out (HB.out _ _).size)⟩
set_option maxHeartbeats 4000000 in
theorem ret_i (w : World) (V I F B J : Nat) (hj : Judge w V I F B J) : Calls Try.prog 70 #[.pointer (some ⟨J, 0, none⟩), ins2] w fun e w' => e = .returned i0 ∧ Hid (Below w.heap.size w w') := by
  have HJ := hid (fun o p => hj.below (below2 w o p))
  have HB := hid (below2 w)
  have hc := fun o p => cells_at2 hj.j o p
  clear hj
  go_enter Try.func70, Try.ntmps70
  go_wp2_with (first
    | (go_at_call 74; refine (there_i _ _ _ _ _ _ _ (HJ.out _ _) (new_cell _ _ _ _)).mono ?_; rintro e w' ⟨rfl, rfl⟩))
  go_region_with (first
    | (go_at_call 76; refine (kind_i _ _ _ _ _ _ (HJ.out _ _).drew).mono ?_; rintro e w1 ⟨rfl, hb1⟩; have hc1 := cells_at ((HJ.out _ _).drew.below hb1.out).j)
    | (go_at_call 75; refine (mistyped0 _).mono ?_; rintro e w' ⟨rfl, rfl⟩))
  all_goals go_wp2
  all_goals go_ret
  all_goals exact ⟨rfl, hid (after (HB.out _ _).drew hb1.out (HB.out _ _).size)⟩
end Go.Proofs.Ytfhdiahjfnphkaa
/- A function of the chapter's example, judged. No conditions. -/
namespace Go.Proofs.Ytfhdiahjfnphkaa
open Go.RowKit Go.Maps
set_option linter.unusedVariables false
set_option linter.unusedSimpArgs false
abbrev code1 (V I : Nat) : Value := .agg (codeObj V I)
structure Wrote (J : Nat) (vs : Array Value) (w W : World) : Prop where
  here : W.heap[J]? = some (.cells vs 70 (0, 0))
  below : Below J w W
  size : W.heap.size = w.heap.size
  block : ∀ k, k ≠ J → W.heap[k]? = w.heap[k]?
theorem Wrote.set {J : Nat} {vs : Array Value} {w W : World} (h : Wrote J vs w W) (i : Nat) (v : Value) : Wrote J (vs.setIfInBounds i v) w (W.setCell ⟨J, i, none⟩ v) := by
  refine ⟨?_, h.below.setCell (Nat.le_refl _) v, by rw [← h.size]; simp [World.setCell], fun k hk => (Below.heap_setCell _ _ _ _ hk).trans (h.block k hk)⟩
  have := h.here
  simp only [World.setCell, Array.getElem?_modify]
  simp [this]
theorem cast_w {J : Nat} {vs vs' : Array Value} {w W : World} (e : vs = vs') (h : Wrote J vs w W) : Wrote J vs' w W := e ▸ h
theorem frozen_no {W : World} {k t : Nat} {vs : Array Value} (h : W.heap[k]? = some (.cells vs t (0, 0))) (i : Nat) : W.frozen? ⟨k, i, none⟩ = false := by
  simp [World.frozen?, h]
abbrev stored (W : World) (V I J : Nat) : World := (((((((W.setCell ⟨J, 3, none⟩ (.string mainS)).setCell ⟨J, 4, none⟩ (.int .i64 0)).setCell ⟨J, 5, none⟩ (.slice (some ⟨V, 0, none⟩) 1 1)).setCell ⟨J, 6, none⟩ (.bool false)).setCell ⟨J, 7, none⟩ (.string ⟨#[]⟩)).setCell ⟨J, 8, none⟩ (.int .i64 0)).setCell ⟨J, 9, none⟩ (.slice none 0 0)).setCell ⟨J, 10, none⟩ (.slice (some ⟨I, 0, none⟩) 2 2)
theorem stored_wrote (W : World) (V I F B J : Nat) (h : W.heap[J]? = some (.cells (jobj0 F B) 70 (0, 0))) : Wrote J (jobj1 V I F B) W (stored W V I J) := by
  have h0 : Wrote J (jobj0 F B) W W := ⟨h, Below.refl _ _, rfl, fun _ _ => rfl⟩
  have h1 := h0.set 3 (.string mainS)
  have h2 := h1.set 4 (.int .i64 0)
  have h3 := h2.set 5 (.slice (some ⟨V, 0, none⟩) 1 1)
  have h4 := h3.set 6 (.bool false)
  have h5 := h4.set 7 (.string ⟨#[]⟩)
  have h6 := h5.set 8 (.int .i64 0)
  have h7 := h6.set 9 (.slice none 0 0)
  have h8 := h7.set 10 (.slice (some ⟨I, 0, none⟩) 2 2)
  clear h0 h1 h2 h3 h4 h5 h6 h7 h
  have e : ((((((((jobj0 F B).setIfInBounds 3 (.string mainS)).setIfInBounds 4 (.int .i64 0)).setIfInBounds 5 (.slice (some ⟨V, 0, none⟩) 1 1)).setIfInBounds 6 (.bool false)).setIfInBounds 7 (.string ⟨#[]⟩)).setIfInBounds 8 (.int .i64 0)).setIfInBounds 9 (.slice none 0 0)).setIfInBounds 10 (.slice (some ⟨I, 0, none⟩) 2 2) = jobj1 V I F B := by simp [jobj0, jobj1]
  rw [e] at h8
  exact h8
structure CodeSt (w : World) (V I F B J N : Nat) (wr : World) : Prop where
  below : Below J w wr
  judge : Judge wr V I F B J
  box : wr.heap[N]? = some (.cells (codeObj V I) 37 (0, 0))
  big : J ≤ wr.heap.size
  size : w.heap.size ≤ wr.heap.size
  keep : ∀ k, k ≠ J → k < w.heap.size → wr.heap[k]? = w.heap[k]?
theorem CodeSt.step {w : World} {V I F B J N : Nat} {wr W : World} (h : CodeSt w V I F B J N wr) (hb : Below wr.heap.size wr W) : CodeSt w V I F B J N W :=
  ⟨h.below.trans (hb.mono h.big), h.judge.below hb, old_block hb (Array.getElem?_eq_some_iff.1 h.box).1 h.box, Nat.le_trans h.big hb.size, Nat.le_trans h.size hb.size,
    fun k hk hlt => (hb.block k (Nat.lt_of_lt_of_le hlt h.size)).trans (h.keep k hk hlt)⟩
theorem code_start (w : World) (V I F B J : Nat) (hS : Small w V I F) (hJ : w.heap[J]? = some (.cells (jobj0 F B) 70 (0, 0))) (hV : V < J) (hI : I < J) (hF : F < J) :
    CodeSt w V I F B J w.heap.size (stored (w.alloc (.cells (codeObj V I) 37)) V I J) := by
  have hlt := (Array.getElem?_eq_some_iff.1 hJ).1
  have b1 := below1 w (.cells (codeObj V I) 37)
  have hw := stored_wrote (w.alloc (.cells (codeObj V I) 37)) V I F B J (old_block b1 hlt hJ)
  have hs := hS.below b1
  refine ⟨(b1.mono (Nat.le_of_lt hlt)).trans hw.below, ⟨⟨(hw.block _ (by omega)).trans hs.v, (hw.block _ (by omega)).trans hs.i, (hw.block _ (by omega)).trans hs.f⟩, hw.here⟩, (hw.block _ (by omega)).trans (heap_alloc_new w _), ?_, ?_, fun k hk hl => (hw.block _ hk).trans (Below.heap_alloc _ _ _ hl)⟩
  · rw [hw.size, World.size_alloc]; omega
  · rw [hw.size, World.size_alloc]; omega
set_option maxRecDepth 100000 in
set_option maxHeartbeats 4000000 in
theorem code_i (w : World) (V I F B J : Nat) (hS : Small w V I F) (hJ : w.heap[J]? = some (.cells (jobj0 F B) 70 (0, 0))) (hV : V < J) (hI : I < J) (hF : F < J) :
    Calls Try.prog 36 #[.pointer (some ⟨J, 0, none⟩), code1 V I] w fun e w' => e = .returned i0 ∧ Hid (Below J w w') ∧ Hid (w.heap.size ≤ w'.heap.size ∧ ∀ k, k ≠ J → k < w.heap.size → w'.heap[k]? = w.heap[k]?) := by
  have hfz := frozen_no (old_block (below1 w (.cells (codeObj V I) 37)) (Array.getElem?_eq_some_iff.1 hJ).1 hJ)
  have hc := cells_at1 hJ (.cells (codeObj V I) 37)
  have HC := hid (code_start w V I F B J hS hJ hV hI hF)
  clear hS hJ hV hI hF
  go_enter Try.func36, Try.ntmps36
  go_wp2
  go_step3
  go_wp2
  obtain ⟨W2, hW2⟩ : ∃ W2, stored (w.alloc (.cells (codeObj V I) 37)) V I J = W2 := ⟨_, rfl⟩
  obtain ⟨N, hN⟩ : ∃ N, Hid (w.heap.size = N) := ⟨_, hid rfl⟩
  rw [hW2] at HC
  simp only [stored] at hW2
  rw [hW2]
  rw [hN.out] at HC ⊢
  clear hW2 hc hfz
  have hc := cells_at HC.out.box
  go_step3
  go_wp2
  clear hc
  go_loopg [5, 45] 2 (fun gk v5 v45 wr => ∃ k : Nat, k ≤ 2 ∧ gk = 2 - k ∧ v45 = .int .i64 k ∧ v5 = i0 ∧ Hid (CodeSt w V I F B J N wr))
  case atStart => exact ⟨0, by omega, rfl, rfl, rfl, HC⟩
  case round =>
    obtain ⟨k, hk, rfl, rfl, rfl, HR⟩ := hrel
    have hi := cells_at HR.out.judge.s.i
    have hc := cells_at HR.out.box
    by_cases h0 : k = 0
    · subst h0
      clear hk
      go_wp2_with (first
        | (go_at_call 50; refine (asks1 _ _).mono ?_; rintro e w' ⟨rfl, rfl⟩; have HA := hid (HR.out.step (below1 _ (.cells #[.int .i64 1, i0, i0, i0, i0, .int .i64 7, s0, n0, n0, i0, i0, i0, i0] 49))))
        | (go_at_call 58; refine (number_i _ _ _ _ _ _ HA.out.judge).mono ?_; rintro e w1 ⟨rfl, hb1⟩; have HB := hid (HA.out.step hb1.out)))
      all_goals go_roundg (2 - (0 + 1))
      case measure => omega
      case rel => exact ⟨1, by omega, rfl, rfl, rfl, HB⟩
    · by_cases h1 : k = 1
      · subst h1
        clear hk
        go_wp2_with (first
          | (go_at_call 50; refine (asks18 _ _).mono ?_; rintro e w' ⟨rfl, rfl⟩; have HA := hid (HR.out.step (below1 _ (.cells #[.int .i64 18, i0, i0, i0, i0, i0, s0, n0, n0, i0, i0, i0, i0] 49))))
          | (go_at_call 70; refine (ret_i _ _ _ _ _ _ HA.out.judge).mono ?_; rintro e w1 ⟨rfl, hb1⟩; have HB := hid (HA.out.step hb1.out)))
        all_goals go_roundg (2 - (1 + 1))
        case measure => omega
        case rel => exact ⟨2, by omega, rfl, rfl, rfl, HB⟩
      · obtain rfl : k = 2 := by omega
        clear hk
        go_wp2
        rw [Exit.noGoto_ret]
        go_ret
        exact ⟨rfl, hid HR.out.below, hid ⟨HR.out.size, HR.out.keep⟩⟩
end Go.Proofs.Ytfhdiahjfnphkaa
/- The types of the chapter's example, one by one. No conditions. -/
namespace Go.Proofs.Ytfhdiahjfnphkaa
open Go.RowKit Go.Maps Go.Shelf
set_option linter.unusedVariables false
set_option linter.unusedSimpArgs false
attribute [local go_sem] Oper.semAt_some
/-- All cells lie as they lay. -/
structure KC (W W' : World) : Prop where
  cells : ∀ (k : Nat) (vs : Array Value) (t : TypeId) (z : Nat × Nat), W.heap[k]? = some (.cells vs t z) → W'.heap[k]? = some (.cells vs t z)
theorem KC.trans {A B C : World} (h : KC A B) (k : KC B C) : KC A C := ⟨fun i vs t z hi => k.cells i vs t z (h.cells i vs t z hi)⟩
theorem KC.of_below {A B : World} (h : Below A.heap.size A B) : KC A B := ⟨fun i vs t z hi => old_block h (Array.getElem?_eq_some_iff.1 hi).1 hi⟩
theorem KC.put {n : Nat} (W : World) (l : Nat) (o o' : Obj) (_ : n ≤ l) (hl : W.heap[l]? = some o) (ho : o.isCells = false) (_ : o.isWalk = false) : KC W (W.putObj l o') :=
  ⟨fun i vs t z hi => (World.putObj_heap_other (fun e => by subst e; rw [hl] at hi; cases hi; cases ho)).trans hi⟩
structure Mod (W : World) (V I F M : Nat) : Prop where
  s : Small W V I F
  m : W.heap[M]? = some (.cells #[n0, .slice (some ⟨F, 0, none⟩) 1 1] 25 (0, 0))
theorem Mod.kc {A B : World} {V I F M : Nat} (h : Mod A V I F M) (k : KC A B) : Mod B V I F M :=
  ⟨⟨k.cells _ _ _ _ h.s.v, k.cells _ _ _ _ h.s.i, k.cells _ _ _ _ h.s.f⟩, k.cells _ _ _ _ h.m⟩
abbrev T0 : Value := .agg #[.bool false, s0]
theorem abides_alloc {B : Nat} {J : List Unit → World → Prop} (h : AbidesFrom B J) (s : List Unit) (W : World) (o : Obj) (hs : J s W) : J s (W.alloc o) :=
  h s W _ none hs (World.grownBy_alloc W o none) (fun r e => by cases e)
def reps : Nat → List Unit
  | 0 => []
  | n + 1 => reps n ++ [()]
set_option maxRecDepth 100000 in
set_option maxHeartbeats 4000000 in
theorem types_s (F : Fence) (n : Nat) (h35 : F.fn 49) (hro : F.round = none) (hn : 1 ≤ n) (V I Fu M : Nat) (w : World) (hM : Mod w V I Fu M) :
    SeqStopsK F n Try.prog 49 #[.pointer (some ⟨M, 0, none⟩)] (fun _ : Unit => #[T0]) KC (fun _ => True) (fun _ => True) 2 w := by
  intro l J Jx W hW hJ hJx hY h0
  have HM := hid (hM.kc (KC.of_below hW))
  have hm := cells_at HM.out.m
  clear hM hW
  refine callsIn_of_wp Try.func49 rfl h35 ?_ hro
  simp only [Try.ntmps49, List.size_toArray, List.length_cons, List.length_nil, Nat.reduceAdd, Nat.reduceSub, Array.replicate_succ, Array.replicate_zero, List.push_toArray, List.append_toArray, List.nil_append, List.cons_append]
  gi_wp2
  gi_loopw [14] (fun p wr => p = .int .i64 0 ∧ wr = W) (fun p wr => 0)
  case atStart => exact ⟨rfl, rfl⟩
  case round =>
    obtain ⟨rfl, rfl⟩ := hrel
    gi_wp2
    obtain ⟨S0, hS0⟩ : ∃ S0, wr.heap.size = S0 := ⟨_, rfl⟩
    rw [hS0] at hJ hJx
    clear hS0 hm
    have HJ := hid hJ
    have HY := hid hY
    clear hJ hJx hY
    have H0 : Hid (J (reps 0) wr) := hid h0
    clear h0
    gi_loopw [35] (fun p wr => ∃ k : Nat, (k = 0 ∨ k = 1) ∧ p = .int .i64 k ∧ Hid (J (reps (2 * k)) wr) ∧ Hid (Mod wr V I Fu M)) (fun p wr => 1 - (intOf p).toNat)
    case atStart => exact ⟨0, .inl rfl, rfl, H0, HM⟩
    case round =>
      obtain ⟨k, hk, rfl, HJ1, HM1⟩ := hrel
      clear H0 HM
      have hf := cells_at HM1.out.s.f
      rcases hk with rfl | rfl
      · have HJ2 := hid (abides_alloc HJ.out _ _ (.cells (codeObj V I) 37) HJ1.out)
        have HM2 := hid (HM1.out.kc (KC.of_below (below1 wr (.cells (codeObj V I) 37))))
        have HX := hid (heap_alloc_new wr (.cells (codeObj V I) 37))
        obtain ⟨fn, tmps, assign, body, hy, hR⟩ := HY.out _ () _ HJ2.out (by decide)
        gi_wp2
        refine hR.mono ?_
        rintro e W3 (⟨rfl, hJ3, hk3⟩ | ⟨rfl, hJx3⟩)
        · have HM3 := hid (HM2.out.kc hk3)
          have HX3 := hid (hk3.cells _ _ _ _ HX.out)
          have H3 : Hid (J (reps 1) W3) := hid hJ3
          have hx := cells_at HX3.out
          clear hk3 hJ3 hf
          gi_wp2
          clear hx HX HX3 HJ1 HM1 HJ2 HM2
          gi_loopw [48] (fun p wr2 => ∃ k : Nat, (k = 0 ∨ k = 1) ∧ p = .int .i64 k ∧ Hid (J (reps (1 + k)) wr2) ∧ Hid (Mod wr2 V I Fu M)) (fun p wr2 => 1 - (intOf p).toNat)
          case atStart => exact ⟨0, .inl rfl, rfl, H3, HM3⟩
          case round =>
            obtain ⟨k, hk, rfl, HJ1, HM1⟩ := hrel
            rename_i wr2 _ _ _ _ _ _ _ _ _
            clear H3 HM3
            have hv := cells_at HM1.out.s.v
            rcases hk with rfl | rfl
            · have HJ2 := hid (abides_alloc HJ.out _ _ (.cells varObj 33) HJ1.out)
              obtain ⟨fn, tmps, assign, body, hy, hR⟩ := HY.out _ () _ HJ2.out (by decide)
              have HM2 := hid (HM1.out.kc (KC.of_below (below1 _ (.cells varObj 33))))
              gi_wp2
              refine hR.mono ?_
              rintro e W4 (⟨rfl, hJ4, hk4⟩ | ⟨rfl, hJx4⟩)
              · have HM4 := hid (HM2.out.kc hk4)
                gi_wp2
                go_roundw
                case rel => exact ⟨1, .inr rfl, rfl, hid hJ4, HM4⟩
                case measure => simp [intOf]
              · gi_wp2
                refine bodyPost_ret (results_none rfl _ _ _) rfl ?_
                exact ⟨⟨_, rfl⟩, .inr ⟨_, trivial, hJx4⟩⟩
            · gi_wp2
              go_roundw
              case rel => exact ⟨1, .inr rfl, rfl, HJ1, HM1⟩
              case measure => simp [intOf]
        · gi_wp2
          refine bodyPost_ret (results_none rfl _ _ _) rfl ?_
          exact ⟨⟨_, rfl⟩, .inr ⟨_, trivial, hJx3⟩⟩
      · gi_wp2
        go_end0
        exact ⟨⟨_, rfl⟩, .inl ⟨_, trivial, HJ1.out⟩⟩
theorem types_e (F : Fence) (n : Nat) (h35 : F.fn 49) (hro : F.round = none) (hn : 1 ≤ n) (M : Nat) (w : World) (hM : w.heap[M]? = some (.cells #[n0, n0] 25 (0, 0))) :
    SeqStopsK F n Try.prog 49 #[.pointer (some ⟨M, 0, none⟩)] (fun _ : Unit => #[T0]) KC (fun _ => True) (fun _ => True) 2 w := by
  intro l J Jx W hW hJ hJx hY h0
  have hm := cells_at ((KC.of_below hW).cells _ _ _ _ hM)
  clear hM hW hY hJ hJx
  refine callsIn_of_wp Try.func49 rfl h35 ?_ hro
  simp only [Try.ntmps49, List.size_toArray, List.length_cons, List.length_nil, Nat.reduceAdd, Nat.reduceSub, Array.replicate_succ, Array.replicate_zero, List.push_toArray, List.append_toArray, List.nil_append, List.cons_append]
  gi_wp2
  gi_loopw [14] (fun p wr => p = .int .i64 0 ∧ wr = W) (fun p wr => 0)
  case atStart => exact ⟨rfl, rfl⟩
  case round =>
    obtain ⟨rfl, rfl⟩ := hrel
    gi_wp2
    gi_loopw [35] (fun p wr2 => p = .int .i64 0 ∧ wr2 = wr) (fun p wr => 0)
    case atStart => exact ⟨rfl, rfl⟩
    case round =>
      obtain ⟨rfl, rfl⟩ := hrel
      gi_wp2
      go_end0
      exact ⟨⟨_, rfl⟩, .inl ⟨_, trivial, h0⟩⟩
theorem types_f (m : Array Value) (hm : m.size = 2) (w : World) : Calls Try.prog 35 #[.agg m] w fun e w' => e = .returned (.func (.func 49) #[] #[.pointer (some ⟨w.heap.size, 0, none⟩)]) ∧ w' = w.alloc (.cells m 25) := by
  go_enter Try.func35, Try.ntmps35
  go_wp2
  trace_state
  go_ret
  exact ⟨rfl, rfl⟩
end Go.Proofs.Ytfhdiahjfnphkaa
