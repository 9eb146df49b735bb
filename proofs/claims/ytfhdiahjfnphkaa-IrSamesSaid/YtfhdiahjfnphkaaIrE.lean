/- The types of the chapter's example, one by one. No conditions. -/
import Derived.Test.YtfhdiahjfnphkaaIrD
import Derived.RangeFuncNested
import Derived.RangeFuncLeaves
import Derived.Shelf.Abstract
import Derived.OwnWalkIn
import Derived.TacticsInMore
import Derived.LoopNIn
import Derived.LoopIn
import Derived.Maps.OwnIn
namespace Go.Proofs.Ytfhdiahjfnphkaa
open Go.RowKit Go.Maps Go.Shelf
set_option linter.unusedVariables false
set_option linter.unusedSimpArgs false
attribute [local go_sem] Oper.semAt_some
/-- All cells lie as they lay. -/
structure KC (W W' : World) : Prop where
  cells : ∀ (k : Nat) (vs : Array Value) (t : TypeId) (z : Nat × Nat), W.heap[k]? = some (.cells vs t z) → W'.heap[k]? = some (.cells vs t z)
theorem KC.trans {A B C : World} (h : KC A B) (k : KC B C) : KC A C := ⟨fun i vs t z hi => k.cells i vs t z (h.cells i vs t z hi)⟩
theorem KC.of_below {A B : World} (h : Below A.heap.size A B) : KC A B := ⟨fun i vs t z hi => old_block h (Array.getElem?_eq_some_iff.1 hi).1 hi⟩
theorem KC.put {n : Nat} (W : World) (l : Nat) (o o' : Obj) (_ : n ≤ l) (hl : W.heap[l]? = some o) (ho : o.isCells = false) (_ : o.isWalk = false) : KC W (W.putObj l o') :=
  ⟨fun i vs t z hi => (World.putObj_heap_other (fun e => by subst e; rw [hl] at hi; cases hi; cases ho)).trans hi⟩
structure Mod (W : World) (V I F M : Nat) : Prop where
  s : Small W V I F
  m : W.heap[M]? = some (.cells #[n0, .slice (some ⟨F, 0, none⟩) 1 1] 25 (0, 0))
theorem Mod.kc {A B : World} {V I F M : Nat} (h : Mod A V I F M) (k : KC A B) : Mod B V I F M :=
  ⟨⟨k.cells _ _ _ _ h.s.v, k.cells _ _ _ _ h.s.i, k.cells _ _ _ _ h.s.f⟩, k.cells _ _ _ _ h.m⟩
abbrev T0 : Value := .agg #[.bool false, s0]
theorem abides_alloc {B : Nat} {J : List Unit → World → Prop} (h : AbidesFrom B J) (s : List Unit) (W : World) (o : Obj) (hs : J s W) : J s (W.alloc o) :=
  h s W _ none hs (World.grownBy_alloc W o none) (fun r e => by cases e)
def reps : Nat → List Unit
  | 0 => []
  | n + 1 => reps n ++ [()]
set_option maxRecDepth 100000 in
set_option maxHeartbeats 4000000 in
theorem types_s (F : Fence) (n : Nat) (h35 : F.fn 49) (hro : F.round = none) (hn : 1 ≤ n) (V I Fu M : Nat) (w : World) (hM : Mod w V I Fu M) :
    SeqStopsK F n Try.prog 49 #[.pointer (some ⟨M, 0, none⟩)] (fun _ : Unit => #[T0]) KC (fun _ => True) (fun _ => True) 2 w := by
  intro l J Jx W hW hJ hJx hY h0
  have HM := hid (hM.kc (KC.of_below hW))
  have hm := cells_at HM.out.m
  clear hM hW
  refine callsIn_of_wp Try.func49 rfl h35 ?_ hro
  simp only [Try.ntmps49, List.size_toArray, List.length_cons, List.length_nil, Nat.reduceAdd, Nat.reduceSub, Array.replicate_succ, Array.replicate_zero, List.push_toArray, List.append_toArray, List.nil_append, List.cons_append]
  gi_wp2
  gi_loopw [14] (fun p wr => p = .int .i64 0 ∧ wr = W) (fun p wr => 0)
  case atStart => exact ⟨rfl, rfl⟩
  case round =>
    obtain ⟨rfl, rfl⟩ := hrel
    gi_wp2
    obtain ⟨S0, hS0⟩ : ∃ S0, wr.heap.size = S0 := ⟨_, rfl⟩
    rw [hS0] at hJ hJx
    clear hS0 hm
    have HJ := hid hJ
    have HY := hid hY
    clear hJ hJx hY
    have H0 : Hid (J (reps 0) wr) := hid h0
    clear h0
    gi_loopw [35] (fun p wr => ∃ k : Nat, (k = 0 ∨ k = 1) ∧ p = .int .i64 k ∧ Hid (J (reps (2 * k)) wr) ∧ Hid (Mod wr V I Fu M)) (fun p wr => 1 - (intOf p).toNat)
    case atStart => exact ⟨0, .inl rfl, rfl, H0, HM⟩
    case round =>
      obtain ⟨k, hk, rfl, HJ1, HM1⟩ := hrel
      clear H0 HM
      have hf := cells_at HM1.out.s.f
      rcases hk with rfl | rfl
      · have HJ2 := hid (abides_alloc HJ.out _ _ (.cells (codeObj V I) 37) HJ1.out)
        have HM2 := hid (HM1.out.kc (KC.of_below (below1 wr (.cells (codeObj V I) 37))))
        have HX := hid (heap_alloc_new wr (.cells (codeObj V I) 37))
        obtain ⟨fn, tmps, assign, body, hy, hR⟩ := HY.out _ () _ HJ2.out (by decide)
        gi_wp2
        refine hR.mono ?_
        rintro e W3 (⟨rfl, hJ3, hk3⟩ | ⟨rfl, hJx3⟩)
        · have HM3 := hid (HM2.out.kc hk3)
          have HX3 := hid (hk3.cells _ _ _ _ HX.out)
          have H3 : Hid (J (reps 1) W3) := hid hJ3
          have hx := cells_at HX3.out
          clear hk3 hJ3 hf
          gi_wp2
          clear hx HX HX3 HJ1 HM1 HJ2 HM2
          gi_loopw [48] (fun p wr2 => ∃ k : Nat, (k = 0 ∨ k = 1) ∧ p = .int .i64 k ∧ Hid (J (reps (1 + k)) wr2) ∧ Hid (Mod wr2 V I Fu M)) (fun p wr2 => 1 - (intOf p).toNat)
          case atStart => exact ⟨0, .inl rfl, rfl, H3, HM3⟩
          case round =>
            obtain ⟨k, hk, rfl, HJ1, HM1⟩ := hrel
            rename_i wr2 _ _ _ _ _ _ _ _ _
            clear H3 HM3
            have hv := cells_at HM1.out.s.v
            rcases hk with rfl | rfl
            · have HJ2 := hid (abides_alloc HJ.out _ _ (.cells varObj 33) HJ1.out)
              obtain ⟨fn, tmps, assign, body, hy, hR⟩ := HY.out _ () _ HJ2.out (by decide)
              have HM2 := hid (HM1.out.kc (KC.of_below (below1 _ (.cells varObj 33))))
              gi_wp2
              refine hR.mono ?_
              rintro e W4 (⟨rfl, hJ4, hk4⟩ | ⟨rfl, hJx4⟩)
              · have HM4 := hid (HM2.out.kc hk4)
                gi_wp2
                go_roundw
                case rel => exact ⟨1, .inr rfl, rfl, hid hJ4, HM4⟩
                case measure => simp [intOf]
              · gi_wp2
                refine bodyPost_ret (results_none rfl _ _ _) rfl ?_
                exact ⟨⟨_, rfl⟩, .inr ⟨_, trivial, hJx4⟩⟩
            · gi_wp2
              go_roundw
              case rel => exact ⟨1, .inr rfl, rfl, HJ1, HM1⟩
              case measure => simp [intOf]
        · gi_wp2
          refine bodyPost_ret (results_none rfl _ _ _) rfl ?_
          exact ⟨⟨_, rfl⟩, .inr ⟨_, trivial, hJx3⟩⟩
      · gi_wp2
        go_end0
        exact ⟨⟨_, rfl⟩, .inl ⟨_, trivial, HJ1.out⟩⟩
theorem types_e (F : Fence) (n : Nat) (h35 : F.fn 49) (hro : F.round = none) (hn : 1 ≤ n) (M : Nat) (w : World) (hM : w.heap[M]? = some (.cells #[n0, n0] 25 (0, 0))) :
    SeqStopsK F n Try.prog 49 #[.pointer (some ⟨M, 0, none⟩)] (fun _ : Unit => #[T0]) KC (fun _ => True) (fun _ => True) 2 w := by
  intro l J Jx W hW hJ hJx hY h0
  have hm := cells_at ((KC.of_below hW).cells _ _ _ _ hM)
  clear hM hW hY hJ hJx
  refine callsIn_of_wp Try.func49 rfl h35 ?_ hro
  simp only [Try.ntmps49, List.size_toArray, List.length_cons, List.length_nil, Nat.reduceAdd, Nat.reduceSub, Array.replicate_succ, Array.replicate_zero, List.push_toArray, List.append_toArray, List.nil_append, List.cons_append]
  gi_wp2
  gi_loopw [14] (fun p wr => p = .int .i64 0 ∧ wr = W) (fun p wr => 0)
  case atStart => exact ⟨rfl, rfl⟩
  case round =>
    obtain ⟨rfl, rfl⟩ := hrel
    gi_wp2
    gi_loopw [35] (fun p wr2 => p = .int .i64 0 ∧ wr2 = wr) (fun p wr => 0)
    case atStart => exact ⟨rfl, rfl⟩
    case round =>
      obtain ⟨rfl, rfl⟩ := hrel
      gi_wp2
      go_end0
      exact ⟨⟨_, rfl⟩, .inl ⟨_, trivial, h0⟩⟩
theorem types_f (m : Array Value) (hm : m.size = 2) (w : World) : Calls Try.prog 35 #[.agg m] w fun e w' => e = .returned (.func (.func 49) #[] #[.pointer (some ⟨w.heap.size, 0, none⟩)]) ∧ w' = w.alloc (.cells m 25) := by
  go_enter Try.func35, Try.ntmps35
  go_wp2
  trace_state
  go_ret
  exact ⟨rfl, rfl⟩
end Go.Proofs.Ytfhdiahjfnphkaa
