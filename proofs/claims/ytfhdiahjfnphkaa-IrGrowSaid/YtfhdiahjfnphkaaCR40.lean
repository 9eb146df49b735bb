/- Right of the empty module. No conditions. -/
import Derived.Test.YtfhdiahjfnphkaaCR36
import Derived.Test.YtfhdiahjfnphkaaCR02
import Derived.Laws.Tables
namespace Go.Proofs.Ytfhdiahjfnphkaa
open Go.RowKit Go.Maps Go.Shelf
set_option linter.unusedVariables false
set_option linter.unusedSimpArgs false
attribute [local go_sem] Oper.semAt_some
set_option maxRecDepth 100000 in
set_option maxHeartbeats 4000000 in
theorem right_e (w : World) : Calls Try.prog 16 #[.agg #[n0, n0]] w fun e w' => e = .returned (.int .i64 9) ∧ Hid (Below w.heap.size w w') := by
  have hmm := @run_makeMap Try.prog
  have HB := hid (below2 w (.cells #[n0, n0] 25) (.cells #[i0] 41))
  have HX := hid (boxes w #[n0, n0] 25 #[i0] 41)
  refine (callsIn_wide (n := 10)).1 ?_
  refine callsIn_of_wp_marks Try.func16 rfl trivial ?_ rfl
  simp only [Try.ntmps16, List.size_toArray, List.length_cons, List.length_nil, Nat.reduceAdd, Nat.reduceSub, Array.replicate_succ, Array.replicate_zero, List.push_toArray, List.append_toArray, List.nil_append, List.cons_append]
  gi_wp2_with (refine ⟨trivial, ?_⟩; gi_at_call 34; refine (callsIn_wide.2 (twice_e _)).mono ?_; rintro e w3 ⟨rfl, hb3⟩; have H3 := hid (old_block hb3.out (Array.getElem?_eq_some_iff.1 HX.out.1).1 HX.out.1); have hc3 := cells_at H3.out; have hc4 := cells_at3 H3.out)
  have HR := hid (RS.start _ _ _ H3.out (old_block hb3.out (Array.getElem?_eq_some_iff.1 HX.out.2).1 HX.out.2))
  have HN := hid (show w.heap.size + 1 < w3.heap.size from by have := hb3.out.size; simp at this; omega)
  have HB4 := hid (below3 w3 (.map #[] 0) (.cells (jobjM n0 w3.heap.size) 70) (.cells #[.pointer (some ⟨w3.heap.size + 1, 0, none⟩)] 67))
  obtain ⟨W4, hW4⟩ : ∃ W4, (((w3.alloc (.map #[] 0)).alloc (.cells (jobjM n0 w3.heap.size) 70)).alloc (.cells #[.pointer (some ⟨w3.heap.size + 1, 0, none⟩)] 67)) = W4 := ⟨_, rfl⟩
  rw [hW4] at HR HB4 ⊢
  have HB5 := hid (after HB.out (after hb3.out HB4.out hb3.out.size) HB.out.size)
  clear hW4 hc3 hc4 H3 HB4 hb3 HX HB
  obtain ⟨B, hB⟩ : ∃ B, w3.heap.size = B := ⟨_, rfl⟩
  rw [hB] at HR HN ⊢
  clear hB
  have hc := cells_at HR.out.t1
  gi_loopw [32] (fun p wr => p = .int .i64 0 ∧ wr = W4) (fun p wr => 0)
  case atStart => exact ⟨rfl, rfl⟩
  case round =>
    obtain ⟨rfl, rfl⟩ := hrel
    gi_wp2_with (refine ⟨trivial, ?_⟩; gi_at_call 35; refine (callsIn_wide.2 (types_f _ rfl _)).mono ?_; rintro e w' ⟨rfl, rfl⟩)
    have HR2 := hid (HR.out.below HN.out (below1 _ (.cells #[n0, n0] 25)))
    have HB6 := hid (after HB5.out (below1 _ (.cells #[n0, n0] 25)) HB5.out.size)
    have hM : (wr.alloc (.cells #[n0, n0] 25)).heap[wr.heap.size]? = some (.cells #[n0, n0] 25 (0, 0)) := heap_alloc_new wr _
    have hbig : B + 3 ≤ (wr.alloc (.cells #[n0, n0] 25)).heap.size := HR2.out.size
    obtain ⟨Q, hQ⟩ : ∃ Q, wr.heap.size = Q := ⟨_, rfl⟩
    rw [hQ] at hM ⊢
    clear hQ hc
    obtain ⟨W0, hW0⟩ : ∃ W0, wr.alloc (.cells #[n0, n0] 25) = W0 := ⟨_, rfl⟩
    rw [hW0] at HR2 HB6 hM hbig ⊢
    clear hW0
    refine wpIn_rangeFunc_ownH rfl (by decide) (gf := 49) (lb := #[.pointer (some ⟨Q, 0, none⟩)]) rfl trivial (enters_of Try.func49 (by kernel_rfl) rfl)
      (types_e Fence.wide (10 - 1) trivial rfl (by decide) Q _ hM) (fun h k => h.trans k) KC.put (Below.refl _ _) (fun _ => rfl)
      (fun pre W => RS w.heap.size n0 B W ∧ Below w.heap.size w W)
      (fun _ _ _ => False)
      (OwnFrom.and (RS.own _ _ _ _ HN.out hbig) (ownFrom_below (Nat.le_refl _) HB6.out.size))
      (fun _ _ _ _ _ hs _ _ => hs)
      ⟨HR2.out, HB6.out⟩
      (fun x a' W => ∃ Bx, B + 3 ≤ Bx ∧ W.heap[Bx]? = some (.cells #[.bool false, s0] 31 (0, 0)) ∧ a' = { tmps := #[Value.agg #[n0, n0], Value.pointer (some { block := w.heap.size, off := 0 }), Value.pointer (some { block := w.heap.size + 1, off := 0 }), Value.pointer (some { block := B + 1 + 1, off := 0 }), u4, u5, Value.pointer (some ⟨Bx, 0, none⟩), undef, undef, undef, undef, undef, undef, Value.pointer (some { block := w.heap.size, off := 0 }), n0, Value.int IntKind.i64 0, Value.bool false, Value.bool false, Value.pointer (some { block := w.heap.size, off := 1 }), n0, Value.int IntKind.i64 0, Value.bool false, Value.bool false, Value.agg #[n0, n0], Value.bool false, Value.agg #[n0, n0], Value.map (some B), Value.agg #[n0, n0, Value.map (some B), Value.string { data := #[] }, Value.int IntKind.i64 0, Value.slice none 0 0, Value.bool false, Value.string { data := #[] }, Value.int IntKind.i64 0, Value.slice none 0 0, Value.slice none 0 0], Value.pointer (some { block := B + 1, off := 0 }), Value.pointer (some { block := w.heap.size, off := 0 }), n0, Value.int IntKind.i64 0, Value.int IntKind.i64 0, Value.bool false, u34, u35, u36, u37, u38, u39, u40, u41, u42, u43, u44, Value.agg #[n0, n0], Value.func (Fn.func 49) #[] #[Value.pointer (some { block := Q, off := 0 })], T0, undef, undef, undef, undef, undef, undef, undef, undef, undef, undef, undef, undef, undef, undef, undef, undef, undef, undef, undef, undef, undef, undef, undef, undef, undef, undef, undef, undef, undef, undef, undef, undef, undef, undef, undef, undef, undef, undef, undef, undef, undef, undef, undef, undef, undef, undef, undef, undef, undef, undef, undef, undef, undef, undef, undef, undef, undef, undef, undef, undef, undef, undef, undef], defers := [] })
      (fun x a' _ X Y row hs hg hr => by obtain ⟨Bx, h1, h2, h3⟩ := hs; exact ⟨Bx, h1, (hg.block _ (Array.getElem?_eq_some_iff.1 h2).1 (fun e => by obtain ⟨_, o, ho, hoc⟩ := hr _ e.symm; rw [h2] at ho; cases ho; cases hoc)).trans h2, h3⟩)
      ?assign ?body ?done ?stop
    case assign =>
      rintro l pre x W K ⟨hr1, hb1⟩ hK
      gi_wp2
      exact hK _ _ ((KeepsOthers.alloc _ _).from _) (KC.of_below (below1 _ _)) ⟨hr1.below HN.out (below1 _ _), after hb1 (below1 _ _) hb1.size⟩ ⟨W.heap.size, hr1.size, heap_alloc_new _ _, rfl⟩
    case body =>
      rintro l pre x a' W hl ⟨r, hr⟩ ⟨hr1, hb1⟩ ⟨Bx, hBx, hX, rfl⟩ hlt
      have hls : Try.prog.follows .lateStores = true := by kernel_rfl
      have hp : W.cell? ⟨B + 1 + 1, 0, none⟩ = some (.pointer (some ⟨B + 1, 0, none⟩)) := cells_at hr1.p 0
      have hj := cells_at hr1.j
      have hx := cells_at hX
      have hlk := look_empty hr1.drew.m
      have HR1 := hid hr1
      have HB1 := hid hb1
      clear hr1 hb1 hX hr hl
      gi_wp2
      apply wpIn_at
      · gi_region
        all_goals exact ⟨rfl, rfl, rfl⟩
      gi_wp2
      exact ⟨(KeepsOthers.drew _).from _, ⟨fun _ _ _ _ h => h⟩, HR1.out.drew, HB1.out.drew⟩
    case done =>
      rintro D ys W hD _ ⟨hr1, hb1⟩ hK
      have hc := cells_at hr1.t1
      have HR1 := hid hr1
      have HB1 := hid hb1
      clear hr1 hb1
      gi_wp2
      clear hc
      have HK := hid hK
      have HD := hid hD
      clear hK hD
      have HZ : Hid (W.heap[w.heap.size + 1]? = some (.cells #[i0] 41 (0, 0))) := hid HR1.out.t2
      have HT := hid HR1.out.t1
      gi_loopw [77] (fun p W5 => p = .int .i64 0 ∧ W5 = W) (fun p W5 => 0)
      case atStart => exact ⟨rfl, rfl⟩
      case round =>
        obtain ⟨rfl, rfl⟩ := hrel
        have ht := cells_at HT.out
        clear HR1
        gi_wp2_with (refine ⟨trivial, ?_⟩; gi_at_call 12; refine (callsIn_wide.2 (func_e _)).mono ?_; rintro e W7 ⟨rfl, hb7⟩; have hz7 := frozen_no (old_block hb7.out (Array.getElem?_eq_some_iff.1 HZ.out).1 HZ.out) 0; have hy7 := cells_at (old_block hb7.out (Array.getElem?_eq_some_iff.1 HZ.out).1 HZ.out))
        have e := store_s (.int .i64 9) (by have := HD.out; have := HN.out; omega) (old_block hb7.out (Array.getElem?_eq_some_iff.1 HK.out).1 HK.out) (old_block hb7.out (Array.getElem?_eq_some_iff.1 HZ.out).1 HZ.out) (after HB1.out hb7.out HB1.out.size)
        refine leave_s (S := D) (b := w.heap.size + 1) (v := .int .i64 9) e.1 ?_ e.2.1 e.2.2.1 ?_
        · rfl
        · exact ⟨rfl, hid e.2.2.2⟩
    case stop =>
      rintro D c pre W _ _ h _
      exact h.elim
end Go.Proofs.Ytfhdiahjfnphkaa
/- What an instruction writes, and the word of Ret. No conditions. -/
namespace Go.Proofs.Ytfhdiahjfnphkaa
open Go.RowKit Go.Maps
set_option linter.unusedVariables false
set_option linter.unusedSimpArgs false
abbrev wrOps : List Int := [1, 2, 3, 4, 5, 7, 9, 10, 12, 14, 15]
abbrev ins (op d a b : Int) (c4 c5 c6 args c8 : Value) (to el : Int) (c11 c12 : Value) : Value := .agg #[.int .i64 op, .int .i64 d, .int .i64 a, .int .i64 b, c4, c5, c6, args, c8, .int .i64 to, .int .i64 el, c11, c12]
def wrBi (op : Int) : Bool := decide (op ∈ wrOps)
def wrD (op d : Int) : Int := if wrBi op then d else 0
theorem wr_t {op d k : Int} (h : (op == k) = true) (hk : wrBi k = true) : d = wrD op d ∧ true = wrBi op := by
  obtain rfl : op = k := by simpa using h
  simp [wrD, hk]
theorem wr_f {op d : Int} (h1 : (op == 1) = false) (h2 : (op == 2) = false) (h3 : (op == 3) = false) (h4 : (op == 4) = false) (h5 : (op == 5) = false) (h7 : (op == 7) = false) (h9 : (op == 9) = false) (h10 : (op == 10) = false) (h12 : (op == 12) = false) (h14 : (op == 14) = false) (h15 : (op == 15) = false) :
    0 = wrD op d ∧ false = wrBi op := by
  have e : wrBi op = false := by simp [wrBi, wrOps]; simp at h1 h2 h3 h4 h5 h7 h9 h10 h12 h14 h15; omega
  simp [wrD, e]
set_option maxHeartbeats 4000000 in
theorem writes_i (op d a b to el : Int) (c4 c5 c6 args c8 c11 c12 : Value) (w : World) : Calls Try.prog 18 #[ins op d a b c4 c5 c6 args c8 to el c11 c12] w fun e w' => e = .returned (.tuple #[.int .i64 (wrD op d), .bool (wrBi op)]) ∧ Hid (Below w.heap.size w w') := by
  have HB := fun o => hid (below1 w o)
  obtain ⟨Q, HQ⟩ : ∃ Q : Ending → World → Prop, Hid (Q = fun e w' => e = .returned (.tuple #[.int .i64 (wrD op d), .bool (wrBi op)]) ∧ Hid (Below w.heap.size w w')) := ⟨_, hid rfl⟩
  rw [← HQ.out]
  have hq : ∀ (D : Int) (b : Bool) (o : Obj), D = wrD op d ∧ b = wrBi op → Q (.returned (.tuple #[.int .i64 D, .bool b])) (w.alloc o) := by
    rintro D b o ⟨rfl, rfl⟩; rw [HQ.out]; exact ⟨rfl, HB o⟩
  clear HQ HB
  have hq := hid hq
  go_enter Try.func18, Try.ntmps18
  go_wp2
  all_goals first
    | exact wr_t (by assumption) (by decide)
    | exact wr_f (by assumption) (by assumption) (by assumption) (by assumption) (by assumption) (by assumption) (by assumption) (by assumption) (by assumption) (by assumption) (by assumption)
abbrev wordsA : Array Value := #[.string ⟨#[]⟩, .string ⟨#[110, 117, 109]⟩, .string ⟨#[110, 117, 108, 108]⟩, .string ⟨#[99, 111, 112, 121]⟩, .string ⟨#[98, 105, 110]⟩, .string ⟨#[103, 101, 116]⟩, .string ⟨#[112, 117, 116]⟩, .string ⟨#[108, 111, 97, 100]⟩, .string ⟨#[115, 116, 111, 114, 101]⟩, .string ⟨#[103, 105, 118, 101]⟩, .string ⟨#[116, 97, 107, 101]⟩, .string ⟨#[115, 101, 116]⟩, .string ⟨#[110, 101, 119]⟩, .string ⟨#[102, 114, 101, 101]⟩, .string ⟨#[105, 115, 110, 117, 108, 108]⟩, .string ⟨#[99, 97, 108, 108]⟩, .string ⟨#[106, 117, 109, 112]⟩, .string ⟨#[98, 114, 97, 110, 99, 104]⟩, .string ⟨#[114, 101, 116]⟩]
theorem words_built (w : World) : (Instr.build 77 #[(1, .string ⟨#[110, 117, 109]⟩), (2, .string ⟨#[110, 117, 108, 108]⟩), (3, .string ⟨#[99, 111, 112, 121]⟩), (4, .string ⟨#[98, 105, 110]⟩), (5, .string ⟨#[103, 101, 116]⟩), (6, .string ⟨#[112, 117, 116]⟩), (7, .string ⟨#[108, 111, 97, 100]⟩), (8, .string ⟨#[115, 116, 111, 114, 101]⟩), (9, .string ⟨#[103, 105, 118, 101]⟩), (10, .string ⟨#[116, 97, 107, 101]⟩), (11, .string ⟨#[115, 101, 116]⟩), (12, .string ⟨#[110, 101, 119]⟩), (13, .string ⟨#[102, 114, 101, 101]⟩), (14, .string ⟨#[105, 115, 110, 117, 108, 108]⟩), (15, .string ⟨#[99, 97, 108, 108]⟩), (16, .string ⟨#[106, 117, 109, 112]⟩), (17, .string ⟨#[98, 114, 97, 110, 99, 104]⟩), (18, .string ⟨#[114, 101, 116]⟩)]).run Try.prog w = .ok (.agg wordsA) w :=
  run_build w _ _ _ (by kernel_rfl)
theorem table_new (w : World) (zs cs : Array Value) : Below w.heap.size w ((w.alloc (.cells zs 77)).setRow w.heap.size cs) ∧ ((w.alloc (.cells zs 77)).setRow w.heap.size cs).heap[w.heap.size]? = some (.cells cs 77 (0, 0)) := by
  refine ⟨⟨rfl, rfl, rfl, by simp, fun k hk => ?_⟩, setRow_heap _ _ _ _ _ _ (heap_alloc_new w _)⟩
  rw [setRow_other _ _ _ _ (by omega)]
  exact Below.heap_alloc _ _ _ hk
theorem table_st (w : World) (zs : Array Value) (hz : zs.size = 19) : (Instr.storeAt 77 (.pointer (some ⟨w.heap.size, 0, none⟩)) (.agg wordsA)).run Try.prog (w.alloc (.cells zs 77)) = .ok () ((w.alloc (.cells zs 77)).setRow w.heap.size wordsA) := by
  simp only [Instr.storeAt, Instr.sureAddr, Sem.run_bind, Sem.run_pure, Result.andThen_ok]
  exact run_storeVar_row _ _ _ _ _ _ (heap_alloc_new w _) (by kernel_rfl) (by rw [hz]; rfl) (by kernel_rfl)
set_option maxRecDepth 100000 in
theorem word_ret (w : World) : Calls Try.prog 20 #[.int .i64 18] w fun e w' => e = .returned (.string ⟨#[114, 101, 116]⟩) ∧ Hid (Below w.heap.size w w') := by
  have hbu := words_built
  have HT := hid (table_new w)
  have hc := fun zs => cells_at (table_new w zs wordsA).2 18
  go_enter Try.func20, Try.ntmps20
  go_wp2_with ((with_reducible guard_target =~ wpList Try.prog _ _ ({ dst := none, op := Op.store 77 (Operand.tmp 3) (Operand.tmp 4), type := 0, pos := _, after := _, guard := none } :: _) _ _); go_must (refine wpList_store_row rfl 77 _ _ rfl w.heap.size wordsA rfl rfl 77 _ (heap_alloc_new w _) (by kernel_rfl) (by kernel_rfl) (by kernel_rfl) ?_))
  go_ret
  exact ⟨rfl, hid (HT.out _ _).1⟩
end Go.Proofs.Ytfhdiahjfnphkaa
/- What must come at any rate: alive. No conditions. -/
namespace Go.Proofs.Ytfhdiahjfnphkaa
open Go.RowKit Go.Maps
set_option linter.unusedVariables false
set_option linter.unusedSimpArgs false
theorem newW : wrD 12 4 = 4 := by decide
theorem newB : wrBi 12 = true := by decide
set_option maxRecDepth 100000 in
set_option maxHeartbeats 4000000 in
theorem alive_i (w : World) : Calls Try.prog 7 #[] w fun e w' => e = .returned (.bool true) ∧ Hid (Below w.heap.size w w') := by
  have HC := hid (Below.refl w.heap.size w)
  go_enter Try.func7, Try.ntmps7
  go_wp2_with (first
    | (go_at_call 18; have tok := HC; clear HC; go_must (refine (writes_i 12 4 0 0 0 0 i0 i0 s0 n0 n0 i0 i0 w).mono ?_); rintro e w1 ⟨rfl, B1⟩; have HC := hid (after tok.out B1.out tok.out.size); clear B1 tok; rw [newW, newB])
    | (go_at_call 19; have tok := HC; clear HC; go_must (refine (small_i _).mono ?_); rintro e w2 ⟨V, I, F, rfl, HS, B2⟩; have HC := hid (after tok.out B2.out tok.out.size); clear B2 tok)
    | (go_at_call 16; have hh := HS.out; clear HS; have tok := HC; clear HC; go_must (refine (right_s _ _ _ _ hh).mono ?_); rintro e w3 ⟨rfl, B3⟩; have HC := hid (after tok.out B3.out tok.out.size); clear B3 tok hh)
    | (go_at_call 16; refine (right_e _).mono ?_; rintro e w4 ⟨rfl, B4⟩; have tok := HC; clear HC; have HC := hid (after tok.out B4.out tok.out.size); clear B4 tok)
    | (go_at_call 20; have tok := HC; clear HC; go_must (refine (word_ret _).mono ?_); rintro e w5 ⟨rfl, B5⟩; have HC := hid (after tok.out B5.out tok.out.size); clear B5 tok)
    | (go_at_call 12; have tok := HC; clear HC; go_must (refine (func_s _ _ _ _ HS.out).mono ?_); rintro e w7 ⟨rfl, B7⟩; have HC := hid (after tok.out B7.out tok.out.size); clear B7 tok HS))
  go_ret
  exact ⟨rfl, HC⟩
end Go.Proofs.Ytfhdiahjfnphkaa
