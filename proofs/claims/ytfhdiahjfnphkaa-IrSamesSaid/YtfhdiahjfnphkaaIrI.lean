/- What an instruction writes, and the word of Ret. No conditions. -/
import Derived.Test.YtfhdiahjfnphkaaIrB
import Derived.Laws.Tables
namespace Go.Proofs.Ytfhdiahjfnphkaa
open Go.RowKit Go.Maps
set_option linter.unusedVariables false
set_option linter.unusedSimpArgs false
abbrev wrOps : List Int := [1, 2, 3, 4, 5, 7, 9, 10, 12, 14, 15]
abbrev ins (op d a b : Int) (c4 c5 c6 args c8 : Value) (to el : Int) (c11 c12 : Value) : Value := .agg #[.int .i64 op, .int .i64 d, .int .i64 a, .int .i64 b, c4, c5, c6, args, c8, .int .i64 to, .int .i64 el, c11, c12]
def wrB (op : Int) : Bool := decide (op ∈ wrOps)
def wrD (op d : Int) : Int := if wrB op then d else 0
theorem wr_t {op d k : Int} (h : (op == k) = true) (hk : wrB k = true) : d = wrD op d ∧ true = wrB op := by
  obtain rfl : op = k := by simpa using h
  simp [wrD, hk]
theorem wr_f {op d : Int} (h1 : (op == 1) = false) (h2 : (op == 2) = false) (h3 : (op == 3) = false) (h4 : (op == 4) = false) (h5 : (op == 5) = false) (h7 : (op == 7) = false) (h9 : (op == 9) = false) (h10 : (op == 10) = false) (h12 : (op == 12) = false) (h14 : (op == 14) = false) (h15 : (op == 15) = false) :
    0 = wrD op d ∧ false = wrB op := by
  have e : wrB op = false := by simp [wrB, wrOps]; simp at h1 h2 h3 h4 h5 h7 h9 h10 h12 h14 h15; omega
  simp [wrD, e]
set_option maxHeartbeats 4000000 in
theorem writes_i (op d a b to el : Int) (c4 c5 c6 args c8 c11 c12 : Value) (w : World) : Calls Try.prog 18 #[ins op d a b c4 c5 c6 args c8 to el c11 c12] w fun e w' => e = .returned (.tuple #[.int .i64 (wrD op d), .bool (wrB op)]) ∧ Hid (Below w.heap.size w w') := by
  have HB := fun o => hid (below1 w o)
  obtain ⟨Q, HQ⟩ : ∃ Q : Ending → World → Prop, Hid (Q = fun e w' => e = .returned (.tuple #[.int .i64 (wrD op d), .bool (wrB op)]) ∧ Hid (Below w.heap.size w w')) := ⟨_, hid rfl⟩
  rw [← HQ.out]
  have hq : ∀ (D : Int) (b : Bool) (o : Obj), D = wrD op d ∧ b = wrB op → Q (.returned (.tuple #[.int .i64 D, .bool b])) (w.alloc o) := by
    rintro D b o ⟨rfl, rfl⟩; rw [HQ.out]; exact ⟨rfl, HB o⟩
  clear HQ HB
  have hq := hid hq
  go_enter Try.func18, Try.ntmps18
  go_wp2
  all_goals first
    | exact wr_t (by assumption) (by decide)
    | exact wr_f (by assumption) (by assumption) (by assumption) (by assumption) (by assumption) (by assumption) (by assumption) (by assumption) (by assumption) (by assumption) (by assumption)
abbrev wordsA : Array Value := #[.string ⟨#[]⟩, .string ⟨#[110, 117, 109]⟩, .string ⟨#[110, 117, 108, 108]⟩, .string ⟨#[99, 111, 112, 121]⟩, .string ⟨#[98, 105, 110]⟩, .string ⟨#[103, 101, 116]⟩, .string ⟨#[112, 117, 116]⟩, .string ⟨#[108, 111, 97, 100]⟩, .string ⟨#[115, 116, 111, 114, 101]⟩, .string ⟨#[103, 105, 118, 101]⟩, .string ⟨#[116, 97, 107, 101]⟩, .string ⟨#[115, 101, 116]⟩, .string ⟨#[110, 101, 119]⟩, .string ⟨#[102, 114, 101, 101]⟩, .string ⟨#[105, 115, 110, 117, 108, 108]⟩, .string ⟨#[99, 97, 108, 108]⟩, .string ⟨#[106, 117, 109, 112]⟩, .string ⟨#[98, 114, 97, 110, 99, 104]⟩, .string ⟨#[114, 101, 116]⟩]
theorem words_built (w : World) : (Instr.build 77 #[(1, .string ⟨#[110, 117, 109]⟩), (2, .string ⟨#[110, 117, 108, 108]⟩), (3, .string ⟨#[99, 111, 112, 121]⟩), (4, .string ⟨#[98, 105, 110]⟩), (5, .string ⟨#[103, 101, 116]⟩), (6, .string ⟨#[112, 117, 116]⟩), (7, .string ⟨#[108, 111, 97, 100]⟩), (8, .string ⟨#[115, 116, 111, 114, 101]⟩), (9, .string ⟨#[103, 105, 118, 101]⟩), (10, .string ⟨#[116, 97, 107, 101]⟩), (11, .string ⟨#[115, 101, 116]⟩), (12, .string ⟨#[110, 101, 119]⟩), (13, .string ⟨#[102, 114, 101, 101]⟩), (14, .string ⟨#[105, 115, 110, 117, 108, 108]⟩), (15, .string ⟨#[99, 97, 108, 108]⟩), (16, .string ⟨#[106, 117, 109, 112]⟩), (17, .string ⟨#[98, 114, 97, 110, 99, 104]⟩), (18, .string ⟨#[114, 101, 116]⟩)]).run Try.prog w = .ok (.agg wordsA) w :=
  run_build w _ _ _ (by kernel_rfl)
theorem table_new (w : World) (zs cs : Array Value) : Below w.heap.size w ((w.alloc (.cells zs 77)).setRow w.heap.size cs) ∧ ((w.alloc (.cells zs 77)).setRow w.heap.size cs).heap[w.heap.size]? = some (.cells cs 77 (0, 0)) := by
  refine ⟨⟨rfl, rfl, rfl, by simp, fun k hk => ?_⟩, setRow_heap _ _ _ _ _ _ (heap_alloc_new w _)⟩
  rw [setRow_other _ _ _ _ (by omega)]
  exact Below.heap_alloc _ _ _ hk
theorem table_st (w : World) (zs : Array Value) (hz : zs.size = 19) : (Instr.storeAt 77 (.pointer (some ⟨w.heap.size, 0, none⟩)) (.agg wordsA)).run Try.prog (w.alloc (.cells zs 77)) = .ok () ((w.alloc (.cells zs 77)).setRow w.heap.size wordsA) := by
  simp only [Instr.storeAt, Instr.sureAddr, Sem.run_bind, Sem.run_pure, Result.andThen_ok]
  exact run_storeVar_row _ _ _ _ _ _ (heap_alloc_new w _) (by kernel_rfl) (by rw [hz]; rfl) (by kernel_rfl)
set_option maxRecDepth 100000 in
theorem word_ret (w : World) : Calls Try.prog 20 #[.int .i64 18] w fun e w' => e = .returned (.string ⟨#[114, 101, 116]⟩) ∧ Hid (Below w.heap.size w w') := by
  have hbu := words_built
  have HT := hid (table_new w)
  have hc := fun zs => cells_at (table_new w zs wordsA).2 18
  go_enter Try.func20, Try.ntmps20
  go_wp2_with ((with_reducible guard_target =~ wpList Try.prog _ _ ({ dst := none, op := Op.store 77 (Operand.tmp 3) (Operand.tmp 4), type := 0, pos := _, after := _, guard := none } :: _) _ _); go_must (refine wpList_store_row rfl 77 _ _ rfl w.heap.size wordsA rfl rfl 77 _ (heap_alloc_new w _) (by kernel_rfl) (by kernel_rfl) (by kernel_rfl) ?_))
  go_ret
  exact ⟨rfl, hid (HT.out _ _).1⟩
end Go.Proofs.Ytfhdiahjfnphkaa
