/- What a call asks. Condition: at most 40 arguments. -/
import Derived.Test.YtfhdiahjfnphkaaCR22
import Derived.Test.YtfhdiahjfnphkaaCR24
namespace Go.Proofs.Ytfhdiahjfnphkaa
open Go.RowKit Go.Maps
set_option linter.unusedVariables false
set_option linter.unusedSimpArgs false
set_option maxRecDepth 100000 in
set_option maxHeartbeats 8000000 in
theorem callj_out (p : JP) (J : Nat) (r : InD) (ao mo : Option Addr) (ac mc : Nat) (w : World) (hj : JG w J p) (hX : IntsM w ao r.xs) (hb0 : (inN p.x.vs.length r.d && (inN p.cs.length r.f && r.xs.all (inN p.x.vs.length))) = false) :
    Calls Try.prog 68 #[.pointer (some ⟨J, 0, none⟩), .agg (InV r ao ac mo mc)] w fun e w' => e = .returned (.int .i64 15) ∧ Hid (Below w.heap.size w w') := by
  obtain ⟨op, d, a, b, tt, el, f, n, l, c, sg, xs, ms⟩ := r
  have HJ := hid (fun W (hb : Below w.heap.size w W) => hj.later hb)
  have HXS := hid (fun W (hb : Below w.heap.size w W) => hX.later int_stays hb)
  have HB := hid (below2 w)
  have HD0 := hid (below1 w (.cells (InV ⟨op, d, a, b, tt, el, f, n, l, c, sg, xs, ms⟩ ao ac mo mc) 49)).drew
  have HX0 : Hid ((w.alloc (.cells (InV ⟨op, d, a, b, tt, el, f, n, l, c, sg, xs, ms⟩ ao ac mo mc) 49)).drew.heap[w.heap.size]? = some (.cells (InV ⟨op, d, a, b, tt, el, f, n, l, c, sg, xs, ms⟩ ao ac mo mc) 49 (0, 0))) := hid (heap_alloc_new w _)
  have HKp := hid (fun W (hb : Below (w.alloc (.cells (InV ⟨op, d, a, b, tt, el, f, n, l, c, sg, xs, ms⟩ ao ac mo mc) 49)).drew.heap.size (w.alloc (.cells (InV ⟨op, d, a, b, tt, el, f, n, l, c, sg, xs, ms⟩ ao ac mo mc) 49)).drew W) => keep3 p J w _ _ 49 (fun W h => HJ.out W h) HD0.out HX0.out W hb)
  have hl : (p.cs.length : Int) ≤ 9223372036854775807 := by have := hj.fn.1; omega
  clear hj hX
  cases e : inN p.x.vs.length d
  case false =>
    clear hb0
    go_enter Try.func68, Try.ntmps68
    go_wp2
    refine wp_region_held_drew (S := fun W => Hid (Below w.heap.size w W) ∧ (∀ i, W.cell? ⟨w.heap.size, i, none⟩ = (InV ⟨op, d, a, b, tt, el, f, n, l, c, sg, xs, ms⟩ ao ac mo mc)[i]?) ∧ (∀ i, W.cell? ⟨J, i, none⟩ = (#[.slice p.sa p.ss.length p.sc, .slice p.ca p.cs.length p.cc, .map (some p.B), .string p.x.nm, .int .i64 p.x.pr, .slice p.va p.x.vs.length p.vc, .bool p.x.rt.t.p, .string p.x.rt.t.name, .int .i64 p.x.rt.cls, .slice p.fa p.x.fr.length p.fc, .slice p.ia p.x.ins.length p.ic] : Array Value)[i]?)) (by kernel_rfl) ?_ (fun hHeld0 => ?_)
    · (try dsimp only) <;> (first | exact HKp.out _ (Below.refl _ _) | exact HKp.out _ (below1 _ _))
    refine wpAnyH_take (i := 0) (oi := { dst := Option.some 8, op := Go.Op.move (Go.Operand.tmp 0), type := 67, pos := "ir.go:388", after := #[], guard := Option.none }) (v := ?_) rfl (by kernel_rfl) (by kernel_rfl) (by kernel_rfl) (fun _ _ _ h => h) (Or.inl ⟨by rfl, ?_⟩) (by assumption) ?_
    rotate_left
    · intro w5x hSwx
      try dsimp only at hSwx
      go_simp
      try with_reducible rfl
    try simp only [Act.put, List.setIfInBounds_toArray, List.set_cons_zero, List.set_cons_succ]
    refine wpAnyH_take (i := 1) (oi := { dst := Option.some 9, op := Go.Op.fieldAddr 49 (Go.Operand.tmp 3) 1, type := 0, pos := "ir.go:388", after := #[], guard := Option.none }) (v := ?_) rfl (by kernel_rfl) (by kernel_rfl) (by kernel_rfl) (fun _ _ _ h => h) (Or.inl ⟨by rfl, ?_⟩) (by assumption) ?_
    rotate_left
    · intro w5x hSwx
      try dsimp only at hSwx
      go_simp
      try with_reducible rfl
    try simp only [Act.put, List.setIfInBounds_toArray, List.set_cons_zero, List.set_cons_succ]
    refine wpAnyH_take (i := 2) (oi := { dst := Option.some 10, op := Go.Op.load 3 (Go.Operand.tmp 9), type := 3, pos := "ir.go:388", after := #[{ on := 1, ground := Go.Ground.data }], guard := Option.none }) (v := ?_) rfl (by kernel_rfl) (by kernel_rfl) (by kernel_rfl) (fun _ _ _ h => h) (Or.inl ⟨by rfl, ?_⟩) (by assumption) ?_
    rotate_left
    · intro w5x hSwx
      try dsimp only at hSwx
      go_simp
      try with_reducible rfl
    try simp only [Act.put, List.setIfInBounds_toArray, List.set_cons_zero, List.set_cons_succ]
    refine wpAnyH_ready (rs := [3]) (by kernel_rfl) (by simp) ?_
    refine AllReadyH.cons (o := { dst := Option.some 11, op := Go.Op.buildSlice 34 1 #[(0, Go.Operand.tmp 10)], type := 34, pos := "ir.go:388", after := #[{ on := 2, ground := Go.Ground.data }], guard := Option.none }) rfl (fun K hK => ?_) AllReadyH.nil
    go_simp
    refine hK.out _ _ ?_ (fun hHeld3 => ?_)
    · (try dsimp only) <;> (first | exact HKp.out _ (Below.refl _ _) | exact HKp.out _ (below1 _ _))
    clear hK K hHeld0
    try simp only [Act.put, List.setIfInBounds_toArray, List.set_cons_zero, List.set_cons_succ]
    refine wpAnyH_ready (rs := [4]) (by kernel_rfl) (by simp) ?_
    refine AllReadyH.cons (o := { dst := Option.some 12, op := Go.Op.call { callee := Go.Callee.value (Go.Operand.func 74), args := #[Go.Operand.tmp 8, Go.Operand.tmp 11], argTypes := #[67, 34] }, type := 4, pos := "ir.go:388", after := #[{ on := 0, ground := Go.Ground.data }, { on := 3, ground := Go.Ground.data }], guard := Option.none }) rfl (fun K hK => ?_) AllReadyH.nil
    go_simp
    go_wp2_with (first | (go_at_call 74; refine (there_1 p d _ _ _ _ (new_cellD _ _ _ _) (HJ.out _ (after HD0.out (below1 _ _) HD0.out.size)) e).mono ?_; rintro e w' ⟨rfl, rfl⟩))
    refine hK.out _ _ ?_ (fun hHeld6 => ?_)
    · (try dsimp only) <;> (first | exact HKp.out _ (Below.refl _ _) | exact HKp.out _ (below1 _ _))
    clear hK K hHeld3
    try simp only [Act.put, List.setIfInBounds_toArray, List.set_cons_zero, List.set_cons_succ]
    refine wpAnyH_take (i := 5) (oi := { dst := Option.some 13, op := Go.Op.unOp Go.UnOp.not 4 (Go.Operand.tmp 12), type := 4, pos := "ir.go:388", after := #[{ on := 4, ground := Go.Ground.data }], guard := Option.none }) (v := ?_) rfl (by kernel_rfl) (by kernel_rfl) (by kernel_rfl) (fun _ _ _ h => h) (Or.inl ⟨by rfl, ?_⟩) (by assumption) ?_
    rotate_left
    · intro w5x hSwx
      try dsimp only at hSwx
      go_simp
      try with_reducible rfl
    try simp only [Act.put, List.setIfInBounds_toArray, List.set_cons_zero, List.set_cons_succ]
    refine wpAnyH_take (i := 6) (oi := { dst := Option.some 14, op := Go.Op.move (Go.Operand.tmp 13), type := 4, pos := "ir.go:388", after := #[{ on := 5, ground := Go.Ground.data }, { on := 4, ground := Go.Ground.chain }], guard := Option.none }) (v := ?_) rfl (by kernel_rfl) (by kernel_rfl) (by kernel_rfl) (fun _ _ _ h => h) (Or.inl ⟨by rfl, ?_⟩) (by assumption) ?_
    rotate_left
    · intro w5x hSwx
      try dsimp only at hSwx
      go_simp
      try with_reducible rfl
    try simp only [Act.put, List.setIfInBounds_toArray, List.set_cons_zero, List.set_cons_succ]
    refine wpAnyH_take (i := 7) (oi := { dst := Option.some 15, op := Go.Op.fieldAddr 49 (Go.Operand.tmp 3) 4, type := 0, pos := "ir.go:388", after := #[{ on := 6, ground := Go.Ground.guard }], guard := Option.some (6, Bool.false) }) (v := undef) rfl (by kernel_rfl) (by kernel_rfl) (by kernel_rfl) (fun _ _ _ h => h) (Or.inr ⟨by rfl, rfl⟩) (by assumption) ?_
    try simp only [Act.put, List.setIfInBounds_toArray, List.set_cons_zero, List.set_cons_succ]
    refine wpAnyH_take (i := 8) (oi := { dst := Option.some 16, op := Go.Op.load 3 (Go.Operand.tmp 15), type := 3, pos := "ir.go:388", after := #[{ on := 7, ground := Go.Ground.data }, { on := 6, ground := Go.Ground.guard }], guard := Option.some (6, Bool.false) }) (v := undef) rfl (by kernel_rfl) (by kernel_rfl) (by kernel_rfl) (fun _ _ _ h => h) (Or.inr ⟨by rfl, rfl⟩) (by assumption) ?_
    try simp only [Act.put, List.setIfInBounds_toArray, List.set_cons_zero, List.set_cons_succ]
    refine wpAnyH_take (i := 9) (oi := { dst := Option.some 17, op := Go.Op.binOp Go.BinOp.lss 3 (Go.Operand.tmp 16) (Go.Operand.const (Go.Value.int Go.IntKind.i64 0)) 3, type := 4, pos := "ir.go:388", after := #[{ on := 8, ground := Go.Ground.data }, { on := 6, ground := Go.Ground.guard }], guard := Option.some (6, Bool.false) }) (v := undef) rfl (by kernel_rfl) (by kernel_rfl) (by kernel_rfl) (fun _ _ _ h => h) (Or.inr ⟨by rfl, rfl⟩) (by assumption) ?_
    try simp only [Act.put, List.setIfInBounds_toArray, List.set_cons_zero, List.set_cons_succ]
    refine wpAnyH_take (i := 10) (oi := { dst := Option.some 18, op := Go.Op.pick (Go.Operand.tmp 14) (Go.Operand.const (Go.Value.bool Bool.true)) (Go.Operand.tmp 17), type := 4, pos := "ir.go:388", after := #[{ on := 6, ground := Go.Ground.data }, { on := 9, ground := Go.Ground.data }], guard := Option.none }) (v := ?_) rfl (by kernel_rfl) (by kernel_rfl) (by kernel_rfl) (fun _ _ _ h => h) (Or.inl ⟨by rfl, ?_⟩) (by assumption) ?_
    rotate_left
    · intro w5x hSwx
      try dsimp only at hSwx
      go_simp
      try with_reducible rfl
    try simp only [Act.put, List.setIfInBounds_toArray, List.set_cons_zero, List.set_cons_succ]
    refine wpAnyH_take (i := 11) (oi := { dst := Option.some 19, op := Go.Op.move (Go.Operand.tmp 18), type := 4, pos := "ir.go:388", after := #[{ on := 10, ground := Go.Ground.data }, { on := 6, ground := Go.Ground.chain }], guard := Option.none }) (v := ?_) rfl (by kernel_rfl) (by kernel_rfl) (by kernel_rfl) (fun _ _ _ h => h) (Or.inl ⟨by rfl, ?_⟩) (by assumption) ?_
    rotate_left
    · intro w5x hSwx
      try dsimp only at hSwx
      go_simp
      try with_reducible rfl
    try simp only [Act.put, List.setIfInBounds_toArray, List.set_cons_zero, List.set_cons_succ]
    refine wpAnyH_take (i := 12) (oi := { dst := Option.some 20, op := Go.Op.fieldAddr 49 (Go.Operand.tmp 3) 4, type := 0, pos := "ir.go:388", after := #[{ on := 11, ground := Go.Ground.guard }], guard := Option.some (11, Bool.false) }) (v := undef) rfl (by kernel_rfl) (by kernel_rfl) (by kernel_rfl) (fun _ _ _ h => h) (Or.inr ⟨by rfl, rfl⟩) (by assumption) ?_
    try simp only [Act.put, List.setIfInBounds_toArray, List.set_cons_zero, List.set_cons_succ]
    refine wpAnyH_take (i := 13) (oi := { dst := Option.some 21, op := Go.Op.load 3 (Go.Operand.tmp 20), type := 3, pos := "ir.go:388", after := #[{ on := 12, ground := Go.Ground.data }, { on := 11, ground := Go.Ground.guard }], guard := Option.some (11, Bool.false) }) (v := undef) rfl (by kernel_rfl) (by kernel_rfl) (by kernel_rfl) (fun _ _ _ h => h) (Or.inr ⟨by rfl, rfl⟩) (by assumption) ?_
    try simp only [Act.put, List.setIfInBounds_toArray, List.set_cons_zero, List.set_cons_succ]
    refine wpAnyH_take (i := 14) (oi := { dst := Option.some 22, op := Go.Op.move (Go.Operand.tmp 0), type := 67, pos := "ir.go:388", after := #[{ on := 11, ground := Go.Ground.guard }], guard := Option.some (11, Bool.false) }) (v := undef) rfl (by kernel_rfl) (by kernel_rfl) (by kernel_rfl) (fun _ _ _ h => h) (Or.inr ⟨by rfl, rfl⟩) (by assumption) ?_
    try simp only [Act.put, List.setIfInBounds_toArray, List.set_cons_zero, List.set_cons_succ]
    refine wpAnyH_take (i := 15) (oi := { dst := Option.some 23, op := Go.Op.nilCheck (Go.Operand.tmp 22), type := 0, pos := "ir.go:388", after := #[{ on := 14, ground := Go.Ground.data }, { on := 11, ground := Go.Ground.guard }], guard := Option.some (11, Bool.false) }) (v := undef) rfl (by kernel_rfl) (by kernel_rfl) (by kernel_rfl) (fun _ _ _ h => h) (Or.inr ⟨by rfl, rfl⟩) (by assumption) ?_
    try simp only [Act.put, List.setIfInBounds_toArray, List.set_cons_zero, List.set_cons_succ]
    refine wpAnyH_take (i := 16) (oi := { dst := Option.some 24, op := Go.Op.fieldAddr 70 (Go.Operand.tmp 23) 0, type := 0, pos := "ir.go:388", after := #[{ on := 15, ground := Go.Ground.data }, { on := 11, ground := Go.Ground.guard }], guard := Option.some (11, Bool.false) }) (v := undef) rfl (by kernel_rfl) (by kernel_rfl) (by kernel_rfl) (fun _ _ _ h => h) (Or.inr ⟨by rfl, rfl⟩) (by assumption) ?_
    try simp only [Act.put, List.setIfInBounds_toArray, List.set_cons_zero, List.set_cons_succ]
    refine wpAnyH_take (i := 17) (oi := { dst := Option.some 25, op := Go.Op.fieldAddr 25 (Go.Operand.tmp 24) 1, type := 0, pos := "ir.go:388", after := #[{ on := 16, ground := Go.Ground.data }, { on := 11, ground := Go.Ground.guard }], guard := Option.some (11, Bool.false) }) (v := undef) rfl (by kernel_rfl) (by kernel_rfl) (by kernel_rfl) (fun _ _ _ h => h) (Or.inr ⟨by rfl, rfl⟩) (by assumption) ?_
    try simp only [Act.put, List.setIfInBounds_toArray, List.set_cons_zero, List.set_cons_succ]
    refine wpAnyH_take (i := 18) (oi := { dst := Option.some 26, op := Go.Op.load 23 (Go.Operand.tmp 25), type := 23, pos := "ir.go:388", after := #[{ on := 17, ground := Go.Ground.data }, { on := 11, ground := Go.Ground.guard }], guard := Option.some (11, Bool.false) }) (v := undef) rfl (by kernel_rfl) (by kernel_rfl) (by kernel_rfl) (fun _ _ _ h => h) (Or.inr ⟨by rfl, rfl⟩) (by assumption) ?_
    try simp only [Act.put, List.setIfInBounds_toArray, List.set_cons_zero, List.set_cons_succ]
    refine wpAnyH_take (i := 19) (oi := { dst := Option.some 27, op := Go.Op.call { callee := Go.Callee.builtin Go.Builtin.len, args := #[Go.Operand.tmp 26], argTypes := #[23] }, type := 3, pos := "ir.go:388", after := #[{ on := 18, ground := Go.Ground.data }, { on := 11, ground := Go.Ground.guard }], guard := Option.some (11, Bool.false) }) (v := undef) rfl (by kernel_rfl) (by kernel_rfl) (by kernel_rfl) (fun _ _ _ h => h) (Or.inr ⟨by rfl, rfl⟩) (by assumption) ?_
    try simp only [Act.put, List.setIfInBounds_toArray, List.set_cons_zero, List.set_cons_succ]
    refine wpAnyH_take (i := 20) (oi := { dst := Option.some 28, op := Go.Op.binOp Go.BinOp.geq 3 (Go.Operand.tmp 21) (Go.Operand.tmp 27) 3, type := 4, pos := "ir.go:388", after := #[{ on := 13, ground := Go.Ground.data }, { on := 19, ground := Go.Ground.data }, { on := 11, ground := Go.Ground.guard }], guard := Option.some (11, Bool.false) }) (v := undef) rfl (by kernel_rfl) (by kernel_rfl) (by kernel_rfl) (fun _ _ _ h => h) (Or.inr ⟨by rfl, rfl⟩) (by assumption) ?_
    try simp only [Act.put, List.setIfInBounds_toArray, List.set_cons_zero, List.set_cons_succ]
    refine wpAnyH_take (i := 21) (oi := { dst := Option.some 29, op := Go.Op.pick (Go.Operand.tmp 19) (Go.Operand.const (Go.Value.bool Bool.true)) (Go.Operand.tmp 28), type := 4, pos := "ir.go:388", after := #[{ on := 11, ground := Go.Ground.data }, { on := 20, ground := Go.Ground.data }], guard := Option.none }) (v := ?_) rfl (by kernel_rfl) (by kernel_rfl) (by kernel_rfl) (fun _ _ _ h => h) (Or.inl ⟨by rfl, ?_⟩) (by assumption) ?_
    rotate_left
    · intro w5x hSwx
      try dsimp only at hSwx
      go_simp
      try with_reducible rfl
    try simp only [Act.put, List.setIfInBounds_toArray, List.set_cons_zero, List.set_cons_succ]
    refine wpAnyH_take (i := 22) (oi := { dst := Option.some 30, op := Go.Op.move (Go.Operand.tmp 29), type := 4, pos := "ir.go:388", after := #[{ on := 21, ground := Go.Ground.data }, { on := 11, ground := Go.Ground.chain }], guard := Option.none }) (v := ?_) rfl (by kernel_rfl) (by kernel_rfl) (by kernel_rfl) (fun _ _ _ h => h) (Or.inl ⟨by rfl, ?_⟩) (by assumption) ?_
    rotate_left
    · intro w5x hSwx
      try dsimp only at hSwx
      go_simp
      try with_reducible rfl
    try simp only [Act.put, List.setIfInBounds_toArray, List.set_cons_zero, List.set_cons_succ]
    refine wpAnyH_take (i := 23) (oi := { dst := Option.some 31, op := Go.Op.move (Go.Operand.tmp 0), type := 67, pos := "ir.go:388", after := #[{ on := 22, ground := Go.Ground.guard }], guard := Option.some (22, Bool.false) }) (v := undef) rfl (by kernel_rfl) (by kernel_rfl) (by kernel_rfl) (fun _ _ _ h => h) (Or.inr ⟨by rfl, rfl⟩) (by assumption) ?_
    try simp only [Act.put, List.setIfInBounds_toArray, List.set_cons_zero, List.set_cons_succ]
    refine wpAnyH_take (i := 24) (oi := { dst := Option.some 32, op := Go.Op.fieldAddr 49 (Go.Operand.tmp 3) 7, type := 0, pos := "ir.go:388", after := #[{ on := 22, ground := Go.Ground.guard }], guard := Option.some (22, Bool.false) }) (v := undef) rfl (by kernel_rfl) (by kernel_rfl) (by kernel_rfl) (fun _ _ _ h => h) (Or.inr ⟨by rfl, rfl⟩) (by assumption) ?_
    try simp only [Act.put, List.setIfInBounds_toArray, List.set_cons_zero, List.set_cons_succ]
    refine wpAnyH_take (i := 25) (oi := { dst := Option.some 33, op := Go.Op.load 34 (Go.Operand.tmp 32), type := 34, pos := "ir.go:388", after := #[{ on := 24, ground := Go.Ground.data }, { on := 22, ground := Go.Ground.guard }], guard := Option.some (22, Bool.false) }) (v := undef) rfl (by kernel_rfl) (by kernel_rfl) (by kernel_rfl) (fun _ _ _ h => h) (Or.inr ⟨by rfl, rfl⟩) (by assumption) ?_
    try simp only [Act.put, List.setIfInBounds_toArray, List.set_cons_zero, List.set_cons_succ]
    refine wpAnyH_take (i := 26) (oi := { dst := Option.some 34, op := Go.Op.call { callee := Go.Callee.value (Go.Operand.func 74), args := #[Go.Operand.tmp 31, Go.Operand.tmp 33], argTypes := #[67, 34] }, type := 4, pos := "ir.go:388", after := #[{ on := 23, ground := Go.Ground.data }, { on := 25, ground := Go.Ground.data }, { on := 22, ground := Go.Ground.chain }, { on := 22, ground := Go.Ground.guard }], guard := Option.some (22, Bool.false) }) (v := undef) rfl (by kernel_rfl) (by kernel_rfl) (by kernel_rfl) (fun _ _ _ h => h) (Or.inr ⟨by rfl, rfl⟩) (by assumption) ?_
    try simp only [Act.put, List.setIfInBounds_toArray, List.set_cons_zero, List.set_cons_succ]
    refine wpAnyH_take (i := 27) (oi := { dst := Option.some 35, op := Go.Op.unOp Go.UnOp.not 4 (Go.Operand.tmp 34), type := 4, pos := "ir.go:388", after := #[{ on := 26, ground := Go.Ground.data }, { on := 22, ground := Go.Ground.guard }], guard := Option.some (22, Bool.false) }) (v := undef) rfl (by kernel_rfl) (by kernel_rfl) (by kernel_rfl) (fun _ _ _ h => h) (Or.inr ⟨by rfl, rfl⟩) (by assumption) ?_
    try simp only [Act.put, List.setIfInBounds_toArray, List.set_cons_zero, List.set_cons_succ]
    refine wpAnyH_take (i := 28) (oi := { dst := Option.some 36, op := Go.Op.pick (Go.Operand.tmp 30) (Go.Operand.const (Go.Value.bool Bool.true)) (Go.Operand.tmp 35), type := 4, pos := "ir.go:388", after := #[{ on := 22, ground := Go.Ground.data }, { on := 27, ground := Go.Ground.data }], guard := Option.none }) (v := ?_) rfl (by kernel_rfl) (by kernel_rfl) (by kernel_rfl) (fun _ _ _ h => h) (Or.inl ⟨by rfl, ?_⟩) (by assumption) ?_
    rotate_left
    · intro w5x hSwx
      try dsimp only at hSwx
      go_simp
      try with_reducible rfl
    try simp only [Act.put, List.setIfInBounds_toArray, List.set_cons_zero, List.set_cons_succ]
    refine wpAnyH_done (by kernel_rfl) ?_ _
    all_goals go_wp2
    all_goals go_ret
    all_goals exact ⟨rfl, hid (after HD0.out (below1 _ _) HD0.out.size)⟩
  case true =>
    rw [show (inN p.x.vs.length (InD.mk op d a b tt el f n l c sg xs ms).d) = true from e, Bool.true_and] at hb0
    by_cases e1 : f < 0
    case' neg =>
      by_cases e2 : (p.cs.length : Int) ≤ f
      case' neg =>
        have e3 : xs.all (inN p.x.vs.length) = false := by
          rw [show (InD.mk op d a b tt el f n l c sg xs ms).f = f from rfl, inN_t e1 e2] at hb0
          simpa using hb0
    all_goals clear hb0
    all_goals
      go_enter Try.func68, Try.ntmps68
      go_wp2
      have G1 : True := trivial
      first
        | refine wp_region_held_drew (S := fun W => Hid (Below w.heap.size w W) ∧ (∀ i, W.cell? ⟨w.heap.size, i, none⟩ = (InV ⟨op, d, a, b, tt, el, f, n, l, c, sg, xs, ms⟩ ao ac mo mc)[i]?) ∧ (∀ i, W.cell? ⟨J, i, none⟩ = (#[.slice p.sa p.ss.length p.sc, .slice p.ca p.cs.length p.cc, .map (some p.B), .string p.x.nm, .int .i64 p.x.pr, .slice p.va p.x.vs.length p.vc, .bool p.x.rt.t.p, .string p.x.rt.t.name, .int .i64 p.x.rt.cls, .slice p.fa p.x.fr.length p.fc, .slice p.ia p.x.ins.length p.ic] : Array Value)[i]?)) (by kernel_rfl) ?_ (fun hHeld0 => ?_)
          · (try dsimp only) <;> (first | exact HKp.out _ (Below.refl _ _) | exact HKp.out _ (below1 _ _))
          refine wpAnyH_take (i := 0) (oi := { dst := Option.some 8, op := Go.Op.move (Go.Operand.tmp 0), type := 67, pos := "ir.go:388", after := #[], guard := Option.none }) (v := ?_) rfl (by kernel_rfl) (by kernel_rfl) (by kernel_rfl) (fun _ _ _ h => h) (Or.inl ⟨by rfl, ?_⟩) (by assumption) ?_
          rotate_left
          · intro w5x hSwx
            try dsimp only at hSwx
            go_simp
            try with_reducible rfl
          try simp only [Act.put, List.setIfInBounds_toArray, List.set_cons_zero, List.set_cons_succ]
          refine wpAnyH_take (i := 1) (oi := { dst := Option.some 9, op := Go.Op.fieldAddr 49 (Go.Operand.tmp 3) 1, type := 0, pos := "ir.go:388", after := #[], guard := Option.none }) (v := ?_) rfl (by kernel_rfl) (by kernel_rfl) (by kernel_rfl) (fun _ _ _ h => h) (Or.inl ⟨by rfl, ?_⟩) (by assumption) ?_
          rotate_left
          · intro w5x hSwx
            try dsimp only at hSwx
            go_simp
            try with_reducible rfl
          try simp only [Act.put, List.setIfInBounds_toArray, List.set_cons_zero, List.set_cons_succ]
          refine wpAnyH_take (i := 2) (oi := { dst := Option.some 10, op := Go.Op.load 3 (Go.Operand.tmp 9), type := 3, pos := "ir.go:388", after := #[{ on := 1, ground := Go.Ground.data }], guard := Option.none }) (v := ?_) rfl (by kernel_rfl) (by kernel_rfl) (by kernel_rfl) (fun _ _ _ h => h) (Or.inl ⟨by rfl, ?_⟩) (by assumption) ?_
          rotate_left
          · intro w5x hSwx
            try dsimp only at hSwx
            go_simp
            try with_reducible rfl
          try simp only [Act.put, List.setIfInBounds_toArray, List.set_cons_zero, List.set_cons_succ]
          refine wpAnyH_ready (rs := [3]) (by kernel_rfl) (by simp) ?_
          refine AllReadyH.cons (o := { dst := Option.some 11, op := Go.Op.buildSlice 34 1 #[(0, Go.Operand.tmp 10)], type := 34, pos := "ir.go:388", after := #[{ on := 2, ground := Go.Ground.data }], guard := Option.none }) rfl (fun K hK => ?_) AllReadyH.nil
          go_simp
          refine hK.out _ _ ?_ (fun hHeld3 => ?_)
          · (try dsimp only) <;> (first | exact HKp.out _ (Below.refl _ _) | exact HKp.out _ (below1 _ _))
          clear hK K hHeld0
          try simp only [Act.put, List.setIfInBounds_toArray, List.set_cons_zero, List.set_cons_succ]
          refine wpAnyH_ready (rs := [4]) (by kernel_rfl) (by simp) ?_
          refine AllReadyH.cons (o := { dst := Option.some 12, op := Go.Op.call { callee := Go.Callee.value (Go.Operand.func 74), args := #[Go.Operand.tmp 8, Go.Operand.tmp 11], argTypes := #[67, 34] }, type := 4, pos := "ir.go:388", after := #[{ on := 0, ground := Go.Ground.data }, { on := 3, ground := Go.Ground.data }], guard := Option.none }) rfl (fun K hK => ?_) AllReadyH.nil
          go_simp
          go_wp2_with (first | (go_at_call 74; have hh := G1; clear G1; refine (there_1 p d _ _ _ _ (new_cellD _ _ _ _) (HJ.out _ (after HD0.out (below1 _ _) HD0.out.size)) e).mono ?_; rintro e w' ⟨rfl, rfl⟩) | (go_at_call 74; refine (there_g xs ao ac J _ _ _ false _ (HXS.out _ (after HD0.out (below1 _ _) HD0.out.size)) (HJ.out _ (after HD0.out (below1 _ _) HD0.out.size)).vars e3).mono ?_; rintro e w' ⟨rfl, rfl⟩))
          refine hK.out _ _ ?_ (fun hHeld6 => ?_)
          · (try dsimp only) <;> (first | exact HKp.out _ (Below.refl _ _) | exact HKp.out _ (below1 _ _))
          clear hK K hHeld3
          try simp only [Act.put, List.setIfInBounds_toArray, List.set_cons_zero, List.set_cons_succ]
          refine wpAnyH_take (i := 5) (oi := { dst := Option.some 13, op := Go.Op.unOp Go.UnOp.not 4 (Go.Operand.tmp 12), type := 4, pos := "ir.go:388", after := #[{ on := 4, ground := Go.Ground.data }], guard := Option.none }) (v := ?_) rfl (by kernel_rfl) (by kernel_rfl) (by kernel_rfl) (fun _ _ _ h => h) (Or.inl ⟨by rfl, ?_⟩) (by assumption) ?_
          rotate_left
          · intro w5x hSwx
            try dsimp only at hSwx
            go_simp
            try with_reducible rfl
          try simp only [Act.put, List.setIfInBounds_toArray, List.set_cons_zero, List.set_cons_succ]
          refine wpAnyH_take (i := 6) (oi := { dst := Option.some 14, op := Go.Op.move (Go.Operand.tmp 13), type := 4, pos := "ir.go:388", after := #[{ on := 5, ground := Go.Ground.data }, { on := 4, ground := Go.Ground.chain }], guard := Option.none }) (v := ?_) rfl (by kernel_rfl) (by kernel_rfl) (by kernel_rfl) (fun _ _ _ h => h) (Or.inl ⟨by rfl, ?_⟩) (by assumption) ?_
          rotate_left
          · intro w5x hSwx
            try dsimp only at hSwx
            go_simp
            try with_reducible rfl
          try simp only [Act.put, List.setIfInBounds_toArray, List.set_cons_zero, List.set_cons_succ]
          refine wpAnyH_take (i := 7) (oi := { dst := Option.some 15, op := Go.Op.fieldAddr 49 (Go.Operand.tmp 3) 4, type := 0, pos := "ir.go:388", after := #[{ on := 6, ground := Go.Ground.guard }], guard := Option.some (6, Bool.false) }) (v := ?_) rfl (by kernel_rfl) (by kernel_rfl) (by kernel_rfl) (fun _ _ _ h => h) (Or.inl ⟨by rfl, ?_⟩) (by assumption) ?_
          rotate_left
          · intro w5x hSwx
            try dsimp only at hSwx
            go_simp
            try with_reducible rfl
          try simp only [Act.put, List.setIfInBounds_toArray, List.set_cons_zero, List.set_cons_succ]
          refine wpAnyH_take (i := 8) (oi := { dst := Option.some 16, op := Go.Op.load 3 (Go.Operand.tmp 15), type := 3, pos := "ir.go:388", after := #[{ on := 7, ground := Go.Ground.data }, { on := 6, ground := Go.Ground.guard }], guard := Option.some (6, Bool.false) }) (v := ?_) rfl (by kernel_rfl) (by kernel_rfl) (by kernel_rfl) (fun _ _ _ h => h) (Or.inl ⟨by rfl, ?_⟩) (by assumption) ?_
          rotate_left
          · intro w5x hSwx
            try dsimp only at hSwx
            go_simp
            try with_reducible rfl
          try simp only [Act.put, List.setIfInBounds_toArray, List.set_cons_zero, List.set_cons_succ]
          refine wpAnyH_take (i := 9) (oi := { dst := Option.some 17, op := Go.Op.binOp Go.BinOp.lss 3 (Go.Operand.tmp 16) (Go.Operand.const (Go.Value.int Go.IntKind.i64 0)) 3, type := 4, pos := "ir.go:388", after := #[{ on := 8, ground := Go.Ground.data }, { on := 6, ground := Go.Ground.guard }], guard := Option.some (6, Bool.false) }) (v := Value.bool false) rfl (by kernel_rfl) (by kernel_rfl) (by kernel_rfl) (fun _ _ _ h => h) (Or.inl ⟨by rfl, ?_⟩) (by assumption) ?_
          · intro w5x hSwx
            try dsimp only at hSwx
            go_simp
            all_goals first | with_reducible rfl | ((try simp only [Value.bool.injEq, decide_eq_true_eq, decide_eq_false_iff_not]); omega)
          try simp only [Act.put, List.setIfInBounds_toArray, List.set_cons_zero, List.set_cons_succ]
          refine wpAnyH_take (i := 10) (oi := { dst := Option.some 18, op := Go.Op.pick (Go.Operand.tmp 14) (Go.Operand.const (Go.Value.bool Bool.true)) (Go.Operand.tmp 17), type := 4, pos := "ir.go:388", after := #[{ on := 6, ground := Go.Ground.data }, { on := 9, ground := Go.Ground.data }], guard := Option.none }) (v := ?_) rfl (by kernel_rfl) (by kernel_rfl) (by kernel_rfl) (fun _ _ _ h => h) (Or.inl ⟨by rfl, ?_⟩) (by assumption) ?_
          rotate_left
          · intro w5x hSwx
            try dsimp only at hSwx
            go_simp
            try with_reducible rfl
          try simp only [Act.put, List.setIfInBounds_toArray, List.set_cons_zero, List.set_cons_succ]
          refine wpAnyH_take (i := 11) (oi := { dst := Option.some 19, op := Go.Op.move (Go.Operand.tmp 18), type := 4, pos := "ir.go:388", after := #[{ on := 10, ground := Go.Ground.data }, { on := 6, ground := Go.Ground.chain }], guard := Option.none }) (v := ?_) rfl (by kernel_rfl) (by kernel_rfl) (by kernel_rfl) (fun _ _ _ h => h) (Or.inl ⟨by rfl, ?_⟩) (by assumption) ?_
          rotate_left
          · intro w5x hSwx
            try dsimp only at hSwx
            go_simp
            try with_reducible rfl
          try simp only [Act.put, List.setIfInBounds_toArray, List.set_cons_zero, List.set_cons_succ]
          refine wpAnyH_take (i := 12) (oi := { dst := Option.some 20, op := Go.Op.fieldAddr 49 (Go.Operand.tmp 3) 4, type := 0, pos := "ir.go:388", after := #[{ on := 11, ground := Go.Ground.guard }], guard := Option.some (11, Bool.false) }) (v := ?_) rfl (by kernel_rfl) (by kernel_rfl) (by kernel_rfl) (fun _ _ _ h => h) (Or.inl ⟨by rfl, ?_⟩) (by assumption) ?_
          rotate_left
          · intro w5x hSwx
            try dsimp only at hSwx
            go_simp
            try with_reducible rfl
          try simp only [Act.put, List.setIfInBounds_toArray, List.set_cons_zero, List.set_cons_succ]
          refine wpAnyH_take (i := 13) (oi := { dst := Option.some 21, op := Go.Op.load 3 (Go.Operand.tmp 20), type := 3, pos := "ir.go:388", after := #[{ on := 12, ground := Go.Ground.data }, { on := 11, ground := Go.Ground.guard }], guard := Option.some (11, Bool.false) }) (v := ?_) rfl (by kernel_rfl) (by kernel_rfl) (by kernel_rfl) (fun _ _ _ h => h) (Or.inl ⟨by rfl, ?_⟩) (by assumption) ?_
          rotate_left
          · intro w5x hSwx
            try dsimp only at hSwx
            go_simp
            try with_reducible rfl
          try simp only [Act.put, List.setIfInBounds_toArray, List.set_cons_zero, List.set_cons_succ]
          refine wpAnyH_take (i := 14) (oi := { dst := Option.some 22, op := Go.Op.move (Go.Operand.tmp 0), type := 67, pos := "ir.go:388", after := #[{ on := 11, ground := Go.Ground.guard }], guard := Option.some (11, Bool.false) }) (v := ?_) rfl (by kernel_rfl) (by kernel_rfl) (by kernel_rfl) (fun _ _ _ h => h) (Or.inl ⟨by rfl, ?_⟩) (by assumption) ?_
          rotate_left
          · intro w5x hSwx
            try dsimp only at hSwx
            go_simp
            try with_reducible rfl
          try simp only [Act.put, List.setIfInBounds_toArray, List.set_cons_zero, List.set_cons_succ]
          refine wpAnyH_take (i := 15) (oi := { dst := Option.some 23, op := Go.Op.nilCheck (Go.Operand.tmp 22), type := 0, pos := "ir.go:388", after := #[{ on := 14, ground := Go.Ground.data }, { on := 11, ground := Go.Ground.guard }], guard := Option.some (11, Bool.false) }) (v := ?_) rfl (by kernel_rfl) (by kernel_rfl) (by kernel_rfl) (fun _ _ _ h => h) (Or.inl ⟨by rfl, ?_⟩) (by assumption) ?_
          rotate_left
          · intro w5x hSwx
            try dsimp only at hSwx
            go_simp
            try with_reducible rfl
          try simp only [Act.put, List.setIfInBounds_toArray, List.set_cons_zero, List.set_cons_succ]
          refine wpAnyH_take (i := 16) (oi := { dst := Option.some 24, op := Go.Op.fieldAddr 70 (Go.Operand.tmp 23) 0, type := 0, pos := "ir.go:388", after := #[{ on := 15, ground := Go.Ground.data }, { on := 11, ground := Go.Ground.guard }], guard := Option.some (11, Bool.false) }) (v := ?_) rfl (by kernel_rfl) (by kernel_rfl) (by kernel_rfl) (fun _ _ _ h => h) (Or.inl ⟨by rfl, ?_⟩) (by assumption) ?_
          rotate_left
          · intro w5x hSwx
            try dsimp only at hSwx
            go_simp
            try with_reducible rfl
          try simp only [Act.put, List.setIfInBounds_toArray, List.set_cons_zero, List.set_cons_succ]
          refine wpAnyH_take (i := 17) (oi := { dst := Option.some 25, op := Go.Op.fieldAddr 25 (Go.Operand.tmp 24) 1, type := 0, pos := "ir.go:388", after := #[{ on := 16, ground := Go.Ground.data }, { on := 11, ground := Go.Ground.guard }], guard := Option.some (11, Bool.false) }) (v := ?_) rfl (by kernel_rfl) (by kernel_rfl) (by kernel_rfl) (fun _ _ _ h => h) (Or.inl ⟨by rfl, ?_⟩) (by assumption) ?_
          rotate_left
          · intro w5x hSwx
            try dsimp only at hSwx
            go_simp
            try with_reducible rfl
          try simp only [Act.put, List.setIfInBounds_toArray, List.set_cons_zero, List.set_cons_succ]
          refine wpAnyH_take (i := 18) (oi := { dst := Option.some 26, op := Go.Op.load 23 (Go.Operand.tmp 25), type := 23, pos := "ir.go:388", after := #[{ on := 17, ground := Go.Ground.data }, { on := 11, ground := Go.Ground.guard }], guard := Option.some (11, Bool.false) }) (v := ?_) rfl (by kernel_rfl) (by kernel_rfl) (by kernel_rfl) (fun _ _ _ h => h) (Or.inl ⟨by rfl, ?_⟩) (by assumption) ?_
          rotate_left
          · intro w5x hSwx
            try dsimp only at hSwx
            go_simp
            try with_reducible rfl
          try simp only [Act.put, List.setIfInBounds_toArray, List.set_cons_zero, List.set_cons_succ]
          refine wpAnyH_ready (rs := [19]) (by kernel_rfl) (by simp) ?_
          refine AllReadyH.cons (o := { dst := Option.some 27, op := Go.Op.call { callee := Go.Callee.builtin Go.Builtin.len, args := #[Go.Operand.tmp 26], argTypes := #[23] }, type := 3, pos := "ir.go:388", after := #[{ on := 18, ground := Go.Ground.data }, { on := 11, ground := Go.Ground.guard }], guard := Option.some (11, Bool.false) }) rfl (fun K hK => ?_) AllReadyH.nil
          go_simp
          refine hK.out _ _ ?_ (fun hHeld9 => ?_)
          · (try dsimp only) <;> (first | exact HKp.out _ (Below.refl _ _) | exact HKp.out _ (below1 _ _))
          clear hK K hHeld6
          try simp only [Act.put, List.setIfInBounds_toArray, List.set_cons_zero, List.set_cons_succ]
          refine wpAnyH_take (i := 20) (oi := { dst := Option.some 28, op := Go.Op.binOp Go.BinOp.geq 3 (Go.Operand.tmp 21) (Go.Operand.tmp 27) 3, type := 4, pos := "ir.go:388", after := #[{ on := 13, ground := Go.Ground.data }, { on := 19, ground := Go.Ground.data }, { on := 11, ground := Go.Ground.guard }], guard := Option.some (11, Bool.false) }) (v := Value.bool false) rfl (by kernel_rfl) (by kernel_rfl) (by kernel_rfl) (fun _ _ _ h => h) (Or.inl ⟨by rfl, ?_⟩) (by assumption) ?_
          · intro w5x hSwx
            try dsimp only at hSwx
            go_simp
            all_goals first | with_reducible rfl | ((try simp only [Value.bool.injEq, decide_eq_true_eq, decide_eq_false_iff_not]); omega)
          try simp only [Act.put, List.setIfInBounds_toArray, List.set_cons_zero, List.set_cons_succ]
          refine wpAnyH_take (i := 21) (oi := { dst := Option.some 29, op := Go.Op.pick (Go.Operand.tmp 19) (Go.Operand.const (Go.Value.bool Bool.true)) (Go.Operand.tmp 28), type := 4, pos := "ir.go:388", after := #[{ on := 11, ground := Go.Ground.data }, { on := 20, ground := Go.Ground.data }], guard := Option.none }) (v := ?_) rfl (by kernel_rfl) (by kernel_rfl) (by kernel_rfl) (fun _ _ _ h => h) (Or.inl ⟨by rfl, ?_⟩) (by assumption) ?_
          rotate_left
          · intro w5x hSwx
            try dsimp only at hSwx
            go_simp
            try with_reducible rfl
          try simp only [Act.put, List.setIfInBounds_toArray, List.set_cons_zero, List.set_cons_succ]
          refine wpAnyH_take (i := 22) (oi := { dst := Option.some 30, op := Go.Op.move (Go.Operand.tmp 29), type := 4, pos := "ir.go:388", after := #[{ on := 21, ground := Go.Ground.data }, { on := 11, ground := Go.Ground.chain }], guard := Option.none }) (v := ?_) rfl (by kernel_rfl) (by kernel_rfl) (by kernel_rfl) (fun _ _ _ h => h) (Or.inl ⟨by rfl, ?_⟩) (by assumption) ?_
          rotate_left
          · intro w5x hSwx
            try dsimp only at hSwx
            go_simp
            try with_reducible rfl
          try simp only [Act.put, List.setIfInBounds_toArray, List.set_cons_zero, List.set_cons_succ]
          refine wpAnyH_take (i := 23) (oi := { dst := Option.some 31, op := Go.Op.move (Go.Operand.tmp 0), type := 67, pos := "ir.go:388", after := #[{ on := 22, ground := Go.Ground.guard }], guard := Option.some (22, Bool.false) }) (v := ?_) rfl (by kernel_rfl) (by kernel_rfl) (by kernel_rfl) (fun _ _ _ h => h) (Or.inl ⟨by rfl, ?_⟩) (by assumption) ?_
          rotate_left
          · intro w5x hSwx
            try dsimp only at hSwx
            go_simp
            try with_reducible rfl
          try simp only [Act.put, List.setIfInBounds_toArray, List.set_cons_zero, List.set_cons_succ]
          refine wpAnyH_take (i := 24) (oi := { dst := Option.some 32, op := Go.Op.fieldAddr 49 (Go.Operand.tmp 3) 7, type := 0, pos := "ir.go:388", after := #[{ on := 22, ground := Go.Ground.guard }], guard := Option.some (22, Bool.false) }) (v := ?_) rfl (by kernel_rfl) (by kernel_rfl) (by kernel_rfl) (fun _ _ _ h => h) (Or.inl ⟨by rfl, ?_⟩) (by assumption) ?_
          rotate_left
          · intro w5x hSwx
            try dsimp only at hSwx
            go_simp
            try with_reducible rfl
          try simp only [Act.put, List.setIfInBounds_toArray, List.set_cons_zero, List.set_cons_succ]
          refine wpAnyH_take (i := 25) (oi := { dst := Option.some 33, op := Go.Op.load 34 (Go.Operand.tmp 32), type := 34, pos := "ir.go:388", after := #[{ on := 24, ground := Go.Ground.data }, { on := 22, ground := Go.Ground.guard }], guard := Option.some (22, Bool.false) }) (v := ?_) rfl (by kernel_rfl) (by kernel_rfl) (by kernel_rfl) (fun _ _ _ h => h) (Or.inl ⟨by rfl, ?_⟩) (by assumption) ?_
          rotate_left
          · intro w5x hSwx
            try dsimp only at hSwx
            go_simp
            try with_reducible rfl
          try simp only [Act.put, List.setIfInBounds_toArray, List.set_cons_zero, List.set_cons_succ]
          refine wpAnyH_ready (rs := [26]) (by kernel_rfl) (by simp) ?_
          refine AllReadyH.cons (o := { dst := Option.some 34, op := Go.Op.call { callee := Go.Callee.value (Go.Operand.func 74), args := #[Go.Operand.tmp 31, Go.Operand.tmp 33], argTypes := #[67, 34] }, type := 4, pos := "ir.go:388", after := #[{ on := 23, ground := Go.Ground.data }, { on := 25, ground := Go.Ground.data }, { on := 22, ground := Go.Ground.chain }, { on := 22, ground := Go.Ground.guard }], guard := Option.some (22, Bool.false) }) rfl (fun K hK => ?_) AllReadyH.nil
          go_simp
          go_wp2_with (first | (go_at_call 74; have hh := G1; clear G1; refine (there_1 p d _ _ _ _ (new_cellD _ _ _ _) (HJ.out _ (after HD0.out (below1 _ _) HD0.out.size)) e).mono ?_; rintro e w' ⟨rfl, rfl⟩) | (go_at_call 74; refine (there_g xs ao ac J _ _ _ false _ (HXS.out _ (after HD0.out (below1 _ _) HD0.out.size)) (HJ.out _ (after HD0.out (below1 _ _) HD0.out.size)).vars e3).mono ?_; rintro e w' ⟨rfl, rfl⟩))
          refine hK.out _ _ ?_ (fun hHeld12 => ?_)
          · (try dsimp only) <;> (first | exact HKp.out _ (Below.refl _ _) | exact HKp.out _ (below1 _ _))
          clear hK K hHeld9
          try simp only [Act.put, List.setIfInBounds_toArray, List.set_cons_zero, List.set_cons_succ]
          refine wpAnyH_take (i := 27) (oi := { dst := Option.some 35, op := Go.Op.unOp Go.UnOp.not 4 (Go.Operand.tmp 34), type := 4, pos := "ir.go:388", after := #[{ on := 26, ground := Go.Ground.data }, { on := 22, ground := Go.Ground.guard }], guard := Option.some (22, Bool.false) }) (v := ?_) rfl (by kernel_rfl) (by kernel_rfl) (by kernel_rfl) (fun _ _ _ h => h) (Or.inl ⟨by rfl, ?_⟩) (by assumption) ?_
          rotate_left
          · intro w5x hSwx
            try dsimp only at hSwx
            go_simp
            try with_reducible rfl
          try simp only [Act.put, List.setIfInBounds_toArray, List.set_cons_zero, List.set_cons_succ]
          refine wpAnyH_take (i := 28) (oi := { dst := Option.some 36, op := Go.Op.pick (Go.Operand.tmp 30) (Go.Operand.const (Go.Value.bool Bool.true)) (Go.Operand.tmp 35), type := 4, pos := "ir.go:388", after := #[{ on := 22, ground := Go.Ground.data }, { on := 27, ground := Go.Ground.data }], guard := Option.none }) (v := ?_) rfl (by kernel_rfl) (by kernel_rfl) (by kernel_rfl) (fun _ _ _ h => h) (Or.inl ⟨by rfl, ?_⟩) (by assumption) ?_
          rotate_left
          · intro w5x hSwx
            try dsimp only at hSwx
            go_simp
            try with_reducible rfl
          try simp only [Act.put, List.setIfInBounds_toArray, List.set_cons_zero, List.set_cons_succ]
          refine wpAnyH_done (by kernel_rfl) ?_ _
        | refine wp_region_held_drew (S := fun W => Hid (Below w.heap.size w W) ∧ (∀ i, W.cell? ⟨w.heap.size, i, none⟩ = (InV ⟨op, d, a, b, tt, el, f, n, l, c, sg, xs, ms⟩ ao ac mo mc)[i]?) ∧ (∀ i, W.cell? ⟨J, i, none⟩ = (#[.slice p.sa p.ss.length p.sc, .slice p.ca p.cs.length p.cc, .map (some p.B), .string p.x.nm, .int .i64 p.x.pr, .slice p.va p.x.vs.length p.vc, .bool p.x.rt.t.p, .string p.x.rt.t.name, .int .i64 p.x.rt.cls, .slice p.fa p.x.fr.length p.fc, .slice p.ia p.x.ins.length p.ic] : Array Value)[i]?)) (by kernel_rfl) ?_ (fun hHeld0 => ?_)
          · (try dsimp only) <;> (first | exact HKp.out _ (Below.refl _ _) | exact HKp.out _ (below1 _ _))
          refine wpAnyH_take (i := 0) (oi := { dst := Option.some 8, op := Go.Op.move (Go.Operand.tmp 0), type := 67, pos := "ir.go:388", after := #[], guard := Option.none }) (v := ?_) rfl (by kernel_rfl) (by kernel_rfl) (by kernel_rfl) (fun _ _ _ h => h) (Or.inl ⟨by rfl, ?_⟩) (by assumption) ?_
          rotate_left
          · intro w5x hSwx
            try dsimp only at hSwx
            go_simp
            try with_reducible rfl
          try simp only [Act.put, List.setIfInBounds_toArray, List.set_cons_zero, List.set_cons_succ]
          refine wpAnyH_take (i := 1) (oi := { dst := Option.some 9, op := Go.Op.fieldAddr 49 (Go.Operand.tmp 3) 1, type := 0, pos := "ir.go:388", after := #[], guard := Option.none }) (v := ?_) rfl (by kernel_rfl) (by kernel_rfl) (by kernel_rfl) (fun _ _ _ h => h) (Or.inl ⟨by rfl, ?_⟩) (by assumption) ?_
          rotate_left
          · intro w5x hSwx
            try dsimp only at hSwx
            go_simp
            try with_reducible rfl
          try simp only [Act.put, List.setIfInBounds_toArray, List.set_cons_zero, List.set_cons_succ]
          refine wpAnyH_take (i := 2) (oi := { dst := Option.some 10, op := Go.Op.load 3 (Go.Operand.tmp 9), type := 3, pos := "ir.go:388", after := #[{ on := 1, ground := Go.Ground.data }], guard := Option.none }) (v := ?_) rfl (by kernel_rfl) (by kernel_rfl) (by kernel_rfl) (fun _ _ _ h => h) (Or.inl ⟨by rfl, ?_⟩) (by assumption) ?_
          rotate_left
          · intro w5x hSwx
            try dsimp only at hSwx
            go_simp
            try with_reducible rfl
          try simp only [Act.put, List.setIfInBounds_toArray, List.set_cons_zero, List.set_cons_succ]
          refine wpAnyH_ready (rs := [3]) (by kernel_rfl) (by simp) ?_
          refine AllReadyH.cons (o := { dst := Option.some 11, op := Go.Op.buildSlice 34 1 #[(0, Go.Operand.tmp 10)], type := 34, pos := "ir.go:388", after := #[{ on := 2, ground := Go.Ground.data }], guard := Option.none }) rfl (fun K hK => ?_) AllReadyH.nil
          go_simp
          refine hK.out _ _ ?_ (fun hHeld3 => ?_)
          · (try dsimp only) <;> (first | exact HKp.out _ (Below.refl _ _) | exact HKp.out _ (below1 _ _))
          clear hK K hHeld0
          try simp only [Act.put, List.setIfInBounds_toArray, List.set_cons_zero, List.set_cons_succ]
          refine wpAnyH_ready (rs := [4]) (by kernel_rfl) (by simp) ?_
          refine AllReadyH.cons (o := { dst := Option.some 12, op := Go.Op.call { callee := Go.Callee.value (Go.Operand.func 74), args := #[Go.Operand.tmp 8, Go.Operand.tmp 11], argTypes := #[67, 34] }, type := 4, pos := "ir.go:388", after := #[{ on := 0, ground := Go.Ground.data }, { on := 3, ground := Go.Ground.data }], guard := Option.none }) rfl (fun K hK => ?_) AllReadyH.nil
          go_simp
          go_wp2_with (first | (go_at_call 74; have hh := G1; clear G1; refine (there_1 p d _ _ _ _ (new_cellD _ _ _ _) (HJ.out _ (after HD0.out (below1 _ _) HD0.out.size)) e).mono ?_; rintro e w' ⟨rfl, rfl⟩) | (go_at_call 74; refine (there_g xs ao ac J _ _ _ false _ (HXS.out _ (after HD0.out (below1 _ _) HD0.out.size)) (HJ.out _ (after HD0.out (below1 _ _) HD0.out.size)).vars e3).mono ?_; rintro e w' ⟨rfl, rfl⟩))
          refine hK.out _ _ ?_ (fun hHeld6 => ?_)
          · (try dsimp only) <;> (first | exact HKp.out _ (Below.refl _ _) | exact HKp.out _ (below1 _ _))
          clear hK K hHeld3
          try simp only [Act.put, List.setIfInBounds_toArray, List.set_cons_zero, List.set_cons_succ]
          refine wpAnyH_take (i := 5) (oi := { dst := Option.some 13, op := Go.Op.unOp Go.UnOp.not 4 (Go.Operand.tmp 12), type := 4, pos := "ir.go:388", after := #[{ on := 4, ground := Go.Ground.data }], guard := Option.none }) (v := ?_) rfl (by kernel_rfl) (by kernel_rfl) (by kernel_rfl) (fun _ _ _ h => h) (Or.inl ⟨by rfl, ?_⟩) (by assumption) ?_
          rotate_left
          · intro w5x hSwx
            try dsimp only at hSwx
            go_simp
            try with_reducible rfl
          try simp only [Act.put, List.setIfInBounds_toArray, List.set_cons_zero, List.set_cons_succ]
          refine wpAnyH_take (i := 6) (oi := { dst := Option.some 14, op := Go.Op.move (Go.Operand.tmp 13), type := 4, pos := "ir.go:388", after := #[{ on := 5, ground := Go.Ground.data }, { on := 4, ground := Go.Ground.chain }], guard := Option.none }) (v := ?_) rfl (by kernel_rfl) (by kernel_rfl) (by kernel_rfl) (fun _ _ _ h => h) (Or.inl ⟨by rfl, ?_⟩) (by assumption) ?_
          rotate_left
          · intro w5x hSwx
            try dsimp only at hSwx
            go_simp
            try with_reducible rfl
          try simp only [Act.put, List.setIfInBounds_toArray, List.set_cons_zero, List.set_cons_succ]
          refine wpAnyH_take (i := 7) (oi := { dst := Option.some 15, op := Go.Op.fieldAddr 49 (Go.Operand.tmp 3) 4, type := 0, pos := "ir.go:388", after := #[{ on := 6, ground := Go.Ground.guard }], guard := Option.some (6, Bool.false) }) (v := ?_) rfl (by kernel_rfl) (by kernel_rfl) (by kernel_rfl) (fun _ _ _ h => h) (Or.inl ⟨by rfl, ?_⟩) (by assumption) ?_
          rotate_left
          · intro w5x hSwx
            try dsimp only at hSwx
            go_simp
            try with_reducible rfl
          try simp only [Act.put, List.setIfInBounds_toArray, List.set_cons_zero, List.set_cons_succ]
          refine wpAnyH_take (i := 8) (oi := { dst := Option.some 16, op := Go.Op.load 3 (Go.Operand.tmp 15), type := 3, pos := "ir.go:388", after := #[{ on := 7, ground := Go.Ground.data }, { on := 6, ground := Go.Ground.guard }], guard := Option.some (6, Bool.false) }) (v := ?_) rfl (by kernel_rfl) (by kernel_rfl) (by kernel_rfl) (fun _ _ _ h => h) (Or.inl ⟨by rfl, ?_⟩) (by assumption) ?_
          rotate_left
          · intro w5x hSwx
            try dsimp only at hSwx
            go_simp
            try with_reducible rfl
          try simp only [Act.put, List.setIfInBounds_toArray, List.set_cons_zero, List.set_cons_succ]
          refine wpAnyH_take (i := 9) (oi := { dst := Option.some 17, op := Go.Op.binOp Go.BinOp.lss 3 (Go.Operand.tmp 16) (Go.Operand.const (Go.Value.int Go.IntKind.i64 0)) 3, type := 4, pos := "ir.go:388", after := #[{ on := 8, ground := Go.Ground.data }, { on := 6, ground := Go.Ground.guard }], guard := Option.some (6, Bool.false) }) (v := Value.bool false) rfl (by kernel_rfl) (by kernel_rfl) (by kernel_rfl) (fun _ _ _ h => h) (Or.inl ⟨by rfl, ?_⟩) (by assumption) ?_
          · intro w5x hSwx
            try dsimp only at hSwx
            go_simp
            all_goals first | with_reducible rfl | ((try simp only [Value.bool.injEq, decide_eq_true_eq, decide_eq_false_iff_not]); omega)
          try simp only [Act.put, List.setIfInBounds_toArray, List.set_cons_zero, List.set_cons_succ]
          refine wpAnyH_take (i := 10) (oi := { dst := Option.some 18, op := Go.Op.pick (Go.Operand.tmp 14) (Go.Operand.const (Go.Value.bool Bool.true)) (Go.Operand.tmp 17), type := 4, pos := "ir.go:388", after := #[{ on := 6, ground := Go.Ground.data }, { on := 9, ground := Go.Ground.data }], guard := Option.none }) (v := ?_) rfl (by kernel_rfl) (by kernel_rfl) (by kernel_rfl) (fun _ _ _ h => h) (Or.inl ⟨by rfl, ?_⟩) (by assumption) ?_
          rotate_left
          · intro w5x hSwx
            try dsimp only at hSwx
            go_simp
            try with_reducible rfl
          try simp only [Act.put, List.setIfInBounds_toArray, List.set_cons_zero, List.set_cons_succ]
          refine wpAnyH_take (i := 11) (oi := { dst := Option.some 19, op := Go.Op.move (Go.Operand.tmp 18), type := 4, pos := "ir.go:388", after := #[{ on := 10, ground := Go.Ground.data }, { on := 6, ground := Go.Ground.chain }], guard := Option.none }) (v := ?_) rfl (by kernel_rfl) (by kernel_rfl) (by kernel_rfl) (fun _ _ _ h => h) (Or.inl ⟨by rfl, ?_⟩) (by assumption) ?_
          rotate_left
          · intro w5x hSwx
            try dsimp only at hSwx
            go_simp
            try with_reducible rfl
          try simp only [Act.put, List.setIfInBounds_toArray, List.set_cons_zero, List.set_cons_succ]
          refine wpAnyH_take (i := 12) (oi := { dst := Option.some 20, op := Go.Op.fieldAddr 49 (Go.Operand.tmp 3) 4, type := 0, pos := "ir.go:388", after := #[{ on := 11, ground := Go.Ground.guard }], guard := Option.some (11, Bool.false) }) (v := ?_) rfl (by kernel_rfl) (by kernel_rfl) (by kernel_rfl) (fun _ _ _ h => h) (Or.inl ⟨by rfl, ?_⟩) (by assumption) ?_
          rotate_left
          · intro w5x hSwx
            try dsimp only at hSwx
            go_simp
            try with_reducible rfl
          try simp only [Act.put, List.setIfInBounds_toArray, List.set_cons_zero, List.set_cons_succ]
          refine wpAnyH_take (i := 13) (oi := { dst := Option.some 21, op := Go.Op.load 3 (Go.Operand.tmp 20), type := 3, pos := "ir.go:388", after := #[{ on := 12, ground := Go.Ground.data }, { on := 11, ground := Go.Ground.guard }], guard := Option.some (11, Bool.false) }) (v := ?_) rfl (by kernel_rfl) (by kernel_rfl) (by kernel_rfl) (fun _ _ _ h => h) (Or.inl ⟨by rfl, ?_⟩) (by assumption) ?_
          rotate_left
          · intro w5x hSwx
            try dsimp only at hSwx
            go_simp
            try with_reducible rfl
          try simp only [Act.put, List.setIfInBounds_toArray, List.set_cons_zero, List.set_cons_succ]
          refine wpAnyH_take (i := 14) (oi := { dst := Option.some 22, op := Go.Op.move (Go.Operand.tmp 0), type := 67, pos := "ir.go:388", after := #[{ on := 11, ground := Go.Ground.guard }], guard := Option.some (11, Bool.false) }) (v := ?_) rfl (by kernel_rfl) (by kernel_rfl) (by kernel_rfl) (fun _ _ _ h => h) (Or.inl ⟨by rfl, ?_⟩) (by assumption) ?_
          rotate_left
          · intro w5x hSwx
            try dsimp only at hSwx
            go_simp
            try with_reducible rfl
          try simp only [Act.put, List.setIfInBounds_toArray, List.set_cons_zero, List.set_cons_succ]
          refine wpAnyH_take (i := 15) (oi := { dst := Option.some 23, op := Go.Op.nilCheck (Go.Operand.tmp 22), type := 0, pos := "ir.go:388", after := #[{ on := 14, ground := Go.Ground.data }, { on := 11, ground := Go.Ground.guard }], guard := Option.some (11, Bool.false) }) (v := ?_) rfl (by kernel_rfl) (by kernel_rfl) (by kernel_rfl) (fun _ _ _ h => h) (Or.inl ⟨by rfl, ?_⟩) (by assumption) ?_
          rotate_left
          · intro w5x hSwx
            try dsimp only at hSwx
            go_simp
            try with_reducible rfl
          try simp only [Act.put, List.setIfInBounds_toArray, List.set_cons_zero, List.set_cons_succ]
          refine wpAnyH_take (i := 16) (oi := { dst := Option.some 24, op := Go.Op.fieldAddr 70 (Go.Operand.tmp 23) 0, type := 0, pos := "ir.go:388", after := #[{ on := 15, ground := Go.Ground.data }, { on := 11, ground := Go.Ground.guard }], guard := Option.some (11, Bool.false) }) (v := ?_) rfl (by kernel_rfl) (by kernel_rfl) (by kernel_rfl) (fun _ _ _ h => h) (Or.inl ⟨by rfl, ?_⟩) (by assumption) ?_
          rotate_left
          · intro w5x hSwx
            try dsimp only at hSwx
            go_simp
            try with_reducible rfl
          try simp only [Act.put, List.setIfInBounds_toArray, List.set_cons_zero, List.set_cons_succ]
          refine wpAnyH_take (i := 17) (oi := { dst := Option.some 25, op := Go.Op.fieldAddr 25 (Go.Operand.tmp 24) 1, type := 0, pos := "ir.go:388", after := #[{ on := 16, ground := Go.Ground.data }, { on := 11, ground := Go.Ground.guard }], guard := Option.some (11, Bool.false) }) (v := ?_) rfl (by kernel_rfl) (by kernel_rfl) (by kernel_rfl) (fun _ _ _ h => h) (Or.inl ⟨by rfl, ?_⟩) (by assumption) ?_
          rotate_left
          · intro w5x hSwx
            try dsimp only at hSwx
            go_simp
            try with_reducible rfl
          try simp only [Act.put, List.setIfInBounds_toArray, List.set_cons_zero, List.set_cons_succ]
          refine wpAnyH_take (i := 18) (oi := { dst := Option.some 26, op := Go.Op.load 23 (Go.Operand.tmp 25), type := 23, pos := "ir.go:388", after := #[{ on := 17, ground := Go.Ground.data }, { on := 11, ground := Go.Ground.guard }], guard := Option.some (11, Bool.false) }) (v := ?_) rfl (by kernel_rfl) (by kernel_rfl) (by kernel_rfl) (fun _ _ _ h => h) (Or.inl ⟨by rfl, ?_⟩) (by assumption) ?_
          rotate_left
          · intro w5x hSwx
            try dsimp only at hSwx
            go_simp
            try with_reducible rfl
          try simp only [Act.put, List.setIfInBounds_toArray, List.set_cons_zero, List.set_cons_succ]
          refine wpAnyH_ready (rs := [19]) (by kernel_rfl) (by simp) ?_
          refine AllReadyH.cons (o := { dst := Option.some 27, op := Go.Op.call { callee := Go.Callee.builtin Go.Builtin.len, args := #[Go.Operand.tmp 26], argTypes := #[23] }, type := 3, pos := "ir.go:388", after := #[{ on := 18, ground := Go.Ground.data }, { on := 11, ground := Go.Ground.guard }], guard := Option.some (11, Bool.false) }) rfl (fun K hK => ?_) AllReadyH.nil
          go_simp
          refine hK.out _ _ ?_ (fun hHeld9 => ?_)
          · (try dsimp only) <;> (first | exact HKp.out _ (Below.refl _ _) | exact HKp.out _ (below1 _ _))
          clear hK K hHeld6
          try simp only [Act.put, List.setIfInBounds_toArray, List.set_cons_zero, List.set_cons_succ]
          refine wpAnyH_take (i := 20) (oi := { dst := Option.some 28, op := Go.Op.binOp Go.BinOp.geq 3 (Go.Operand.tmp 21) (Go.Operand.tmp 27) 3, type := 4, pos := "ir.go:388", after := #[{ on := 13, ground := Go.Ground.data }, { on := 19, ground := Go.Ground.data }, { on := 11, ground := Go.Ground.guard }], guard := Option.some (11, Bool.false) }) (v := Value.bool true) rfl (by kernel_rfl) (by kernel_rfl) (by kernel_rfl) (fun _ _ _ h => h) (Or.inl ⟨by rfl, ?_⟩) (by assumption) ?_
          · intro w5x hSwx
            try dsimp only at hSwx
            go_simp
            all_goals first | with_reducible rfl | ((try simp only [Value.bool.injEq, decide_eq_true_eq, decide_eq_false_iff_not]); omega)
          try simp only [Act.put, List.setIfInBounds_toArray, List.set_cons_zero, List.set_cons_succ]
          refine wpAnyH_take (i := 21) (oi := { dst := Option.some 29, op := Go.Op.pick (Go.Operand.tmp 19) (Go.Operand.const (Go.Value.bool Bool.true)) (Go.Operand.tmp 28), type := 4, pos := "ir.go:388", after := #[{ on := 11, ground := Go.Ground.data }, { on := 20, ground := Go.Ground.data }], guard := Option.none }) (v := ?_) rfl (by kernel_rfl) (by kernel_rfl) (by kernel_rfl) (fun _ _ _ h => h) (Or.inl ⟨by rfl, ?_⟩) (by assumption) ?_
          rotate_left
          · intro w5x hSwx
            try dsimp only at hSwx
            go_simp
            try with_reducible rfl
          try simp only [Act.put, List.setIfInBounds_toArray, List.set_cons_zero, List.set_cons_succ]
          refine wpAnyH_take (i := 22) (oi := { dst := Option.some 30, op := Go.Op.move (Go.Operand.tmp 29), type := 4, pos := "ir.go:388", after := #[{ on := 21, ground := Go.Ground.data }, { on := 11, ground := Go.Ground.chain }], guard := Option.none }) (v := ?_) rfl (by kernel_rfl) (by kernel_rfl) (by kernel_rfl) (fun _ _ _ h => h) (Or.inl ⟨by rfl, ?_⟩) (by assumption) ?_
          rotate_left
          · intro w5x hSwx
            try dsimp only at hSwx
            go_simp
            try with_reducible rfl
          try simp only [Act.put, List.setIfInBounds_toArray, List.set_cons_zero, List.set_cons_succ]
          refine wpAnyH_take (i := 23) (oi := { dst := Option.some 31, op := Go.Op.move (Go.Operand.tmp 0), type := 67, pos := "ir.go:388", after := #[{ on := 22, ground := Go.Ground.guard }], guard := Option.some (22, Bool.false) }) (v := undef) rfl (by kernel_rfl) (by kernel_rfl) (by kernel_rfl) (fun _ _ _ h => h) (Or.inr ⟨by rfl, rfl⟩) (by assumption) ?_
          try simp only [Act.put, List.setIfInBounds_toArray, List.set_cons_zero, List.set_cons_succ]
          refine wpAnyH_take (i := 24) (oi := { dst := Option.some 32, op := Go.Op.fieldAddr 49 (Go.Operand.tmp 3) 7, type := 0, pos := "ir.go:388", after := #[{ on := 22, ground := Go.Ground.guard }], guard := Option.some (22, Bool.false) }) (v := undef) rfl (by kernel_rfl) (by kernel_rfl) (by kernel_rfl) (fun _ _ _ h => h) (Or.inr ⟨by rfl, rfl⟩) (by assumption) ?_
          try simp only [Act.put, List.setIfInBounds_toArray, List.set_cons_zero, List.set_cons_succ]
          refine wpAnyH_take (i := 25) (oi := { dst := Option.some 33, op := Go.Op.load 34 (Go.Operand.tmp 32), type := 34, pos := "ir.go:388", after := #[{ on := 24, ground := Go.Ground.data }, { on := 22, ground := Go.Ground.guard }], guard := Option.some (22, Bool.false) }) (v := undef) rfl (by kernel_rfl) (by kernel_rfl) (by kernel_rfl) (fun _ _ _ h => h) (Or.inr ⟨by rfl, rfl⟩) (by assumption) ?_
          try simp only [Act.put, List.setIfInBounds_toArray, List.set_cons_zero, List.set_cons_succ]
          refine wpAnyH_take (i := 26) (oi := { dst := Option.some 34, op := Go.Op.call { callee := Go.Callee.value (Go.Operand.func 74), args := #[Go.Operand.tmp 31, Go.Operand.tmp 33], argTypes := #[67, 34] }, type := 4, pos := "ir.go:388", after := #[{ on := 23, ground := Go.Ground.data }, { on := 25, ground := Go.Ground.data }, { on := 22, ground := Go.Ground.chain }, { on := 22, ground := Go.Ground.guard }], guard := Option.some (22, Bool.false) }) (v := undef) rfl (by kernel_rfl) (by kernel_rfl) (by kernel_rfl) (fun _ _ _ h => h) (Or.inr ⟨by rfl, rfl⟩) (by assumption) ?_
          try simp only [Act.put, List.setIfInBounds_toArray, List.set_cons_zero, List.set_cons_succ]
          refine wpAnyH_take (i := 27) (oi := { dst := Option.some 35, op := Go.Op.unOp Go.UnOp.not 4 (Go.Operand.tmp 34), type := 4, pos := "ir.go:388", after := #[{ on := 26, ground := Go.Ground.data }, { on := 22, ground := Go.Ground.guard }], guard := Option.some (22, Bool.false) }) (v := undef) rfl (by kernel_rfl) (by kernel_rfl) (by kernel_rfl) (fun _ _ _ h => h) (Or.inr ⟨by rfl, rfl⟩) (by assumption) ?_
          try simp only [Act.put, List.setIfInBounds_toArray, List.set_cons_zero, List.set_cons_succ]
          refine wpAnyH_take (i := 28) (oi := { dst := Option.some 36, op := Go.Op.pick (Go.Operand.tmp 30) (Go.Operand.const (Go.Value.bool Bool.true)) (Go.Operand.tmp 35), type := 4, pos := "ir.go:388", after := #[{ on := 22, ground := Go.Ground.data }, { on := 27, ground := Go.Ground.data }], guard := Option.none }) (v := ?_) rfl (by kernel_rfl) (by kernel_rfl) (by kernel_rfl) (fun _ _ _ h => h) (Or.inl ⟨by rfl, ?_⟩) (by assumption) ?_
          rotate_left
          · intro w5x hSwx
            try dsimp only at hSwx
            go_simp
            try with_reducible rfl
          try simp only [Act.put, List.setIfInBounds_toArray, List.set_cons_zero, List.set_cons_succ]
          refine wpAnyH_done (by kernel_rfl) ?_ _
        | refine wp_region_held_drew (S := fun W => Hid (Below w.heap.size w W) ∧ (∀ i, W.cell? ⟨w.heap.size, i, none⟩ = (InV ⟨op, d, a, b, tt, el, f, n, l, c, sg, xs, ms⟩ ao ac mo mc)[i]?) ∧ (∀ i, W.cell? ⟨J, i, none⟩ = (#[.slice p.sa p.ss.length p.sc, .slice p.ca p.cs.length p.cc, .map (some p.B), .string p.x.nm, .int .i64 p.x.pr, .slice p.va p.x.vs.length p.vc, .bool p.x.rt.t.p, .string p.x.rt.t.name, .int .i64 p.x.rt.cls, .slice p.fa p.x.fr.length p.fc, .slice p.ia p.x.ins.length p.ic] : Array Value)[i]?)) (by kernel_rfl) ?_ (fun hHeld0 => ?_)
          · (try dsimp only) <;> (first | exact HKp.out _ (Below.refl _ _) | exact HKp.out _ (below1 _ _))
          refine wpAnyH_take (i := 0) (oi := { dst := Option.some 8, op := Go.Op.move (Go.Operand.tmp 0), type := 67, pos := "ir.go:388", after := #[], guard := Option.none }) (v := ?_) rfl (by kernel_rfl) (by kernel_rfl) (by kernel_rfl) (fun _ _ _ h => h) (Or.inl ⟨by rfl, ?_⟩) (by assumption) ?_
          rotate_left
          · intro w5x hSwx
            try dsimp only at hSwx
            go_simp
            try with_reducible rfl
          try simp only [Act.put, List.setIfInBounds_toArray, List.set_cons_zero, List.set_cons_succ]
          refine wpAnyH_take (i := 1) (oi := { dst := Option.some 9, op := Go.Op.fieldAddr 49 (Go.Operand.tmp 3) 1, type := 0, pos := "ir.go:388", after := #[], guard := Option.none }) (v := ?_) rfl (by kernel_rfl) (by kernel_rfl) (by kernel_rfl) (fun _ _ _ h => h) (Or.inl ⟨by rfl, ?_⟩) (by assumption) ?_
          rotate_left
          · intro w5x hSwx
            try dsimp only at hSwx
            go_simp
            try with_reducible rfl
          try simp only [Act.put, List.setIfInBounds_toArray, List.set_cons_zero, List.set_cons_succ]
          refine wpAnyH_take (i := 2) (oi := { dst := Option.some 10, op := Go.Op.load 3 (Go.Operand.tmp 9), type := 3, pos := "ir.go:388", after := #[{ on := 1, ground := Go.Ground.data }], guard := Option.none }) (v := ?_) rfl (by kernel_rfl) (by kernel_rfl) (by kernel_rfl) (fun _ _ _ h => h) (Or.inl ⟨by rfl, ?_⟩) (by assumption) ?_
          rotate_left
          · intro w5x hSwx
            try dsimp only at hSwx
            go_simp
            try with_reducible rfl
          try simp only [Act.put, List.setIfInBounds_toArray, List.set_cons_zero, List.set_cons_succ]
          refine wpAnyH_ready (rs := [3]) (by kernel_rfl) (by simp) ?_
          refine AllReadyH.cons (o := { dst := Option.some 11, op := Go.Op.buildSlice 34 1 #[(0, Go.Operand.tmp 10)], type := 34, pos := "ir.go:388", after := #[{ on := 2, ground := Go.Ground.data }], guard := Option.none }) rfl (fun K hK => ?_) AllReadyH.nil
          go_simp
          refine hK.out _ _ ?_ (fun hHeld3 => ?_)
          · (try dsimp only) <;> (first | exact HKp.out _ (Below.refl _ _) | exact HKp.out _ (below1 _ _))
          clear hK K hHeld0
          try simp only [Act.put, List.setIfInBounds_toArray, List.set_cons_zero, List.set_cons_succ]
          refine wpAnyH_ready (rs := [4]) (by kernel_rfl) (by simp) ?_
          refine AllReadyH.cons (o := { dst := Option.some 12, op := Go.Op.call { callee := Go.Callee.value (Go.Operand.func 74), args := #[Go.Operand.tmp 8, Go.Operand.tmp 11], argTypes := #[67, 34] }, type := 4, pos := "ir.go:388", after := #[{ on := 0, ground := Go.Ground.data }, { on := 3, ground := Go.Ground.data }], guard := Option.none }) rfl (fun K hK => ?_) AllReadyH.nil
          go_simp
          go_wp2_with (first | (go_at_call 74; have hh := G1; clear G1; refine (there_1 p d _ _ _ _ (new_cellD _ _ _ _) (HJ.out _ (after HD0.out (below1 _ _) HD0.out.size)) e).mono ?_; rintro e w' ⟨rfl, rfl⟩) | (go_at_call 74; refine (there_g xs ao ac J _ _ _ false _ (HXS.out _ (after HD0.out (below1 _ _) HD0.out.size)) (HJ.out _ (after HD0.out (below1 _ _) HD0.out.size)).vars e3).mono ?_; rintro e w' ⟨rfl, rfl⟩))
          refine hK.out _ _ ?_ (fun hHeld6 => ?_)
          · (try dsimp only) <;> (first | exact HKp.out _ (Below.refl _ _) | exact HKp.out _ (below1 _ _))
          clear hK K hHeld3
          try simp only [Act.put, List.setIfInBounds_toArray, List.set_cons_zero, List.set_cons_succ]
          refine wpAnyH_take (i := 5) (oi := { dst := Option.some 13, op := Go.Op.unOp Go.UnOp.not 4 (Go.Operand.tmp 12), type := 4, pos := "ir.go:388", after := #[{ on := 4, ground := Go.Ground.data }], guard := Option.none }) (v := ?_) rfl (by kernel_rfl) (by kernel_rfl) (by kernel_rfl) (fun _ _ _ h => h) (Or.inl ⟨by rfl, ?_⟩) (by assumption) ?_
          rotate_left
          · intro w5x hSwx
            try dsimp only at hSwx
            go_simp
            try with_reducible rfl
          try simp only [Act.put, List.setIfInBounds_toArray, List.set_cons_zero, List.set_cons_succ]
          refine wpAnyH_take (i := 6) (oi := { dst := Option.some 14, op := Go.Op.move (Go.Operand.tmp 13), type := 4, pos := "ir.go:388", after := #[{ on := 5, ground := Go.Ground.data }, { on := 4, ground := Go.Ground.chain }], guard := Option.none }) (v := ?_) rfl (by kernel_rfl) (by kernel_rfl) (by kernel_rfl) (fun _ _ _ h => h) (Or.inl ⟨by rfl, ?_⟩) (by assumption) ?_
          rotate_left
          · intro w5x hSwx
            try dsimp only at hSwx
            go_simp
            try with_reducible rfl
          try simp only [Act.put, List.setIfInBounds_toArray, List.set_cons_zero, List.set_cons_succ]
          refine wpAnyH_take (i := 7) (oi := { dst := Option.some 15, op := Go.Op.fieldAddr 49 (Go.Operand.tmp 3) 4, type := 0, pos := "ir.go:388", after := #[{ on := 6, ground := Go.Ground.guard }], guard := Option.some (6, Bool.false) }) (v := ?_) rfl (by kernel_rfl) (by kernel_rfl) (by kernel_rfl) (fun _ _ _ h => h) (Or.inl ⟨by rfl, ?_⟩) (by assumption) ?_
          rotate_left
          · intro w5x hSwx
            try dsimp only at hSwx
            go_simp
            try with_reducible rfl
          try simp only [Act.put, List.setIfInBounds_toArray, List.set_cons_zero, List.set_cons_succ]
          refine wpAnyH_take (i := 8) (oi := { dst := Option.some 16, op := Go.Op.load 3 (Go.Operand.tmp 15), type := 3, pos := "ir.go:388", after := #[{ on := 7, ground := Go.Ground.data }, { on := 6, ground := Go.Ground.guard }], guard := Option.some (6, Bool.false) }) (v := ?_) rfl (by kernel_rfl) (by kernel_rfl) (by kernel_rfl) (fun _ _ _ h => h) (Or.inl ⟨by rfl, ?_⟩) (by assumption) ?_
          rotate_left
          · intro w5x hSwx
            try dsimp only at hSwx
            go_simp
            try with_reducible rfl
          try simp only [Act.put, List.setIfInBounds_toArray, List.set_cons_zero, List.set_cons_succ]
          refine wpAnyH_take (i := 9) (oi := { dst := Option.some 17, op := Go.Op.binOp Go.BinOp.lss 3 (Go.Operand.tmp 16) (Go.Operand.const (Go.Value.int Go.IntKind.i64 0)) 3, type := 4, pos := "ir.go:388", after := #[{ on := 8, ground := Go.Ground.data }, { on := 6, ground := Go.Ground.guard }], guard := Option.some (6, Bool.false) }) (v := Value.bool true) rfl (by kernel_rfl) (by kernel_rfl) (by kernel_rfl) (fun _ _ _ h => h) (Or.inl ⟨by rfl, ?_⟩) (by assumption) ?_
          · intro w5x hSwx
            try dsimp only at hSwx
            go_simp
            all_goals first | with_reducible rfl | ((try simp only [Value.bool.injEq, decide_eq_true_eq, decide_eq_false_iff_not]); omega)
          try simp only [Act.put, List.setIfInBounds_toArray, List.set_cons_zero, List.set_cons_succ]
          refine wpAnyH_take (i := 10) (oi := { dst := Option.some 18, op := Go.Op.pick (Go.Operand.tmp 14) (Go.Operand.const (Go.Value.bool Bool.true)) (Go.Operand.tmp 17), type := 4, pos := "ir.go:388", after := #[{ on := 6, ground := Go.Ground.data }, { on := 9, ground := Go.Ground.data }], guard := Option.none }) (v := ?_) rfl (by kernel_rfl) (by kernel_rfl) (by kernel_rfl) (fun _ _ _ h => h) (Or.inl ⟨by rfl, ?_⟩) (by assumption) ?_
          rotate_left
          · intro w5x hSwx
            try dsimp only at hSwx
            go_simp
            try with_reducible rfl
          try simp only [Act.put, List.setIfInBounds_toArray, List.set_cons_zero, List.set_cons_succ]
          refine wpAnyH_take (i := 11) (oi := { dst := Option.some 19, op := Go.Op.move (Go.Operand.tmp 18), type := 4, pos := "ir.go:388", after := #[{ on := 10, ground := Go.Ground.data }, { on := 6, ground := Go.Ground.chain }], guard := Option.none }) (v := ?_) rfl (by kernel_rfl) (by kernel_rfl) (by kernel_rfl) (fun _ _ _ h => h) (Or.inl ⟨by rfl, ?_⟩) (by assumption) ?_
          rotate_left
          · intro w5x hSwx
            try dsimp only at hSwx
            go_simp
            try with_reducible rfl
          try simp only [Act.put, List.setIfInBounds_toArray, List.set_cons_zero, List.set_cons_succ]
          refine wpAnyH_take (i := 12) (oi := { dst := Option.some 20, op := Go.Op.fieldAddr 49 (Go.Operand.tmp 3) 4, type := 0, pos := "ir.go:388", after := #[{ on := 11, ground := Go.Ground.guard }], guard := Option.some (11, Bool.false) }) (v := undef) rfl (by kernel_rfl) (by kernel_rfl) (by kernel_rfl) (fun _ _ _ h => h) (Or.inr ⟨by rfl, rfl⟩) (by assumption) ?_
          try simp only [Act.put, List.setIfInBounds_toArray, List.set_cons_zero, List.set_cons_succ]
          refine wpAnyH_take (i := 13) (oi := { dst := Option.some 21, op := Go.Op.load 3 (Go.Operand.tmp 20), type := 3, pos := "ir.go:388", after := #[{ on := 12, ground := Go.Ground.data }, { on := 11, ground := Go.Ground.guard }], guard := Option.some (11, Bool.false) }) (v := undef) rfl (by kernel_rfl) (by kernel_rfl) (by kernel_rfl) (fun _ _ _ h => h) (Or.inr ⟨by rfl, rfl⟩) (by assumption) ?_
          try simp only [Act.put, List.setIfInBounds_toArray, List.set_cons_zero, List.set_cons_succ]
          refine wpAnyH_take (i := 14) (oi := { dst := Option.some 22, op := Go.Op.move (Go.Operand.tmp 0), type := 67, pos := "ir.go:388", after := #[{ on := 11, ground := Go.Ground.guard }], guard := Option.some (11, Bool.false) }) (v := undef) rfl (by kernel_rfl) (by kernel_rfl) (by kernel_rfl) (fun _ _ _ h => h) (Or.inr ⟨by rfl, rfl⟩) (by assumption) ?_
          try simp only [Act.put, List.setIfInBounds_toArray, List.set_cons_zero, List.set_cons_succ]
          refine wpAnyH_take (i := 15) (oi := { dst := Option.some 23, op := Go.Op.nilCheck (Go.Operand.tmp 22), type := 0, pos := "ir.go:388", after := #[{ on := 14, ground := Go.Ground.data }, { on := 11, ground := Go.Ground.guard }], guard := Option.some (11, Bool.false) }) (v := undef) rfl (by kernel_rfl) (by kernel_rfl) (by kernel_rfl) (fun _ _ _ h => h) (Or.inr ⟨by rfl, rfl⟩) (by assumption) ?_
          try simp only [Act.put, List.setIfInBounds_toArray, List.set_cons_zero, List.set_cons_succ]
          refine wpAnyH_take (i := 16) (oi := { dst := Option.some 24, op := Go.Op.fieldAddr 70 (Go.Operand.tmp 23) 0, type := 0, pos := "ir.go:388", after := #[{ on := 15, ground := Go.Ground.data }, { on := 11, ground := Go.Ground.guard }], guard := Option.some (11, Bool.false) }) (v := undef) rfl (by kernel_rfl) (by kernel_rfl) (by kernel_rfl) (fun _ _ _ h => h) (Or.inr ⟨by rfl, rfl⟩) (by assumption) ?_
          try simp only [Act.put, List.setIfInBounds_toArray, List.set_cons_zero, List.set_cons_succ]
          refine wpAnyH_take (i := 17) (oi := { dst := Option.some 25, op := Go.Op.fieldAddr 25 (Go.Operand.tmp 24) 1, type := 0, pos := "ir.go:388", after := #[{ on := 16, ground := Go.Ground.data }, { on := 11, ground := Go.Ground.guard }], guard := Option.some (11, Bool.false) }) (v := undef) rfl (by kernel_rfl) (by kernel_rfl) (by kernel_rfl) (fun _ _ _ h => h) (Or.inr ⟨by rfl, rfl⟩) (by assumption) ?_
          try simp only [Act.put, List.setIfInBounds_toArray, List.set_cons_zero, List.set_cons_succ]
          refine wpAnyH_take (i := 18) (oi := { dst := Option.some 26, op := Go.Op.load 23 (Go.Operand.tmp 25), type := 23, pos := "ir.go:388", after := #[{ on := 17, ground := Go.Ground.data }, { on := 11, ground := Go.Ground.guard }], guard := Option.some (11, Bool.false) }) (v := undef) rfl (by kernel_rfl) (by kernel_rfl) (by kernel_rfl) (fun _ _ _ h => h) (Or.inr ⟨by rfl, rfl⟩) (by assumption) ?_
          try simp only [Act.put, List.setIfInBounds_toArray, List.set_cons_zero, List.set_cons_succ]
          refine wpAnyH_take (i := 19) (oi := { dst := Option.some 27, op := Go.Op.call { callee := Go.Callee.builtin Go.Builtin.len, args := #[Go.Operand.tmp 26], argTypes := #[23] }, type := 3, pos := "ir.go:388", after := #[{ on := 18, ground := Go.Ground.data }, { on := 11, ground := Go.Ground.guard }], guard := Option.some (11, Bool.false) }) (v := undef) rfl (by kernel_rfl) (by kernel_rfl) (by kernel_rfl) (fun _ _ _ h => h) (Or.inr ⟨by rfl, rfl⟩) (by assumption) ?_
          try simp only [Act.put, List.setIfInBounds_toArray, List.set_cons_zero, List.set_cons_succ]
          refine wpAnyH_take (i := 20) (oi := { dst := Option.some 28, op := Go.Op.binOp Go.BinOp.geq 3 (Go.Operand.tmp 21) (Go.Operand.tmp 27) 3, type := 4, pos := "ir.go:388", after := #[{ on := 13, ground := Go.Ground.data }, { on := 19, ground := Go.Ground.data }, { on := 11, ground := Go.Ground.guard }], guard := Option.some (11, Bool.false) }) (v := undef) rfl (by kernel_rfl) (by kernel_rfl) (by kernel_rfl) (fun _ _ _ h => h) (Or.inr ⟨by rfl, rfl⟩) (by assumption) ?_
          try simp only [Act.put, List.setIfInBounds_toArray, List.set_cons_zero, List.set_cons_succ]
          refine wpAnyH_take (i := 21) (oi := { dst := Option.some 29, op := Go.Op.pick (Go.Operand.tmp 19) (Go.Operand.const (Go.Value.bool Bool.true)) (Go.Operand.tmp 28), type := 4, pos := "ir.go:388", after := #[{ on := 11, ground := Go.Ground.data }, { on := 20, ground := Go.Ground.data }], guard := Option.none }) (v := ?_) rfl (by kernel_rfl) (by kernel_rfl) (by kernel_rfl) (fun _ _ _ h => h) (Or.inl ⟨by rfl, ?_⟩) (by assumption) ?_
          rotate_left
          · intro w5x hSwx
            try dsimp only at hSwx
            go_simp
            try with_reducible rfl
          try simp only [Act.put, List.setIfInBounds_toArray, List.set_cons_zero, List.set_cons_succ]
          refine wpAnyH_take (i := 22) (oi := { dst := Option.some 30, op := Go.Op.move (Go.Operand.tmp 29), type := 4, pos := "ir.go:388", after := #[{ on := 21, ground := Go.Ground.data }, { on := 11, ground := Go.Ground.chain }], guard := Option.none }) (v := ?_) rfl (by kernel_rfl) (by kernel_rfl) (by kernel_rfl) (fun _ _ _ h => h) (Or.inl ⟨by rfl, ?_⟩) (by assumption) ?_
          rotate_left
          · intro w5x hSwx
            try dsimp only at hSwx
            go_simp
            try with_reducible rfl
          try simp only [Act.put, List.setIfInBounds_toArray, List.set_cons_zero, List.set_cons_succ]
          refine wpAnyH_take (i := 23) (oi := { dst := Option.some 31, op := Go.Op.move (Go.Operand.tmp 0), type := 67, pos := "ir.go:388", after := #[{ on := 22, ground := Go.Ground.guard }], guard := Option.some (22, Bool.false) }) (v := undef) rfl (by kernel_rfl) (by kernel_rfl) (by kernel_rfl) (fun _ _ _ h => h) (Or.inr ⟨by rfl, rfl⟩) (by assumption) ?_
          try simp only [Act.put, List.setIfInBounds_toArray, List.set_cons_zero, List.set_cons_succ]
          refine wpAnyH_take (i := 24) (oi := { dst := Option.some 32, op := Go.Op.fieldAddr 49 (Go.Operand.tmp 3) 7, type := 0, pos := "ir.go:388", after := #[{ on := 22, ground := Go.Ground.guard }], guard := Option.some (22, Bool.false) }) (v := undef) rfl (by kernel_rfl) (by kernel_rfl) (by kernel_rfl) (fun _ _ _ h => h) (Or.inr ⟨by rfl, rfl⟩) (by assumption) ?_
          try simp only [Act.put, List.setIfInBounds_toArray, List.set_cons_zero, List.set_cons_succ]
          refine wpAnyH_take (i := 25) (oi := { dst := Option.some 33, op := Go.Op.load 34 (Go.Operand.tmp 32), type := 34, pos := "ir.go:388", after := #[{ on := 24, ground := Go.Ground.data }, { on := 22, ground := Go.Ground.guard }], guard := Option.some (22, Bool.false) }) (v := undef) rfl (by kernel_rfl) (by kernel_rfl) (by kernel_rfl) (fun _ _ _ h => h) (Or.inr ⟨by rfl, rfl⟩) (by assumption) ?_
          try simp only [Act.put, List.setIfInBounds_toArray, List.set_cons_zero, List.set_cons_succ]
          refine wpAnyH_take (i := 26) (oi := { dst := Option.some 34, op := Go.Op.call { callee := Go.Callee.value (Go.Operand.func 74), args := #[Go.Operand.tmp 31, Go.Operand.tmp 33], argTypes := #[67, 34] }, type := 4, pos := "ir.go:388", after := #[{ on := 23, ground := Go.Ground.data }, { on := 25, ground := Go.Ground.data }, { on := 22, ground := Go.Ground.chain }, { on := 22, ground := Go.Ground.guard }], guard := Option.some (22, Bool.false) }) (v := undef) rfl (by kernel_rfl) (by kernel_rfl) (by kernel_rfl) (fun _ _ _ h => h) (Or.inr ⟨by rfl, rfl⟩) (by assumption) ?_
          try simp only [Act.put, List.setIfInBounds_toArray, List.set_cons_zero, List.set_cons_succ]
          refine wpAnyH_take (i := 27) (oi := { dst := Option.some 35, op := Go.Op.unOp Go.UnOp.not 4 (Go.Operand.tmp 34), type := 4, pos := "ir.go:388", after := #[{ on := 26, ground := Go.Ground.data }, { on := 22, ground := Go.Ground.guard }], guard := Option.some (22, Bool.false) }) (v := undef) rfl (by kernel_rfl) (by kernel_rfl) (by kernel_rfl) (fun _ _ _ h => h) (Or.inr ⟨by rfl, rfl⟩) (by assumption) ?_
          try simp only [Act.put, List.setIfInBounds_toArray, List.set_cons_zero, List.set_cons_succ]
          refine wpAnyH_take (i := 28) (oi := { dst := Option.some 36, op := Go.Op.pick (Go.Operand.tmp 30) (Go.Operand.const (Go.Value.bool Bool.true)) (Go.Operand.tmp 35), type := 4, pos := "ir.go:388", after := #[{ on := 22, ground := Go.Ground.data }, { on := 27, ground := Go.Ground.data }], guard := Option.none }) (v := ?_) rfl (by kernel_rfl) (by kernel_rfl) (by kernel_rfl) (fun _ _ _ h => h) (Or.inl ⟨by rfl, ?_⟩) (by assumption) ?_
          rotate_left
          · intro w5x hSwx
            try dsimp only at hSwx
            go_simp
            try with_reducible rfl
          try simp only [Act.put, List.setIfInBounds_toArray, List.set_cons_zero, List.set_cons_succ]
          refine wpAnyH_done (by kernel_rfl) ?_ _
      all_goals go_wp2
      all_goals go_ret
      all_goals exact ⟨rfl, hid (after HD0.out (below1 _ _) HD0.out.size)⟩
set_option maxRecDepth 100000 in
set_option maxHeartbeats 8000000 in
theorem callj_in (p : JP) (J : Nat) (op a b tt el n l c : Int) (sg : ByteArray) (xs ms : List Int) (ao mo : Option Addr) (ac mc kd kf : Nat) (pd : Bool) (nd : ByteArray) (g : CoD) (w : World) (hj : JG w J p) (hX : IntsM w ao xs) (e : inN p.x.vs.length kd = true) (hd : KindIs p.x kd pd nd) (htd : tyOf p.x kd = ⟨pd, nd⟩) (hxs : xs.all (inN p.x.vs.length) = true) (hg : p.cs[kf]? = some g) :
    Calls Try.prog 68 #[.pointer (some ⟨J, 0, none⟩), .agg (InV ⟨op, kd, a, b, tt, el, kf, n, l, c, sg, xs, ms⟩ ao ac mo mc)] w fun e w' => e = .returned (.int .i64 (calF g p.x ⟨op, kd, a, b, tt, el, kf, n, l, c, sg, xs, ms⟩)) ∧ Hid (Below w.heap.size w w') := by
  obtain ⟨bc, oc, hca, hbc, va2, vc2, fa2, fc2, ia2, ic2, hcc, hco⟩ := hj.fn.2 kf g hg
  have hkl : kf < p.cs.length := (List.getElem?_eq_some_iff.1 hg).1
  have kf0 : ¬ (kf : Int) < 0 := by omega
  have kf1 : ¬ (p.cs.length : Int) ≤ (kf : Int) := by omega
  have kf2 : (p.cs.length : Int) ≤ 9223372036854775807 := by have := hj.fn.1; omega
  have kf3 : (0 : Int) ≤ (kf : Int) := by omega
  have kf4 : (kf : Int) < (p.cs.length : Int) := by omega
  have HG8 := hid (fun (W : World) (hb : Below w.heap.size w W) (i : Nat) (v : Value) (h : (CoV g va2 vc2 fa2 fc2 ia2 ic2)[i]? = some v) => cell_keep hb hbc (hcc i v h))
  have HJ := hid (fun W (hb : Below w.heap.size w W) => hj.later hb)
  have HXS := hid (fun W (hb : Below w.heap.size w W) => hX.later int_stays hb)
  have HGV := hid (fun W (hb : Below w.heap.size w W) => hco.vs.later va_stays hb)
  have HD0 := hid (below1 w (.cells (InV ⟨op, kd, a, b, tt, el, kf, n, l, c, sg, xs, ms⟩ ao ac mo mc) 49)).drew
  have HX0 : Hid ((w.alloc (.cells (InV ⟨op, kd, a, b, tt, el, kf, n, l, c, sg, xs, ms⟩ ao ac mo mc) 49)).drew.heap[w.heap.size]? = some (.cells (InV ⟨op, kd, a, b, tt, el, kf, n, l, c, sg, xs, ms⟩ ao ac mo mc) 49 (0, 0))) := hid (heap_alloc_new w _)
  have HKp := hid (fun W (hb : Below (w.alloc (.cells (InV ⟨op, kd, a, b, tt, el, kf, n, l, c, sg, xs, ms⟩ ao ac mo mc) 49)).drew.heap.size (w.alloc (.cells (InV ⟨op, kd, a, b, tt, el, kf, n, l, c, sg, xs, ms⟩ ao ac mo mc) 49)).drew W) => by
    have h := keep3 p J w _ _ 49 (fun W h => HJ.out W h) HD0.out HX0.out W hb
    rw [hca] at h
    exact h)
  have HH := hid hxs
  have HD := hid hd
  have HDa : Hid (Below (w.alloc (.cells (InV ⟨op, kd, a, b, tt, el, kf, n, l, c, sg, xs, ms⟩ ao ac mo mc) 49)).drew.heap.size (w.alloc (.cells (InV ⟨op, kd, a, b, tt, el, kf, n, l, c, sg, xs, ms⟩ ao ac mo mc) 49)).drew ((w.alloc (.cells (InV ⟨op, kd, a, b, tt, el, kf, n, l, c, sg, xs, ms⟩ ao ac mo mc) 49)).alloc (.cells #[.int .i64 kd] 3)).drew.drew) := hid (from_drew (below1 (w.alloc (.cells (InV ⟨op, kd, a, b, tt, el, kf, n, l, c, sg, xs, ms⟩ ao ac mo mc) 49)) (.cells #[.int .i64 kd] 3)).drew.drew)
  have KP := hid (fun W (hb : Below (w.alloc (.cells (InV ⟨op, kd, a, b, tt, el, kf, n, l, c, sg, xs, ms⟩ ao ac mo mc) 49)).drew.heap.size (w.alloc (.cells (InV ⟨op, kd, a, b, tt, el, kf, n, l, c, sg, xs, ms⟩ ao ac mo mc) 49)).drew W) => And.intro (HKp.out W hb).1 (And.intro (HKp.out W hb).2.1 (And.intro (HKp.out W hb).2.2 (And.intro (HG8.out W (HKp.out W hb).1.out 0 _ rfl) (And.intro (HG8.out W (HKp.out W hb).1.out 1 _ rfl) (And.intro (HG8.out W (HKp.out W hb).1.out 2 _ rfl) (And.intro (HG8.out W (HKp.out W hb).1.out 3 _ rfl) (And.intro (HG8.out W (HKp.out W hb).1.out 4 _ rfl) (And.intro (HG8.out W (HKp.out W hb).1.out 5 _ rfl) (And.intro (HG8.out W (HKp.out W hb).1.out 6 _ rfl) (HG8.out W (HKp.out W hb).1.out 7 _ rfl)))))))))))
  have HTD := hid htd
  clear hj hX hd htd hxs hg hcc hco hkl hbc
  obtain ⟨G, hG⟩ : ∃ G, calF g p.x ⟨op, kd, a, b, tt, el, kf, n, l, c, sg, xs, ms⟩ = G := ⟨_, rfl⟩
  rw [hG]
  have HG := hid hG
  clear hG
  have G1 : True := trivial
  go_enter Try.func68, Try.ntmps68
  go_wp2
  refine wp_region_held_drew (S := fun W => Hid (Below w.heap.size w W) ∧ (∀ i, W.cell? ⟨w.heap.size, i, none⟩ = (InV ⟨op, kd, a, b, tt, el, kf, n, l, c, sg, xs, ms⟩ ao ac mo mc)[i]?) ∧ (∀ i, W.cell? ⟨J, i, none⟩ = (#[.slice p.sa p.ss.length p.sc, .slice (some ⟨bc, oc, none⟩) p.cs.length p.cc, .map (some p.B), .string p.x.nm, .int .i64 p.x.pr, .slice p.va p.x.vs.length p.vc, .bool p.x.rt.t.p, .string p.x.rt.t.name, .int .i64 p.x.rt.cls, .slice p.fa p.x.fr.length p.fc, .slice p.ia p.x.ins.length p.ic] : Array Value)[i]?)) (by kernel_rfl) ?_ (fun hHeld0 => ?_)
  · (try dsimp only) <;> (first | exact HKp.out _ (Below.refl _ _) | exact HKp.out _ (below1 _ _))
  refine wpAnyH_take (i := 0) (oi := { dst := Option.some 8, op := Go.Op.move (Go.Operand.tmp 0), type := 67, pos := "ir.go:388", after := #[], guard := Option.none }) (v := ?_) rfl (by kernel_rfl) (by kernel_rfl) (by kernel_rfl) (fun _ _ _ h => h) (Or.inl ⟨by rfl, ?_⟩) (by assumption) ?_
  rotate_left
  · intro w5x hSwx
    try dsimp only at hSwx
    go_simp
    try with_reducible rfl
  try simp only [Act.put, List.setIfInBounds_toArray, List.set_cons_zero, List.set_cons_succ]
  refine wpAnyH_take (i := 1) (oi := { dst := Option.some 9, op := Go.Op.fieldAddr 49 (Go.Operand.tmp 3) 1, type := 0, pos := "ir.go:388", after := #[], guard := Option.none }) (v := ?_) rfl (by kernel_rfl) (by kernel_rfl) (by kernel_rfl) (fun _ _ _ h => h) (Or.inl ⟨by rfl, ?_⟩) (by assumption) ?_
  rotate_left
  · intro w5x hSwx
    try dsimp only at hSwx
    go_simp
    try with_reducible rfl
  try simp only [Act.put, List.setIfInBounds_toArray, List.set_cons_zero, List.set_cons_succ]
  refine wpAnyH_take (i := 2) (oi := { dst := Option.some 10, op := Go.Op.load 3 (Go.Operand.tmp 9), type := 3, pos := "ir.go:388", after := #[{ on := 1, ground := Go.Ground.data }], guard := Option.none }) (v := ?_) rfl (by kernel_rfl) (by kernel_rfl) (by kernel_rfl) (fun _ _ _ h => h) (Or.inl ⟨by rfl, ?_⟩) (by assumption) ?_
  rotate_left
  · intro w5x hSwx
    try dsimp only at hSwx
    go_simp
    try with_reducible rfl
  try simp only [Act.put, List.setIfInBounds_toArray, List.set_cons_zero, List.set_cons_succ]
  refine wpAnyH_ready (rs := [3]) (by kernel_rfl) (by simp) ?_
  refine AllReadyH.cons (o := { dst := Option.some 11, op := Go.Op.buildSlice 34 1 #[(0, Go.Operand.tmp 10)], type := 34, pos := "ir.go:388", after := #[{ on := 2, ground := Go.Ground.data }], guard := Option.none }) rfl (fun K hK => ?_) AllReadyH.nil
  go_simp
  refine hK.out _ _ ?_ (fun hHeld3 => ?_)
  · (try dsimp only) <;> (first | exact HKp.out _ (Below.refl _ _) | exact HKp.out _ (below1 _ _))
  clear hK K hHeld0
  try simp only [Act.put, List.setIfInBounds_toArray, List.set_cons_zero, List.set_cons_succ]
  refine wpAnyH_ready (rs := [4]) (by kernel_rfl) (by simp) ?_
  refine AllReadyH.cons (o := { dst := Option.some 12, op := Go.Op.call { callee := Go.Callee.value (Go.Operand.func 74), args := #[Go.Operand.tmp 8, Go.Operand.tmp 11], argTypes := #[67, 34] }, type := 4, pos := "ir.go:388", after := #[{ on := 0, ground := Go.Ground.data }, { on := 3, ground := Go.Ground.data }], guard := Option.none }) rfl (fun K hK => ?_) AllReadyH.nil
  go_simp
  go_wp2_with (first | (go_at_call 74; have hh := G1; clear G1; refine (there_1 p kd _ _ _ _ (new_cellD _ _ _ _) (HJ.out _ (after HD0.out (below1 _ _) HD0.out.size)) e).mono ?_; rintro e w' ⟨rfl, rfl⟩) | (go_at_call 74; refine (there_g xs ao ac J _ _ _ true _ (HXS.out _ (after HD0.out (below1 _ _) HD0.out.size)) (HJ.out _ (after HD0.out (below1 _ _) HD0.out.size)).vars HH.out).mono ?_; rintro e w' ⟨rfl, rfl⟩))
  refine hK.out _ _ ?_ (fun hHeld6 => ?_)
  · (try dsimp only) <;> (first | exact HKp.out _ (Below.refl _ _) | exact HKp.out _ (below1 _ _))
  clear hK K hHeld3
  try simp only [Act.put, List.setIfInBounds_toArray, List.set_cons_zero, List.set_cons_succ]
  refine wpAnyH_take (i := 5) (oi := { dst := Option.some 13, op := Go.Op.unOp Go.UnOp.not 4 (Go.Operand.tmp 12), type := 4, pos := "ir.go:388", after := #[{ on := 4, ground := Go.Ground.data }], guard := Option.none }) (v := ?_) rfl (by kernel_rfl) (by kernel_rfl) (by kernel_rfl) (fun _ _ _ h => h) (Or.inl ⟨by rfl, ?_⟩) (by assumption) ?_
  rotate_left
  · intro w5x hSwx
    try dsimp only at hSwx
    go_simp
    try with_reducible rfl
  try simp only [Act.put, List.setIfInBounds_toArray, List.set_cons_zero, List.set_cons_succ]
  refine wpAnyH_take (i := 6) (oi := { dst := Option.some 14, op := Go.Op.move (Go.Operand.tmp 13), type := 4, pos := "ir.go:388", after := #[{ on := 5, ground := Go.Ground.data }, { on := 4, ground := Go.Ground.chain }], guard := Option.none }) (v := ?_) rfl (by kernel_rfl) (by kernel_rfl) (by kernel_rfl) (fun _ _ _ h => h) (Or.inl ⟨by rfl, ?_⟩) (by assumption) ?_
  rotate_left
  · intro w5x hSwx
    try dsimp only at hSwx
    go_simp
    try with_reducible rfl
  try simp only [Act.put, List.setIfInBounds_toArray, List.set_cons_zero, List.set_cons_succ]
  refine wpAnyH_take (i := 7) (oi := { dst := Option.some 15, op := Go.Op.fieldAddr 49 (Go.Operand.tmp 3) 4, type := 0, pos := "ir.go:388", after := #[{ on := 6, ground := Go.Ground.guard }], guard := Option.some (6, Bool.false) }) (v := ?_) rfl (by kernel_rfl) (by kernel_rfl) (by kernel_rfl) (fun _ _ _ h => h) (Or.inl ⟨by rfl, ?_⟩) (by assumption) ?_
  rotate_left
  · intro w5x hSwx
    try dsimp only at hSwx
    go_simp
    try with_reducible rfl
  try simp only [Act.put, List.setIfInBounds_toArray, List.set_cons_zero, List.set_cons_succ]
  refine wpAnyH_take (i := 8) (oi := { dst := Option.some 16, op := Go.Op.load 3 (Go.Operand.tmp 15), type := 3, pos := "ir.go:388", after := #[{ on := 7, ground := Go.Ground.data }, { on := 6, ground := Go.Ground.guard }], guard := Option.some (6, Bool.false) }) (v := ?_) rfl (by kernel_rfl) (by kernel_rfl) (by kernel_rfl) (fun _ _ _ h => h) (Or.inl ⟨by rfl, ?_⟩) (by assumption) ?_
  rotate_left
  · intro w5x hSwx
    try dsimp only at hSwx
    go_simp
    try with_reducible rfl
  try simp only [Act.put, List.setIfInBounds_toArray, List.set_cons_zero, List.set_cons_succ]
  refine wpAnyH_take (i := 9) (oi := { dst := Option.some 17, op := Go.Op.binOp Go.BinOp.lss 3 (Go.Operand.tmp 16) (Go.Operand.const (Go.Value.int Go.IntKind.i64 0)) 3, type := 4, pos := "ir.go:388", after := #[{ on := 8, ground := Go.Ground.data }, { on := 6, ground := Go.Ground.guard }], guard := Option.some (6, Bool.false) }) (v := Value.bool false) rfl (by kernel_rfl) (by kernel_rfl) (by kernel_rfl) (fun _ _ _ h => h) (Or.inl ⟨by rfl, ?_⟩) (by assumption) ?_
  · intro w5x hSwx
    try dsimp only at hSwx
    go_simp
    all_goals first | with_reducible rfl | ((try simp only [Value.bool.injEq, decide_eq_true_eq, decide_eq_false_iff_not]); omega)
  try simp only [Act.put, List.setIfInBounds_toArray, List.set_cons_zero, List.set_cons_succ]
  refine wpAnyH_take (i := 10) (oi := { dst := Option.some 18, op := Go.Op.pick (Go.Operand.tmp 14) (Go.Operand.const (Go.Value.bool Bool.true)) (Go.Operand.tmp 17), type := 4, pos := "ir.go:388", after := #[{ on := 6, ground := Go.Ground.data }, { on := 9, ground := Go.Ground.data }], guard := Option.none }) (v := ?_) rfl (by kernel_rfl) (by kernel_rfl) (by kernel_rfl) (fun _ _ _ h => h) (Or.inl ⟨by rfl, ?_⟩) (by assumption) ?_
  rotate_left
  · intro w5x hSwx
    try dsimp only at hSwx
    go_simp
    try with_reducible rfl
  try simp only [Act.put, List.setIfInBounds_toArray, List.set_cons_zero, List.set_cons_succ]
  refine wpAnyH_take (i := 11) (oi := { dst := Option.some 19, op := Go.Op.move (Go.Operand.tmp 18), type := 4, pos := "ir.go:388", after := #[{ on := 10, ground := Go.Ground.data }, { on := 6, ground := Go.Ground.chain }], guard := Option.none }) (v := ?_) rfl (by kernel_rfl) (by kernel_rfl) (by kernel_rfl) (fun _ _ _ h => h) (Or.inl ⟨by rfl, ?_⟩) (by assumption) ?_
  rotate_left
  · intro w5x hSwx
    try dsimp only at hSwx
    go_simp
    try with_reducible rfl
  try simp only [Act.put, List.setIfInBounds_toArray, List.set_cons_zero, List.set_cons_succ]
  refine wpAnyH_take (i := 12) (oi := { dst := Option.some 20, op := Go.Op.fieldAddr 49 (Go.Operand.tmp 3) 4, type := 0, pos := "ir.go:388", after := #[{ on := 11, ground := Go.Ground.guard }], guard := Option.some (11, Bool.false) }) (v := ?_) rfl (by kernel_rfl) (by kernel_rfl) (by kernel_rfl) (fun _ _ _ h => h) (Or.inl ⟨by rfl, ?_⟩) (by assumption) ?_
  rotate_left
  · intro w5x hSwx
    try dsimp only at hSwx
    go_simp
    try with_reducible rfl
  try simp only [Act.put, List.setIfInBounds_toArray, List.set_cons_zero, List.set_cons_succ]
  refine wpAnyH_take (i := 13) (oi := { dst := Option.some 21, op := Go.Op.load 3 (Go.Operand.tmp 20), type := 3, pos := "ir.go:388", after := #[{ on := 12, ground := Go.Ground.data }, { on := 11, ground := Go.Ground.guard }], guard := Option.some (11, Bool.false) }) (v := ?_) rfl (by kernel_rfl) (by kernel_rfl) (by kernel_rfl) (fun _ _ _ h => h) (Or.inl ⟨by rfl, ?_⟩) (by assumption) ?_
  rotate_left
  · intro w5x hSwx
    try dsimp only at hSwx
    go_simp
    try with_reducible rfl
  try simp only [Act.put, List.setIfInBounds_toArray, List.set_cons_zero, List.set_cons_succ]
  refine wpAnyH_take (i := 14) (oi := { dst := Option.some 22, op := Go.Op.move (Go.Operand.tmp 0), type := 67, pos := "ir.go:388", after := #[{ on := 11, ground := Go.Ground.guard }], guard := Option.some (11, Bool.false) }) (v := ?_) rfl (by kernel_rfl) (by kernel_rfl) (by kernel_rfl) (fun _ _ _ h => h) (Or.inl ⟨by rfl, ?_⟩) (by assumption) ?_
  rotate_left
  · intro w5x hSwx
    try dsimp only at hSwx
    go_simp
    try with_reducible rfl
  try simp only [Act.put, List.setIfInBounds_toArray, List.set_cons_zero, List.set_cons_succ]
  refine wpAnyH_take (i := 15) (oi := { dst := Option.some 23, op := Go.Op.nilCheck (Go.Operand.tmp 22), type := 0, pos := "ir.go:388", after := #[{ on := 14, ground := Go.Ground.data }, { on := 11, ground := Go.Ground.guard }], guard := Option.some (11, Bool.false) }) (v := ?_) rfl (by kernel_rfl) (by kernel_rfl) (by kernel_rfl) (fun _ _ _ h => h) (Or.inl ⟨by rfl, ?_⟩) (by assumption) ?_
  rotate_left
  · intro w5x hSwx
    try dsimp only at hSwx
    go_simp
    try with_reducible rfl
  try simp only [Act.put, List.setIfInBounds_toArray, List.set_cons_zero, List.set_cons_succ]
  refine wpAnyH_take (i := 16) (oi := { dst := Option.some 24, op := Go.Op.fieldAddr 70 (Go.Operand.tmp 23) 0, type := 0, pos := "ir.go:388", after := #[{ on := 15, ground := Go.Ground.data }, { on := 11, ground := Go.Ground.guard }], guard := Option.some (11, Bool.false) }) (v := ?_) rfl (by kernel_rfl) (by kernel_rfl) (by kernel_rfl) (fun _ _ _ h => h) (Or.inl ⟨by rfl, ?_⟩) (by assumption) ?_
  rotate_left
  · intro w5x hSwx
    try dsimp only at hSwx
    go_simp
    try with_reducible rfl
  try simp only [Act.put, List.setIfInBounds_toArray, List.set_cons_zero, List.set_cons_succ]
  refine wpAnyH_take (i := 17) (oi := { dst := Option.some 25, op := Go.Op.fieldAddr 25 (Go.Operand.tmp 24) 1, type := 0, pos := "ir.go:388", after := #[{ on := 16, ground := Go.Ground.data }, { on := 11, ground := Go.Ground.guard }], guard := Option.some (11, Bool.false) }) (v := ?_) rfl (by kernel_rfl) (by kernel_rfl) (by kernel_rfl) (fun _ _ _ h => h) (Or.inl ⟨by rfl, ?_⟩) (by assumption) ?_
  rotate_left
  · intro w5x hSwx
    try dsimp only at hSwx
    go_simp
    try with_reducible rfl
  try simp only [Act.put, List.setIfInBounds_toArray, List.set_cons_zero, List.set_cons_succ]
  refine wpAnyH_take (i := 18) (oi := { dst := Option.some 26, op := Go.Op.load 23 (Go.Operand.tmp 25), type := 23, pos := "ir.go:388", after := #[{ on := 17, ground := Go.Ground.data }, { on := 11, ground := Go.Ground.guard }], guard := Option.some (11, Bool.false) }) (v := ?_) rfl (by kernel_rfl) (by kernel_rfl) (by kernel_rfl) (fun _ _ _ h => h) (Or.inl ⟨by rfl, ?_⟩) (by assumption) ?_
  rotate_left
  · intro w5x hSwx
    try dsimp only at hSwx
    go_simp
    try with_reducible rfl
  try simp only [Act.put, List.setIfInBounds_toArray, List.set_cons_zero, List.set_cons_succ]
  refine wpAnyH_ready (rs := [19]) (by kernel_rfl) (by simp) ?_
  refine AllReadyH.cons (o := { dst := Option.some 27, op := Go.Op.call { callee := Go.Callee.builtin Go.Builtin.len, args := #[Go.Operand.tmp 26], argTypes := #[23] }, type := 3, pos := "ir.go:388", after := #[{ on := 18, ground := Go.Ground.data }, { on := 11, ground := Go.Ground.guard }], guard := Option.some (11, Bool.false) }) rfl (fun K hK => ?_) AllReadyH.nil
  go_simp
  refine hK.out _ _ ?_ (fun hHeld9 => ?_)
  · (try dsimp only) <;> (first | exact HKp.out _ (Below.refl _ _) | exact HKp.out _ (below1 _ _))
  clear hK K hHeld6
  try simp only [Act.put, List.setIfInBounds_toArray, List.set_cons_zero, List.set_cons_succ]
  refine wpAnyH_take (i := 20) (oi := { dst := Option.some 28, op := Go.Op.binOp Go.BinOp.geq 3 (Go.Operand.tmp 21) (Go.Operand.tmp 27) 3, type := 4, pos := "ir.go:388", after := #[{ on := 13, ground := Go.Ground.data }, { on := 19, ground := Go.Ground.data }, { on := 11, ground := Go.Ground.guard }], guard := Option.some (11, Bool.false) }) (v := Value.bool false) rfl (by kernel_rfl) (by kernel_rfl) (by kernel_rfl) (fun _ _ _ h => h) (Or.inl ⟨by rfl, ?_⟩) (by assumption) ?_
  · intro w5x hSwx
    try dsimp only at hSwx
    go_simp
    all_goals first | with_reducible rfl | ((try simp only [Value.bool.injEq, decide_eq_true_eq, decide_eq_false_iff_not]); omega)
  try simp only [Act.put, List.setIfInBounds_toArray, List.set_cons_zero, List.set_cons_succ]
  refine wpAnyH_take (i := 21) (oi := { dst := Option.some 29, op := Go.Op.pick (Go.Operand.tmp 19) (Go.Operand.const (Go.Value.bool Bool.true)) (Go.Operand.tmp 28), type := 4, pos := "ir.go:388", after := #[{ on := 11, ground := Go.Ground.data }, { on := 20, ground := Go.Ground.data }], guard := Option.none }) (v := ?_) rfl (by kernel_rfl) (by kernel_rfl) (by kernel_rfl) (fun _ _ _ h => h) (Or.inl ⟨by rfl, ?_⟩) (by assumption) ?_
  rotate_left
  · intro w5x hSwx
    try dsimp only at hSwx
    go_simp
    try with_reducible rfl
  try simp only [Act.put, List.setIfInBounds_toArray, List.set_cons_zero, List.set_cons_succ]
  refine wpAnyH_take (i := 22) (oi := { dst := Option.some 30, op := Go.Op.move (Go.Operand.tmp 29), type := 4, pos := "ir.go:388", after := #[{ on := 21, ground := Go.Ground.data }, { on := 11, ground := Go.Ground.chain }], guard := Option.none }) (v := ?_) rfl (by kernel_rfl) (by kernel_rfl) (by kernel_rfl) (fun _ _ _ h => h) (Or.inl ⟨by rfl, ?_⟩) (by assumption) ?_
  rotate_left
  · intro w5x hSwx
    try dsimp only at hSwx
    go_simp
    try with_reducible rfl
  try simp only [Act.put, List.setIfInBounds_toArray, List.set_cons_zero, List.set_cons_succ]
  refine wpAnyH_take (i := 23) (oi := { dst := Option.some 31, op := Go.Op.move (Go.Operand.tmp 0), type := 67, pos := "ir.go:388", after := #[{ on := 22, ground := Go.Ground.guard }], guard := Option.some (22, Bool.false) }) (v := ?_) rfl (by kernel_rfl) (by kernel_rfl) (by kernel_rfl) (fun _ _ _ h => h) (Or.inl ⟨by rfl, ?_⟩) (by assumption) ?_
  rotate_left
  · intro w5x hSwx
    try dsimp only at hSwx
    go_simp
    try with_reducible rfl
  try simp only [Act.put, List.setIfInBounds_toArray, List.set_cons_zero, List.set_cons_succ]
  refine wpAnyH_take (i := 24) (oi := { dst := Option.some 32, op := Go.Op.fieldAddr 49 (Go.Operand.tmp 3) 7, type := 0, pos := "ir.go:388", after := #[{ on := 22, ground := Go.Ground.guard }], guard := Option.some (22, Bool.false) }) (v := ?_) rfl (by kernel_rfl) (by kernel_rfl) (by kernel_rfl) (fun _ _ _ h => h) (Or.inl ⟨by rfl, ?_⟩) (by assumption) ?_
  rotate_left
  · intro w5x hSwx
    try dsimp only at hSwx
    go_simp
    try with_reducible rfl
  try simp only [Act.put, List.setIfInBounds_toArray, List.set_cons_zero, List.set_cons_succ]
  refine wpAnyH_take (i := 25) (oi := { dst := Option.some 33, op := Go.Op.load 34 (Go.Operand.tmp 32), type := 34, pos := "ir.go:388", after := #[{ on := 24, ground := Go.Ground.data }, { on := 22, ground := Go.Ground.guard }], guard := Option.some (22, Bool.false) }) (v := ?_) rfl (by kernel_rfl) (by kernel_rfl) (by kernel_rfl) (fun _ _ _ h => h) (Or.inl ⟨by rfl, ?_⟩) (by assumption) ?_
  rotate_left
  · intro w5x hSwx
    try dsimp only at hSwx
    go_simp
    try with_reducible rfl
  try simp only [Act.put, List.setIfInBounds_toArray, List.set_cons_zero, List.set_cons_succ]
  refine wpAnyH_ready (rs := [26]) (by kernel_rfl) (by simp) ?_
  refine AllReadyH.cons (o := { dst := Option.some 34, op := Go.Op.call { callee := Go.Callee.value (Go.Operand.func 74), args := #[Go.Operand.tmp 31, Go.Operand.tmp 33], argTypes := #[67, 34] }, type := 4, pos := "ir.go:388", after := #[{ on := 23, ground := Go.Ground.data }, { on := 25, ground := Go.Ground.data }, { on := 22, ground := Go.Ground.chain }, { on := 22, ground := Go.Ground.guard }], guard := Option.some (22, Bool.false) }) rfl (fun K hK => ?_) AllReadyH.nil
  go_simp
  go_wp2_with (first | (go_at_call 74; have hh := G1; clear G1; refine (there_1 p kd _ _ _ _ (new_cellD _ _ _ _) (HJ.out _ (after HD0.out (below1 _ _) HD0.out.size)) e).mono ?_; rintro e w' ⟨rfl, rfl⟩) | (go_at_call 74; refine (there_g xs ao ac J _ _ _ true _ (HXS.out _ (after HD0.out (below1 _ _) HD0.out.size)) (HJ.out _ (after HD0.out (below1 _ _) HD0.out.size)).vars HH.out).mono ?_; rintro e w' ⟨rfl, rfl⟩))
  refine hK.out _ _ ?_ (fun hHeld12 => ?_)
  · (try dsimp only) <;> (first | exact HKp.out _ (Below.refl _ _) | exact HKp.out _ (below1 _ _))
  clear hK K hHeld9
  try simp only [Act.put, List.setIfInBounds_toArray, List.set_cons_zero, List.set_cons_succ]
  refine wpAnyH_take (i := 27) (oi := { dst := Option.some 35, op := Go.Op.unOp Go.UnOp.not 4 (Go.Operand.tmp 34), type := 4, pos := "ir.go:388", after := #[{ on := 26, ground := Go.Ground.data }, { on := 22, ground := Go.Ground.guard }], guard := Option.some (22, Bool.false) }) (v := ?_) rfl (by kernel_rfl) (by kernel_rfl) (by kernel_rfl) (fun _ _ _ h => h) (Or.inl ⟨by rfl, ?_⟩) (by assumption) ?_
  rotate_left
  · intro w5x hSwx
    try dsimp only at hSwx
    go_simp
    try with_reducible rfl
  try simp only [Act.put, List.setIfInBounds_toArray, List.set_cons_zero, List.set_cons_succ]
  refine wpAnyH_take (i := 28) (oi := { dst := Option.some 36, op := Go.Op.pick (Go.Operand.tmp 30) (Go.Operand.const (Go.Value.bool Bool.true)) (Go.Operand.tmp 35), type := 4, pos := "ir.go:388", after := #[{ on := 22, ground := Go.Ground.data }, { on := 27, ground := Go.Ground.data }], guard := Option.none }) (v := ?_) rfl (by kernel_rfl) (by kernel_rfl) (by kernel_rfl) (fun _ _ _ h => h) (Or.inl ⟨by rfl, ?_⟩) (by assumption) ?_
  rotate_left
  · intro w5x hSwx
    try dsimp only at hSwx
    go_simp
    try with_reducible rfl
  try simp only [Act.put, List.setIfInBounds_toArray, List.set_cons_zero, List.set_cons_succ]
  refine wpAnyH_done (by kernel_rfl) ?_ _
  go_wp2
  refine wp_region_held_drew (S := fun W => Hid (Below w.heap.size w W) ∧ (∀ i, W.cell? ⟨w.heap.size, i, none⟩ = (InV ⟨op, kd, a, b, tt, el, kf, n, l, c, sg, xs, ms⟩ ao ac mo mc)[i]?) ∧ (∀ i, W.cell? ⟨J, i, none⟩ = (#[.slice p.sa p.ss.length p.sc, .slice (some ⟨bc, oc, none⟩) p.cs.length p.cc, .map (some p.B), .string p.x.nm, .int .i64 p.x.pr, .slice p.va p.x.vs.length p.vc, .bool p.x.rt.t.p, .string p.x.rt.t.name, .int .i64 p.x.rt.cls, .slice p.fa p.x.fr.length p.fc, .slice p.ia p.x.ins.length p.ic] : Array Value)[i]?) ∧ W.cell? ⟨bc, oc + kf * 8, none⟩ = some (.string g.nm) ∧ W.cell? ⟨bc, oc + kf * 8 + 1, none⟩ = some (.int .i64 g.pr) ∧ W.cell? ⟨bc, oc + kf * 8 + 2, none⟩ = some (.slice va2 g.vs.length vc2) ∧ W.cell? ⟨bc, oc + kf * 8 + 3, none⟩ = some (.bool g.rt.t.p) ∧ W.cell? ⟨bc, oc + kf * 8 + 4, none⟩ = some (.string g.rt.t.name) ∧ W.cell? ⟨bc, oc + kf * 8 + 5, none⟩ = some (.int .i64 g.rt.cls) ∧ W.cell? ⟨bc, oc + kf * 8 + 6, none⟩ = some (.slice fa2 g.fr.length fc2) ∧ W.cell? ⟨bc, oc + kf * 8 + 7, none⟩ = some (.slice ia2 g.ins.length ic2)) (by kernel_rfl) ?_ (fun hHeld0 => ?_)
  · (try dsimp only) <;> (first | exact KP.out _ HDa.out | exact KP.out _ (after HDa.out (below1 _ _) HDa.out.size))
  refine wpAnyH_take (i := 0) (oi := { dst := Option.some 37, op := Go.Op.move (Go.Operand.tmp 0), type := 67, pos := "ir.go:391", after := #[], guard := Option.none }) (v := ?_) rfl (by kernel_rfl) (by kernel_rfl) (by kernel_rfl) (fun _ _ _ h => h) (Or.inl ⟨by rfl, ?_⟩) (by assumption) ?_
  rotate_left
  · intro w5x hSwx
    try dsimp only at hSwx
    go_simp
    try with_reducible rfl
  try simp only [Act.put, List.setIfInBounds_toArray, List.set_cons_zero, List.set_cons_succ]
  refine wpAnyH_take (i := 1) (oi := { dst := Option.some 38, op := Go.Op.nilCheck (Go.Operand.tmp 37), type := 0, pos := "ir.go:391", after := #[{ on := 0, ground := Go.Ground.data }], guard := Option.none }) (v := ?_) rfl (by kernel_rfl) (by kernel_rfl) (by kernel_rfl) (fun _ _ _ h => h) (Or.inl ⟨by rfl, ?_⟩) (by assumption) ?_
  rotate_left
  · intro w5x hSwx
    try dsimp only at hSwx
    go_simp
    try with_reducible rfl
  try simp only [Act.put, List.setIfInBounds_toArray, List.set_cons_zero, List.set_cons_succ]
  refine wpAnyH_take (i := 2) (oi := { dst := Option.some 39, op := Go.Op.fieldAddr 70 (Go.Operand.tmp 38) 0, type := 0, pos := "ir.go:391", after := #[{ on := 1, ground := Go.Ground.data }], guard := Option.none }) (v := ?_) rfl (by kernel_rfl) (by kernel_rfl) (by kernel_rfl) (fun _ _ _ h => h) (Or.inl ⟨by rfl, ?_⟩) (by assumption) ?_
  rotate_left
  · intro w5x hSwx
    try dsimp only at hSwx
    go_simp
    try with_reducible rfl
  try simp only [Act.put, List.setIfInBounds_toArray, List.set_cons_zero, List.set_cons_succ]
  refine wpAnyH_take (i := 3) (oi := { dst := Option.some 40, op := Go.Op.fieldAddr 25 (Go.Operand.tmp 39) 1, type := 0, pos := "ir.go:391", after := #[{ on := 2, ground := Go.Ground.data }], guard := Option.none }) (v := ?_) rfl (by kernel_rfl) (by kernel_rfl) (by kernel_rfl) (fun _ _ _ h => h) (Or.inl ⟨by rfl, ?_⟩) (by assumption) ?_
  rotate_left
  · intro w5x hSwx
    try dsimp only at hSwx
    go_simp
    try with_reducible rfl
  try simp only [Act.put, List.setIfInBounds_toArray, List.set_cons_zero, List.set_cons_succ]
  refine wpAnyH_take (i := 4) (oi := { dst := Option.some 41, op := Go.Op.load 23 (Go.Operand.tmp 40), type := 23, pos := "ir.go:391", after := #[{ on := 3, ground := Go.Ground.data }], guard := Option.none }) (v := ?_) rfl (by kernel_rfl) (by kernel_rfl) (by kernel_rfl) (fun _ _ _ h => h) (Or.inl ⟨by rfl, ?_⟩) (by assumption) ?_
  rotate_left
  · intro w5x hSwx
    try dsimp only at hSwx
    go_simp
    try with_reducible rfl
  try simp only [Act.put, List.setIfInBounds_toArray, List.set_cons_zero, List.set_cons_succ]
  refine wpAnyH_take (i := 5) (oi := { dst := Option.some 42, op := Go.Op.fieldAddr 49 (Go.Operand.tmp 3) 4, type := 0, pos := "ir.go:391", after := #[], guard := Option.none }) (v := ?_) rfl (by kernel_rfl) (by kernel_rfl) (by kernel_rfl) (fun _ _ _ h => h) (Or.inl ⟨by rfl, ?_⟩) (by assumption) ?_
  rotate_left
  · intro w5x hSwx
    try dsimp only at hSwx
    go_simp
    try with_reducible rfl
  try simp only [Act.put, List.setIfInBounds_toArray, List.set_cons_zero, List.set_cons_succ]
  refine wpAnyH_take (i := 6) (oi := { dst := Option.some 43, op := Go.Op.load 3 (Go.Operand.tmp 42), type := 3, pos := "ir.go:391", after := #[{ on := 5, ground := Go.Ground.data }], guard := Option.none }) (v := ?_) rfl (by kernel_rfl) (by kernel_rfl) (by kernel_rfl) (fun _ _ _ h => h) (Or.inl ⟨by rfl, ?_⟩) (by assumption) ?_
  rotate_left
  · intro w5x hSwx
    try dsimp only at hSwx
    go_simp
    try with_reducible rfl
  try simp only [Act.put, List.setIfInBounds_toArray, List.set_cons_zero, List.set_cons_succ]
  refine wpAnyH_take (i := 7) (oi := { dst := Option.some 44, op := Go.Op.indexAddr 23 (Go.Operand.tmp 41) (Go.Operand.tmp 43), type := 0, pos := "ir.go:391", after := #[{ on := 4, ground := Go.Ground.data }, { on := 6, ground := Go.Ground.data }], guard := Option.none }) (v := ?_) rfl (by kernel_rfl) (by kernel_rfl) (by kernel_rfl) (fun _ _ _ h => h) (Or.inl ⟨by rfl, ?_⟩) (by assumption) ?_
  rotate_left
  · intro w5x hSwx
    try dsimp only at hSwx
    go_simp
    try with_reducible rfl
  try simp only [Act.put, List.setIfInBounds_toArray, List.set_cons_zero, List.set_cons_succ]
  refine wpAnyH_take (i := 8) (oi := { dst := Option.some 45, op := Go.Op.load 37 (Go.Operand.tmp 44), type := 37, pos := "ir.go:391", after := #[{ on := 7, ground := Go.Ground.data }], guard := Option.none }) (v := ?_) rfl (by kernel_rfl) (by kernel_rfl) (by kernel_rfl) (fun _ _ _ h => h) (Or.inl ⟨by rfl, ?_⟩) (by assumption) ?_
  rotate_left
  · intro w5x hSwx
    try dsimp only at hSwx
    go_simp
    try with_reducible rfl
  try simp only [Act.put, List.setIfInBounds_toArray, List.set_cons_zero, List.set_cons_succ]
  refine wpAnyH_ready (rs := [9]) (by kernel_rfl) (by simp) ?_
  refine AllReadyH.cons (o := { dst := Option.some 5, op := Go.Op.alloc 37, type := 0, pos := "ir.go:391", after := #[], guard := Option.none }) rfl (fun K hK => ?_) AllReadyH.nil
  go_simp
  refine hK.out _ _ ?_ (fun hHeld3 => ?_)
  · (try dsimp only) <;> (first | exact KP.out _ HDa.out | exact KP.out _ (after HDa.out (below1 _ _) HDa.out.size))
  clear hK K hHeld0
  try simp only [Act.put, List.setIfInBounds_toArray, List.set_cons_zero, List.set_cons_succ]
  refine wpAnyH_ready (rs := [10]) (by kernel_rfl) (by simp) ?_
  refine AllReadyH.cons (o := { dst := Option.none, op := Go.Op.store 37 (Go.Operand.tmp 5) (Go.Operand.tmp 45), type := 0, pos := "ir.go:391", after := #[{ on := 9, ground := Go.Ground.data }, { on := 8, ground := Go.Ground.data }, { on := 0, ground := Go.Ground.phase }, { on := 1, ground := Go.Ground.phase }, { on := 2, ground := Go.Ground.phase }, { on := 3, ground := Go.Ground.phase }, { on := 4, ground := Go.Ground.phase }, { on := 5, ground := Go.Ground.phase }, { on := 6, ground := Go.Ground.phase }, { on := 7, ground := Go.Ground.phase }, { on := 8, ground := Go.Ground.phase }, { on := 9, ground := Go.Ground.phase }], guard := Option.none }) rfl (fun K hK => ?_) AllReadyH.nil
  go_simp
  refine hK.out _ _ ?_ (fun hHeld6 => ?_)
  · (try dsimp only) <;> (first | exact KP.out _ HDa.out | exact KP.out _ (after HDa.out (below1 _ _) HDa.out.size))
  clear hK K hHeld3
  try simp only [Act.put, List.setIfInBounds_toArray, List.set_cons_zero, List.set_cons_succ]
  refine wpAnyH_done (by kernel_rfl) ?_ _
  have HBE : Hid (Below w.heap.size w (((w.alloc (.cells (InV ⟨op, kd, a, b, tt, el, kf, n, l, c, sg, xs, ms⟩ ao ac mo mc) 49)).alloc (.cells #[.int .i64 kd] 3)).alloc (.cells (CoV g va2 vc2 fa2 fc2 ia2 ic2) 37)).drew.drew) := hid (below3a w _ _ _).drew.drew
  have HCH : Hid ((((w.alloc (.cells (InV ⟨op, kd, a, b, tt, el, kf, n, l, c, sg, xs, ms⟩ ao ac mo mc) 49)).alloc (.cells #[.int .i64 kd] 3)).alloc (.cells (CoV g va2 vc2 fa2 fc2 ia2 ic2) 37)).drew.drew.heap[w.heap.size]? = some (.cells (InV ⟨op, kd, a, b, tt, el, kf, n, l, c, sg, xs, ms⟩ ao ac mo mc) 49 (0, 0)) ∧ (((w.alloc (.cells (InV ⟨op, kd, a, b, tt, el, kf, n, l, c, sg, xs, ms⟩ ao ac mo mc) 49)).alloc (.cells #[.int .i64 kd] 3)).alloc (.cells (CoV g va2 vc2 fa2 fc2 ia2 ic2) 37)).drew.drew.heap[w.heap.size + 1 + 1]? = some (.cells (CoV g va2 vc2 fa2 fc2 ia2 ic2) 37 (0, 0))) := hid (And.intro (chain3 w _ _ _ _ _ _).1 (chain3 w _ _ _ _ _ _).2.2)
  clear HG8 HD0 HX0 HKp HDa KP
  have xl : (xs.length : Int) ≤ 9223372036854775807 := by have := (HXS.out _ (Below.refl _ _)).1; omega
  have gl : (g.vs.length : Int) ≤ 9223372036854775807 := by have := (HGV.out _ (Below.refl _ _)).1; omega
  by_cases q1 : (xs.length : Int) = g.pr
  case neg =>
    have HQ := hid q1
    have q1' : ((xs.length : Int) != g.pr) = true := by simpa using q1
    clear q1
    go_wp2
    go_ret
    exact ⟨by rw [← HG.out]; simp [calF, HQ.out], HBE⟩
  case pos =>
    have HQ := hid q1
    have q1' : ((xs.length : Int) != g.pr) = false := by simpa using q1
    by_cases q2 : (g.vs.length : Int) < g.pr
    case pos =>
      clear q1
      go_wp2
      go_ret
      exact ⟨by rw [← HG.out]; simp [calF]; have := HQ.out; omega, HBE⟩
    case neg =>
      have hlen := hid (show xs.length ≤ g.vs.length by omega)
      clear q1
      go_wp2
      go_loopg [63] xs.length (fun gk v63 wr => ∃ k : Nat, k ≤ xs.length ∧ gk = xs.length - k ∧ v63 = .int .i64 k ∧ Hid (Below w.heap.size w wr) ∧ Hid (wr.heap[w.heap.size]? = some (.cells (InV ⟨op, kd, a, b, tt, el, kf, n, l, c, sg, xs, ms⟩ ao ac mo mc) 49 (0, 0))) ∧ Hid (wr.heap[w.heap.size + 1 + 1]? = some (.cells (CoV g va2 vc2 fa2 fc2 ia2 ic2) 37 (0, 0))) ∧ Hid (∀ (i : Nat) y v, i < k → xs[i]? = some y → g.vs[i]? = some v → tyEq (tyOf p.x y) v.t = true))
      case atStart => exact ⟨0, by omega, by omega, rfl, HBE, hid HCH.out.1, hid HCH.out.2, hid (fun i y v hi => absurd hi (by omega))⟩
      case round =>
        clear HBE HCH
        obtain ⟨k, hk, rfl, rfl, HBk, HI, HGb, HA⟩ := hrel
        have hi := cells_at HI.out
        have hgb := cells_at HGb.out
        have HDW := hid (below_drew1 wr)
        by_cases hlt : k < xs.length
        · have hlt' : (k : Int) < (xs.length : Int) := by omega
          have hlt2 : (k : Int) < (g.vs.length : Int) := by have := hlen.out; omega
          have k0 : (0 : Int) ≤ (k : Int) := by omega
          obtain ⟨y, hy1⟩ : ∃ y, xs[k]? = some y := ⟨_, List.getElem?_eq_getElem hlt⟩
          obtain ⟨v, hv1⟩ : ∃ v, g.vs[k]? = some v := ⟨_, List.getElem?_eq_getElem (by omega)⟩
          have hyn : inN p.x.vs.length y = true := List.all_eq_true.1 HH.out y (List.mem_of_getElem? hy1)
          obtain ⟨ky, py, ny, rfl, hky, hty⟩ := inN_get hyn
          obtain ⟨bx, ox, rfl, -, hxc⟩ := (HXS.out _ (Below.refl _ _)).2 k _ hy1
          obtain ⟨bg, og, rfl, cg1, cg2, cgl⟩ := kind_cells (HGV.out _ (Below.refl _ _)) (⟨v, hv1, rfl⟩ : KindIs g k v.t.p v.t.name)
          have hxc' : w.cell? ⟨bx, ox + k * 1, none⟩ = some (.int .i64 ky) := hxc
          simp only [Nat.mul_one] at hxc'
          have e0 := cell_keep HBk.out (cell_lt hxc') hxc'
          have HC1 := hid cg1
          have HC2 := hid cg2
          have HY1 := hid hy1
          have HV1 := hid hv1
          have HTY := hid hty
          have HKY := hid hky
          clear hy1 hv1 hyn hky hty hxc hxc' cg1 cg2 cgl
          have KR := hid (fun W (hb : Below wr.heap.size wr W) => And.intro (hid (after HBk.out hb HBk.out.size)) (And.intro (cells_at (lay hb HGb.out)) (And.intro (cell_keep (after HBk.out hb HBk.out.size) (cell_lt HC1.out) HC1.out) (cell_keep (after HBk.out hb HBk.out.size) (cell_lt HC2.out) HC2.out))))
          obtain ⟨p1, hp1⟩ : ∃ q, (py == v.t.p) = q := ⟨_, rfl⟩
          obtain ⟨p2, hp2⟩ : ∃ q, (ny.toList == v.t.name.toList) = q := ⟨_, rfl⟩
          have HTE : Hid (tyEq (tyOf p.x ky) v.t = (p1 && p2)) := hid (by rw [HTY.out, tyEq, sEq, hp1, hp2])
          cases p1 <;> cases p2
          all_goals
            go_wp2
            first
              | refine wp_region_held_drew (S := fun W => Hid (Below w.heap.size w W) ∧ (∀ i, W.cell? ⟨w.heap.size + 1 + 1, i, none⟩ = (CoV g (some ⟨bg, og, none⟩) vc2 fa2 fc2 ia2 ic2)[i]?) ∧ W.cell? ⟨bg, og + k * 3, none⟩ = some (.bool v.t.p) ∧ W.cell? ⟨bg, og + k * 3 + 1, none⟩ = some (.string v.t.name)) (by kernel_rfl) ?_ (fun hHeld0 => ?_)
                · (try dsimp only) <;> (first | exact KR.out _ HDW.out | exact KR.out _ HDd.out)
                refine wpAnyH_take (i := 0) (oi := { dst := Option.some 68, op := Go.Op.move (Go.Operand.tmp 0), type := 67, pos := "ir.go:396", after := #[], guard := Option.none }) (v := ?_) rfl (by kernel_rfl) (by kernel_rfl) (by kernel_rfl) (fun _ _ _ h => h) (Or.inl ⟨by rfl, ?_⟩) (by assumption) ?_
                rotate_left
                · intro w5x hSwx
                  try dsimp only at hSwx
                  go_simp
                  try with_reducible rfl
                try simp only [Act.put, List.setIfInBounds_toArray, List.set_cons_zero, List.set_cons_succ]
                refine wpAnyH_take (i := 1) (oi := { dst := Option.some 69, op := Go.Op.move (Go.Operand.tmp 7), type := 3, pos := "ir.go:396", after := #[], guard := Option.none }) (v := ?_) rfl (by kernel_rfl) (by kernel_rfl) (by kernel_rfl) (fun _ _ _ h => h) (Or.inl ⟨by rfl, ?_⟩) (by assumption) ?_
                rotate_left
                · intro w5x hSwx
                  try dsimp only at hSwx
                  go_simp
                  try with_reducible rfl
                try simp only [Act.put, List.setIfInBounds_toArray, List.set_cons_zero, List.set_cons_succ]
                refine wpAnyH_take (i := 3) (oi := { dst := Option.some 71, op := Go.Op.fieldAddr 37 (Go.Operand.tmp 5) 2, type := 0, pos := "ir.go:396", after := #[], guard := Option.none }) (v := ?_) rfl (by kernel_rfl) (by kernel_rfl) (by kernel_rfl) (fun _ _ _ h => h) (Or.inl ⟨by rfl, ?_⟩) (by assumption) ?_
                rotate_left
                · intro w5x hSwx
                  try dsimp only at hSwx
                  go_simp
                  try with_reducible rfl
                try simp only [Act.put, List.setIfInBounds_toArray, List.set_cons_zero, List.set_cons_succ]
                refine wpAnyH_take (i := 4) (oi := { dst := Option.some 72, op := Go.Op.load 29 (Go.Operand.tmp 71), type := 29, pos := "ir.go:396", after := #[{ on := 3, ground := Go.Ground.data }], guard := Option.none }) (v := ?_) rfl (by kernel_rfl) (by kernel_rfl) (by kernel_rfl) (fun _ _ _ h => h) (Or.inl ⟨by rfl, ?_⟩) (by assumption) ?_
                rotate_left
                · intro w5x hSwx
                  try dsimp only at hSwx
                  go_simp
                  try with_reducible rfl
                try simp only [Act.put, List.setIfInBounds_toArray, List.set_cons_zero, List.set_cons_succ]
                refine wpAnyH_take (i := 5) (oi := { dst := Option.some 73, op := Go.Op.move (Go.Operand.tmp 6), type := 3, pos := "ir.go:396", after := #[], guard := Option.none }) (v := ?_) rfl (by kernel_rfl) (by kernel_rfl) (by kernel_rfl) (fun _ _ _ h => h) (Or.inl ⟨by rfl, ?_⟩) (by assumption) ?_
                rotate_left
                · intro w5x hSwx
                  try dsimp only at hSwx
                  go_simp
                  try with_reducible rfl
                try simp only [Act.put, List.setIfInBounds_toArray, List.set_cons_zero, List.set_cons_succ]
                refine wpAnyH_take (i := 6) (oi := { dst := Option.some 74, op := Go.Op.indexAddr 29 (Go.Operand.tmp 72) (Go.Operand.tmp 73), type := 0, pos := "ir.go:396", after := #[{ on := 4, ground := Go.Ground.data }, { on := 5, ground := Go.Ground.data }], guard := Option.none }) (v := ?_) rfl (by kernel_rfl) (by kernel_rfl) (by kernel_rfl) (fun _ _ _ h => h) (Or.inl ⟨by rfl, ?_⟩) (by assumption) ?_
                rotate_left
                · intro w5x hSwx
                  try dsimp only at hSwx
                  go_simp
                  try with_reducible rfl
                try simp only [Act.put, List.setIfInBounds_toArray, List.set_cons_zero, List.set_cons_succ]
                refine wpAnyH_take (i := 7) (oi := { dst := Option.some 75, op := Go.Op.fieldAddr 33 (Go.Operand.tmp 74) 0, type := 0, pos := "ir.go:396", after := #[{ on := 6, ground := Go.Ground.data }], guard := Option.none }) (v := ?_) rfl (by kernel_rfl) (by kernel_rfl) (by kernel_rfl) (fun _ _ _ h => h) (Or.inl ⟨by rfl, ?_⟩) (by assumption) ?_
                rotate_left
                · intro w5x hSwx
                  try dsimp only at hSwx
                  go_simp
                  try with_reducible rfl
                try simp only [Act.put, List.setIfInBounds_toArray, List.set_cons_zero, List.set_cons_succ]
                refine wpAnyH_take (i := 8) (oi := { dst := Option.some 76, op := Go.Op.load 31 (Go.Operand.tmp 75), type := 31, pos := "ir.go:396", after := #[{ on := 7, ground := Go.Ground.data }], guard := Option.none }) (v := ?_) rfl (by kernel_rfl) (by kernel_rfl) (by kernel_rfl) (fun _ _ _ h => h) (Or.inl ⟨by rfl, ?_⟩) (by assumption) ?_
                rotate_left
                · intro w5x hSwx
                  try dsimp only at hSwx
                  go_simp
                  try with_reducible rfl
                try simp only [Act.put, List.setIfInBounds_toArray, List.set_cons_zero, List.set_cons_succ]
                refine wpAnyH_ready (rs := [2]) (by kernel_rfl) (by simp) ?_
                refine AllReadyH.cons (o := { dst := Option.some 70, op := Go.Op.call { callee := Go.Callee.value (Go.Operand.func 76), args := #[Go.Operand.tmp 68, Go.Operand.tmp 69], argTypes := #[67, 3] }, type := 31, pos := "ir.go:396", after := #[{ on := 0, ground := Go.Ground.data }, { on := 1, ground := Go.Ground.data }], guard := Option.none }) rfl (fun K hK => ?_) AllReadyH.nil
                go_simp
                go_wp2_with (first | (go_at_call 76; refine (kind_j p ky _ _ J _ (HJ.out _ (after HBk.out HDW.out HBk.out.size)) HKY.out).mono ?_; rintro e v2 ⟨rfl, hv2⟩; have HDd := hid (after HDW.out hv2.out HDW.out.size); clear hv2))
                refine hK.out _ _ ?_ (fun hHeld3 => ?_)
                · (try dsimp only) <;> (first | exact KR.out _ HDW.out | exact KR.out _ HDd.out)
                clear hK K hHeld0
                try simp only [Act.put, List.setIfInBounds_toArray, List.set_cons_zero, List.set_cons_succ]
                refine wpAnyH_take (i := 9) (oi := { dst := Option.some 77, op := Go.Op.binOp Go.BinOp.neq 31 (Go.Operand.tmp 70) (Go.Operand.tmp 76) 31, type := 4, pos := "ir.go:396", after := #[{ on := 2, ground := Go.Ground.data }, { on := 8, ground := Go.Ground.data }], guard := Option.none }) (v := Value.bool true) rfl (by kernel_rfl) (by kernel_rfl) (by kernel_rfl) (fun _ _ _ h => h) (Or.inl ⟨by rfl, ?_⟩) (by assumption) ?_
                · intro w5x hSwx
                  try dsimp only at hSwx
                  go_simp
                  all_goals first | with_reducible rfl | ((try simp only [Value.bool.injEq, decide_eq_true_eq, decide_eq_false_iff_not]); omega)
                try simp only [Act.put, List.setIfInBounds_toArray, List.set_cons_zero, List.set_cons_succ]
                refine wpAnyH_done (by kernel_rfl) ?_ _
              | refine wp_region_held_drew (S := fun W => Hid (Below w.heap.size w W) ∧ (∀ i, W.cell? ⟨w.heap.size + 1 + 1, i, none⟩ = (CoV g (some ⟨bg, og, none⟩) vc2 fa2 fc2 ia2 ic2)[i]?) ∧ W.cell? ⟨bg, og + k * 3, none⟩ = some (.bool v.t.p) ∧ W.cell? ⟨bg, og + k * 3 + 1, none⟩ = some (.string v.t.name)) (by kernel_rfl) ?_ (fun hHeld0 => ?_)
                · (try dsimp only) <;> (first | exact KR.out _ HDW.out | exact KR.out _ HDd.out)
                refine wpAnyH_take (i := 0) (oi := { dst := Option.some 68, op := Go.Op.move (Go.Operand.tmp 0), type := 67, pos := "ir.go:396", after := #[], guard := Option.none }) (v := ?_) rfl (by kernel_rfl) (by kernel_rfl) (by kernel_rfl) (fun _ _ _ h => h) (Or.inl ⟨by rfl, ?_⟩) (by assumption) ?_
                rotate_left
                · intro w5x hSwx
                  try dsimp only at hSwx
                  go_simp
                  try with_reducible rfl
                try simp only [Act.put, List.setIfInBounds_toArray, List.set_cons_zero, List.set_cons_succ]
                refine wpAnyH_take (i := 1) (oi := { dst := Option.some 69, op := Go.Op.move (Go.Operand.tmp 7), type := 3, pos := "ir.go:396", after := #[], guard := Option.none }) (v := ?_) rfl (by kernel_rfl) (by kernel_rfl) (by kernel_rfl) (fun _ _ _ h => h) (Or.inl ⟨by rfl, ?_⟩) (by assumption) ?_
                rotate_left
                · intro w5x hSwx
                  try dsimp only at hSwx
                  go_simp
                  try with_reducible rfl
                try simp only [Act.put, List.setIfInBounds_toArray, List.set_cons_zero, List.set_cons_succ]
                refine wpAnyH_take (i := 3) (oi := { dst := Option.some 71, op := Go.Op.fieldAddr 37 (Go.Operand.tmp 5) 2, type := 0, pos := "ir.go:396", after := #[], guard := Option.none }) (v := ?_) rfl (by kernel_rfl) (by kernel_rfl) (by kernel_rfl) (fun _ _ _ h => h) (Or.inl ⟨by rfl, ?_⟩) (by assumption) ?_
                rotate_left
                · intro w5x hSwx
                  try dsimp only at hSwx
                  go_simp
                  try with_reducible rfl
                try simp only [Act.put, List.setIfInBounds_toArray, List.set_cons_zero, List.set_cons_succ]
                refine wpAnyH_take (i := 4) (oi := { dst := Option.some 72, op := Go.Op.load 29 (Go.Operand.tmp 71), type := 29, pos := "ir.go:396", after := #[{ on := 3, ground := Go.Ground.data }], guard := Option.none }) (v := ?_) rfl (by kernel_rfl) (by kernel_rfl) (by kernel_rfl) (fun _ _ _ h => h) (Or.inl ⟨by rfl, ?_⟩) (by assumption) ?_
                rotate_left
                · intro w5x hSwx
                  try dsimp only at hSwx
                  go_simp
                  try with_reducible rfl
                try simp only [Act.put, List.setIfInBounds_toArray, List.set_cons_zero, List.set_cons_succ]
                refine wpAnyH_take (i := 5) (oi := { dst := Option.some 73, op := Go.Op.move (Go.Operand.tmp 6), type := 3, pos := "ir.go:396", after := #[], guard := Option.none }) (v := ?_) rfl (by kernel_rfl) (by kernel_rfl) (by kernel_rfl) (fun _ _ _ h => h) (Or.inl ⟨by rfl, ?_⟩) (by assumption) ?_
                rotate_left
                · intro w5x hSwx
                  try dsimp only at hSwx
                  go_simp
                  try with_reducible rfl
                try simp only [Act.put, List.setIfInBounds_toArray, List.set_cons_zero, List.set_cons_succ]
                refine wpAnyH_take (i := 6) (oi := { dst := Option.some 74, op := Go.Op.indexAddr 29 (Go.Operand.tmp 72) (Go.Operand.tmp 73), type := 0, pos := "ir.go:396", after := #[{ on := 4, ground := Go.Ground.data }, { on := 5, ground := Go.Ground.data }], guard := Option.none }) (v := ?_) rfl (by kernel_rfl) (by kernel_rfl) (by kernel_rfl) (fun _ _ _ h => h) (Or.inl ⟨by rfl, ?_⟩) (by assumption) ?_
                rotate_left
                · intro w5x hSwx
                  try dsimp only at hSwx
                  go_simp
                  try with_reducible rfl
                try simp only [Act.put, List.setIfInBounds_toArray, List.set_cons_zero, List.set_cons_succ]
                refine wpAnyH_take (i := 7) (oi := { dst := Option.some 75, op := Go.Op.fieldAddr 33 (Go.Operand.tmp 74) 0, type := 0, pos := "ir.go:396", after := #[{ on := 6, ground := Go.Ground.data }], guard := Option.none }) (v := ?_) rfl (by kernel_rfl) (by kernel_rfl) (by kernel_rfl) (fun _ _ _ h => h) (Or.inl ⟨by rfl, ?_⟩) (by assumption) ?_
                rotate_left
                · intro w5x hSwx
                  try dsimp only at hSwx
                  go_simp
                  try with_reducible rfl
                try simp only [Act.put, List.setIfInBounds_toArray, List.set_cons_zero, List.set_cons_succ]
                refine wpAnyH_take (i := 8) (oi := { dst := Option.some 76, op := Go.Op.load 31 (Go.Operand.tmp 75), type := 31, pos := "ir.go:396", after := #[{ on := 7, ground := Go.Ground.data }], guard := Option.none }) (v := ?_) rfl (by kernel_rfl) (by kernel_rfl) (by kernel_rfl) (fun _ _ _ h => h) (Or.inl ⟨by rfl, ?_⟩) (by assumption) ?_
                rotate_left
                · intro w5x hSwx
                  try dsimp only at hSwx
                  go_simp
                  try with_reducible rfl
                try simp only [Act.put, List.setIfInBounds_toArray, List.set_cons_zero, List.set_cons_succ]
                refine wpAnyH_ready (rs := [2]) (by kernel_rfl) (by simp) ?_
                refine AllReadyH.cons (o := { dst := Option.some 70, op := Go.Op.call { callee := Go.Callee.value (Go.Operand.func 76), args := #[Go.Operand.tmp 68, Go.Operand.tmp 69], argTypes := #[67, 3] }, type := 31, pos := "ir.go:396", after := #[{ on := 0, ground := Go.Ground.data }, { on := 1, ground := Go.Ground.data }], guard := Option.none }) rfl (fun K hK => ?_) AllReadyH.nil
                go_simp
                go_wp2_with (first | (go_at_call 76; refine (kind_j p ky _ _ J _ (HJ.out _ (after HBk.out HDW.out HBk.out.size)) HKY.out).mono ?_; rintro e v2 ⟨rfl, hv2⟩; have HDd := hid (after HDW.out hv2.out HDW.out.size); clear hv2))
                refine hK.out _ _ ?_ (fun hHeld3 => ?_)
                · (try dsimp only) <;> (first | exact KR.out _ HDW.out | exact KR.out _ HDd.out)
                clear hK K hHeld0
                try simp only [Act.put, List.setIfInBounds_toArray, List.set_cons_zero, List.set_cons_succ]
                refine wpAnyH_take (i := 9) (oi := { dst := Option.some 77, op := Go.Op.binOp Go.BinOp.neq 31 (Go.Operand.tmp 70) (Go.Operand.tmp 76) 31, type := 4, pos := "ir.go:396", after := #[{ on := 2, ground := Go.Ground.data }, { on := 8, ground := Go.Ground.data }], guard := Option.none }) (v := Value.bool false) rfl (by kernel_rfl) (by kernel_rfl) (by kernel_rfl) (fun _ _ _ h => h) (Or.inl ⟨by rfl, ?_⟩) (by assumption) ?_
                · intro w5x hSwx
                  try dsimp only at hSwx
                  go_simp
                  all_goals first | with_reducible rfl | ((try simp only [Value.bool.injEq, decide_eq_true_eq, decide_eq_false_iff_not]); omega)
                try simp only [Act.put, List.setIfInBounds_toArray, List.set_cons_zero, List.set_cons_succ]
                refine wpAnyH_done (by kernel_rfl) ?_ _
            go_wp2
          rotate_right
          · go_roundg (xs.length - (k + 1))
            case measure => omega
            case rel => exact ⟨k + 1, by omega, rfl, rfl, hid (after HBk.out HDd.out HBk.out.size), hid (lay HDd.out HI.out), hid (lay HDd.out HGb.out), hid (fun i y' v' hi h1 h2 => by
              by_cases hik : i < k
              · exact HA.out i y' v' hik h1 h2
              · obtain rfl : i = k := by omega
                rw [HY1.out] at h1
                rw [HV1.out] at h2
                cases h1
                cases h2
                exact HTE.out)⟩
          all_goals
            have HPF : Hid (calF g p.x ⟨op, kd, a, b, tt, el, kf, n, l, c, sg, xs, ms⟩ = 7) := hid (by
              simp only [calF]
              rw [argsEq_no p.x HY1.out HV1.out HTE.out]
              simp)
            go_ret
            exact ⟨by rw [show G = 7 from HG.out.symm.trans HPF.out]; rfl, hid (after HBk.out HDd.out HBk.out.size)⟩
        · have hlt' : ¬ (k : Int) < (xs.length : Int) := by omega
          have HAA := hid (argsEq_yes p.x hlen.out (fun i y v h1 h2 h3 => HA.out i y v (by omega) h2 h3))
          have KR := hid (fun W (hb : Below wr.heap.size wr W) => And.intro (hid (after HBk.out hb HBk.out.size)) (And.intro (cells_at (lay hb HI.out)) (cells_at (lay hb HGb.out))))
          obtain ⟨p1, hp1⟩ : ∃ q, (pd == g.rt.t.p) = q := ⟨_, rfl⟩
          obtain ⟨p2, hp2⟩ : ∃ q, (nd.toList == g.rt.t.name.toList) = q := ⟨_, rfl⟩
          have HRR : Hid (G = if p1 && p2 then 0 else 7) := hid (by
            rw [← HG.out]
            simp only [calF]
            have h1 := hlen.out
            rw [HAA.out, HTD.out, tyEq, sEq, hp1, hp2]
            simp [HQ.out, h1])
          cases p1 <;> cases p2
          all_goals
            go_wp2
            first
              | refine wp_region_held_drew (S := fun W => Hid (Below w.heap.size w W) ∧ (∀ i, W.cell? ⟨w.heap.size, i, none⟩ = (InV ⟨op, kd, a, b, tt, el, kf, n, l, c, sg, xs, ms⟩ ao ac mo mc)[i]?) ∧ (∀ i, W.cell? ⟨w.heap.size + 1 + 1, i, none⟩ = (CoV g va2 vc2 fa2 fc2 ia2 ic2)[i]?)) (by kernel_rfl) ?_ (fun hHeld0 => ?_)
                · (try dsimp only) <;> (first | exact KR.out _ HDW.out | exact KR.out _ HDd.out)
                refine wpAnyH_take (i := 0) (oi := { dst := Option.some 79, op := Go.Op.move (Go.Operand.tmp 0), type := 67, pos := "ir.go:400", after := #[], guard := Option.none }) (v := ?_) rfl (by kernel_rfl) (by kernel_rfl) (by kernel_rfl) (fun _ _ _ h => h) (Or.inl ⟨by rfl, ?_⟩) (by assumption) ?_
                rotate_left
                · intro w5x hSwx
                  try dsimp only at hSwx
                  go_simp
                  try with_reducible rfl
                try simp only [Act.put, List.setIfInBounds_toArray, List.set_cons_zero, List.set_cons_succ]
                refine wpAnyH_take (i := 1) (oi := { dst := Option.some 80, op := Go.Op.fieldAddr 49 (Go.Operand.tmp 3) 1, type := 0, pos := "ir.go:400", after := #[], guard := Option.none }) (v := ?_) rfl (by kernel_rfl) (by kernel_rfl) (by kernel_rfl) (fun _ _ _ h => h) (Or.inl ⟨by rfl, ?_⟩) (by assumption) ?_
                rotate_left
                · intro w5x hSwx
                  try dsimp only at hSwx
                  go_simp
                  try with_reducible rfl
                try simp only [Act.put, List.setIfInBounds_toArray, List.set_cons_zero, List.set_cons_succ]
                refine wpAnyH_take (i := 2) (oi := { dst := Option.some 81, op := Go.Op.load 3 (Go.Operand.tmp 80), type := 3, pos := "ir.go:400", after := #[{ on := 1, ground := Go.Ground.data }], guard := Option.none }) (v := ?_) rfl (by kernel_rfl) (by kernel_rfl) (by kernel_rfl) (fun _ _ _ h => h) (Or.inl ⟨by rfl, ?_⟩) (by assumption) ?_
                rotate_left
                · intro w5x hSwx
                  try dsimp only at hSwx
                  go_simp
                  try with_reducible rfl
                try simp only [Act.put, List.setIfInBounds_toArray, List.set_cons_zero, List.set_cons_succ]
                refine wpAnyH_take (i := 4) (oi := { dst := Option.some 83, op := Go.Op.fieldAddr 37 (Go.Operand.tmp 5) 3, type := 0, pos := "ir.go:400", after := #[], guard := Option.none }) (v := ?_) rfl (by kernel_rfl) (by kernel_rfl) (by kernel_rfl) (fun _ _ _ h => h) (Or.inl ⟨by rfl, ?_⟩) (by assumption) ?_
                rotate_left
                · intro w5x hSwx
                  try dsimp only at hSwx
                  go_simp
                  try with_reducible rfl
                try simp only [Act.put, List.setIfInBounds_toArray, List.set_cons_zero, List.set_cons_succ]
                refine wpAnyH_take (i := 5) (oi := { dst := Option.some 84, op := Go.Op.fieldAddr 33 (Go.Operand.tmp 83) 0, type := 0, pos := "ir.go:400", after := #[{ on := 4, ground := Go.Ground.data }], guard := Option.none }) (v := ?_) rfl (by kernel_rfl) (by kernel_rfl) (by kernel_rfl) (fun _ _ _ h => h) (Or.inl ⟨by rfl, ?_⟩) (by assumption) ?_
                rotate_left
                · intro w5x hSwx
                  try dsimp only at hSwx
                  go_simp
                  try with_reducible rfl
                try simp only [Act.put, List.setIfInBounds_toArray, List.set_cons_zero, List.set_cons_succ]
                refine wpAnyH_take (i := 6) (oi := { dst := Option.some 85, op := Go.Op.load 31 (Go.Operand.tmp 84), type := 31, pos := "ir.go:400", after := #[{ on := 5, ground := Go.Ground.data }], guard := Option.none }) (v := ?_) rfl (by kernel_rfl) (by kernel_rfl) (by kernel_rfl) (fun _ _ _ h => h) (Or.inl ⟨by rfl, ?_⟩) (by assumption) ?_
                rotate_left
                · intro w5x hSwx
                  try dsimp only at hSwx
                  go_simp
                  try with_reducible rfl
                try simp only [Act.put, List.setIfInBounds_toArray, List.set_cons_zero, List.set_cons_succ]
                refine wpAnyH_ready (rs := [3]) (by kernel_rfl) (by simp) ?_
                refine AllReadyH.cons (o := { dst := Option.some 82, op := Go.Op.call { callee := Go.Callee.value (Go.Operand.func 76), args := #[Go.Operand.tmp 79, Go.Operand.tmp 81], argTypes := #[67, 3] }, type := 31, pos := "ir.go:400", after := #[{ on := 0, ground := Go.Ground.data }, { on := 2, ground := Go.Ground.data }], guard := Option.none }) rfl (fun K hK => ?_) AllReadyH.nil
                go_simp
                go_wp2_with (first | (go_at_call 76; refine (kind_j p kd _ _ J _ (HJ.out _ (after HBk.out HDW.out HBk.out.size)) HD.out).mono ?_; rintro e v2 ⟨rfl, hv2⟩; have HDd := hid (after HDW.out hv2.out HDW.out.size); clear hv2) | (go_at_call 75; refine (mist_i _ _).mono ?_; rintro e w' ⟨rfl, rfl⟩))
                refine hK.out _ _ ?_ (fun hHeld3 => ?_)
                · (try dsimp only) <;> (first | exact KR.out _ HDW.out | exact KR.out _ HDd.out)
                clear hK K hHeld0
                try simp only [Act.put, List.setIfInBounds_toArray, List.set_cons_zero, List.set_cons_succ]
                refine wpAnyH_take (i := 7) (oi := { dst := Option.some 86, op := Go.Op.binOp Go.BinOp.neq 31 (Go.Operand.tmp 82) (Go.Operand.tmp 85) 31, type := 4, pos := "ir.go:400", after := #[{ on := 3, ground := Go.Ground.data }, { on := 6, ground := Go.Ground.data }], guard := Option.none }) (v := Value.bool true) rfl (by kernel_rfl) (by kernel_rfl) (by kernel_rfl) (fun _ _ _ h => h) (Or.inl ⟨by rfl, ?_⟩) (by assumption) ?_
                · intro w5x hSwx
                  try dsimp only at hSwx
                  go_simp
                  all_goals first | with_reducible rfl | ((try simp only [Value.bool.injEq, decide_eq_true_eq, decide_eq_false_iff_not]); omega)
                try simp only [Act.put, List.setIfInBounds_toArray, List.set_cons_zero, List.set_cons_succ]
                refine wpAnyH_ready (rs := [8]) (by kernel_rfl) (by simp) ?_
                refine AllReadyH.cons (o := { dst := Option.some 87, op := Go.Op.call { callee := Go.Callee.value (Go.Operand.func 75), args := #[Go.Operand.tmp 86], argTypes := #[4] }, type := 41, pos := "ir.go:400", after := #[{ on := 7, ground := Go.Ground.data }, { on := 3, ground := Go.Ground.chain }], guard := Option.none }) rfl (fun K hK => ?_) AllReadyH.nil
                go_simp
                go_wp2_with (first | (go_at_call 76; refine (kind_j p kd _ _ J _ (HJ.out _ (after HBk.out HDW.out HBk.out.size)) HD.out).mono ?_; rintro e v2 ⟨rfl, hv2⟩; have HDd := hid (after HDW.out hv2.out HDW.out.size); clear hv2) | (go_at_call 75; refine (mist_i _ _).mono ?_; rintro e w' ⟨rfl, rfl⟩))
                refine hK.out _ _ ?_ (fun hHeld6 => ?_)
                · (try dsimp only) <;> (first | exact KR.out _ HDW.out | exact KR.out _ HDd.out)
                clear hK K hHeld3
                try simp only [Act.put, List.setIfInBounds_toArray, List.set_cons_zero, List.set_cons_succ]
                refine wpAnyH_take (i := 9) (oi := { dst := Option.some 4, op := Go.Op.assign (Go.Operand.tmp 87), type := 41, pos := "ir.go:400", after := #[{ on := 8, ground := Go.Ground.data }, { on := 8, ground := Go.Ground.chain }, { on := 0, ground := Go.Ground.phase }, { on := 1, ground := Go.Ground.phase }, { on := 2, ground := Go.Ground.phase }, { on := 3, ground := Go.Ground.phase }, { on := 4, ground := Go.Ground.phase }, { on := 5, ground := Go.Ground.phase }, { on := 6, ground := Go.Ground.phase }, { on := 7, ground := Go.Ground.phase }, { on := 8, ground := Go.Ground.phase }], guard := Option.none }) (v := ?_) rfl (by kernel_rfl) (by kernel_rfl) (by kernel_rfl) (fun _ _ _ h => h) (Or.inl ⟨by rfl, ?_⟩) (by assumption) ?_
                rotate_left
                · intro w5x hSwx
                  try dsimp only at hSwx
                  go_simp
                  try with_reducible rfl
                try simp only [Act.put, List.setIfInBounds_toArray, List.set_cons_zero, List.set_cons_succ]
                refine wpAnyH_done (by kernel_rfl) ?_ _
              | refine wp_region_held_drew (S := fun W => Hid (Below w.heap.size w W) ∧ (∀ i, W.cell? ⟨w.heap.size, i, none⟩ = (InV ⟨op, kd, a, b, tt, el, kf, n, l, c, sg, xs, ms⟩ ao ac mo mc)[i]?) ∧ (∀ i, W.cell? ⟨w.heap.size + 1 + 1, i, none⟩ = (CoV g va2 vc2 fa2 fc2 ia2 ic2)[i]?)) (by kernel_rfl) ?_ (fun hHeld0 => ?_)
                · (try dsimp only) <;> (first | exact KR.out _ HDW.out | exact KR.out _ HDd.out)
                refine wpAnyH_take (i := 0) (oi := { dst := Option.some 79, op := Go.Op.move (Go.Operand.tmp 0), type := 67, pos := "ir.go:400", after := #[], guard := Option.none }) (v := ?_) rfl (by kernel_rfl) (by kernel_rfl) (by kernel_rfl) (fun _ _ _ h => h) (Or.inl ⟨by rfl, ?_⟩) (by assumption) ?_
                rotate_left
                · intro w5x hSwx
                  try dsimp only at hSwx
                  go_simp
                  try with_reducible rfl
                try simp only [Act.put, List.setIfInBounds_toArray, List.set_cons_zero, List.set_cons_succ]
                refine wpAnyH_take (i := 1) (oi := { dst := Option.some 80, op := Go.Op.fieldAddr 49 (Go.Operand.tmp 3) 1, type := 0, pos := "ir.go:400", after := #[], guard := Option.none }) (v := ?_) rfl (by kernel_rfl) (by kernel_rfl) (by kernel_rfl) (fun _ _ _ h => h) (Or.inl ⟨by rfl, ?_⟩) (by assumption) ?_
                rotate_left
                · intro w5x hSwx
                  try dsimp only at hSwx
                  go_simp
                  try with_reducible rfl
                try simp only [Act.put, List.setIfInBounds_toArray, List.set_cons_zero, List.set_cons_succ]
                refine wpAnyH_take (i := 2) (oi := { dst := Option.some 81, op := Go.Op.load 3 (Go.Operand.tmp 80), type := 3, pos := "ir.go:400", after := #[{ on := 1, ground := Go.Ground.data }], guard := Option.none }) (v := ?_) rfl (by kernel_rfl) (by kernel_rfl) (by kernel_rfl) (fun _ _ _ h => h) (Or.inl ⟨by rfl, ?_⟩) (by assumption) ?_
                rotate_left
                · intro w5x hSwx
                  try dsimp only at hSwx
                  go_simp
                  try with_reducible rfl
                try simp only [Act.put, List.setIfInBounds_toArray, List.set_cons_zero, List.set_cons_succ]
                refine wpAnyH_take (i := 4) (oi := { dst := Option.some 83, op := Go.Op.fieldAddr 37 (Go.Operand.tmp 5) 3, type := 0, pos := "ir.go:400", after := #[], guard := Option.none }) (v := ?_) rfl (by kernel_rfl) (by kernel_rfl) (by kernel_rfl) (fun _ _ _ h => h) (Or.inl ⟨by rfl, ?_⟩) (by assumption) ?_
                rotate_left
                · intro w5x hSwx
                  try dsimp only at hSwx
                  go_simp
                  try with_reducible rfl
                try simp only [Act.put, List.setIfInBounds_toArray, List.set_cons_zero, List.set_cons_succ]
                refine wpAnyH_take (i := 5) (oi := { dst := Option.some 84, op := Go.Op.fieldAddr 33 (Go.Operand.tmp 83) 0, type := 0, pos := "ir.go:400", after := #[{ on := 4, ground := Go.Ground.data }], guard := Option.none }) (v := ?_) rfl (by kernel_rfl) (by kernel_rfl) (by kernel_rfl) (fun _ _ _ h => h) (Or.inl ⟨by rfl, ?_⟩) (by assumption) ?_
                rotate_left
                · intro w5x hSwx
                  try dsimp only at hSwx
                  go_simp
                  try with_reducible rfl
                try simp only [Act.put, List.setIfInBounds_toArray, List.set_cons_zero, List.set_cons_succ]
                refine wpAnyH_take (i := 6) (oi := { dst := Option.some 85, op := Go.Op.load 31 (Go.Operand.tmp 84), type := 31, pos := "ir.go:400", after := #[{ on := 5, ground := Go.Ground.data }], guard := Option.none }) (v := ?_) rfl (by kernel_rfl) (by kernel_rfl) (by kernel_rfl) (fun _ _ _ h => h) (Or.inl ⟨by rfl, ?_⟩) (by assumption) ?_
                rotate_left
                · intro w5x hSwx
                  try dsimp only at hSwx
                  go_simp
                  try with_reducible rfl
                try simp only [Act.put, List.setIfInBounds_toArray, List.set_cons_zero, List.set_cons_succ]
                refine wpAnyH_ready (rs := [3]) (by kernel_rfl) (by simp) ?_
                refine AllReadyH.cons (o := { dst := Option.some 82, op := Go.Op.call { callee := Go.Callee.value (Go.Operand.func 76), args := #[Go.Operand.tmp 79, Go.Operand.tmp 81], argTypes := #[67, 3] }, type := 31, pos := "ir.go:400", after := #[{ on := 0, ground := Go.Ground.data }, { on := 2, ground := Go.Ground.data }], guard := Option.none }) rfl (fun K hK => ?_) AllReadyH.nil
                go_simp
                go_wp2_with (first | (go_at_call 76; refine (kind_j p kd _ _ J _ (HJ.out _ (after HBk.out HDW.out HBk.out.size)) HD.out).mono ?_; rintro e v2 ⟨rfl, hv2⟩; have HDd := hid (after HDW.out hv2.out HDW.out.size); clear hv2) | (go_at_call 75; refine (mist_i _ _).mono ?_; rintro e w' ⟨rfl, rfl⟩))
                refine hK.out _ _ ?_ (fun hHeld3 => ?_)
                · (try dsimp only) <;> (first | exact KR.out _ HDW.out | exact KR.out _ HDd.out)
                clear hK K hHeld0
                try simp only [Act.put, List.setIfInBounds_toArray, List.set_cons_zero, List.set_cons_succ]
                refine wpAnyH_take (i := 7) (oi := { dst := Option.some 86, op := Go.Op.binOp Go.BinOp.neq 31 (Go.Operand.tmp 82) (Go.Operand.tmp 85) 31, type := 4, pos := "ir.go:400", after := #[{ on := 3, ground := Go.Ground.data }, { on := 6, ground := Go.Ground.data }], guard := Option.none }) (v := Value.bool false) rfl (by kernel_rfl) (by kernel_rfl) (by kernel_rfl) (fun _ _ _ h => h) (Or.inl ⟨by rfl, ?_⟩) (by assumption) ?_
                · intro w5x hSwx
                  try dsimp only at hSwx
                  go_simp
                  all_goals first | with_reducible rfl | ((try simp only [Value.bool.injEq, decide_eq_true_eq, decide_eq_false_iff_not]); omega)
                try simp only [Act.put, List.setIfInBounds_toArray, List.set_cons_zero, List.set_cons_succ]
                refine wpAnyH_ready (rs := [8]) (by kernel_rfl) (by simp) ?_
                refine AllReadyH.cons (o := { dst := Option.some 87, op := Go.Op.call { callee := Go.Callee.value (Go.Operand.func 75), args := #[Go.Operand.tmp 86], argTypes := #[4] }, type := 41, pos := "ir.go:400", after := #[{ on := 7, ground := Go.Ground.data }, { on := 3, ground := Go.Ground.chain }], guard := Option.none }) rfl (fun K hK => ?_) AllReadyH.nil
                go_simp
                go_wp2_with (first | (go_at_call 76; refine (kind_j p kd _ _ J _ (HJ.out _ (after HBk.out HDW.out HBk.out.size)) HD.out).mono ?_; rintro e v2 ⟨rfl, hv2⟩; have HDd := hid (after HDW.out hv2.out HDW.out.size); clear hv2) | (go_at_call 75; refine (mist_i _ _).mono ?_; rintro e w' ⟨rfl, rfl⟩))
                refine hK.out _ _ ?_ (fun hHeld6 => ?_)
                · (try dsimp only) <;> (first | exact KR.out _ HDW.out | exact KR.out _ HDd.out)
                clear hK K hHeld3
                try simp only [Act.put, List.setIfInBounds_toArray, List.set_cons_zero, List.set_cons_succ]
                refine wpAnyH_take (i := 9) (oi := { dst := Option.some 4, op := Go.Op.assign (Go.Operand.tmp 87), type := 41, pos := "ir.go:400", after := #[{ on := 8, ground := Go.Ground.data }, { on := 8, ground := Go.Ground.chain }, { on := 0, ground := Go.Ground.phase }, { on := 1, ground := Go.Ground.phase }, { on := 2, ground := Go.Ground.phase }, { on := 3, ground := Go.Ground.phase }, { on := 4, ground := Go.Ground.phase }, { on := 5, ground := Go.Ground.phase }, { on := 6, ground := Go.Ground.phase }, { on := 7, ground := Go.Ground.phase }, { on := 8, ground := Go.Ground.phase }], guard := Option.none }) (v := ?_) rfl (by kernel_rfl) (by kernel_rfl) (by kernel_rfl) (fun _ _ _ h => h) (Or.inl ⟨by rfl, ?_⟩) (by assumption) ?_
                rotate_left
                · intro w5x hSwx
                  try dsimp only at hSwx
                  go_simp
                  try with_reducible rfl
                try simp only [Act.put, List.setIfInBounds_toArray, List.set_cons_zero, List.set_cons_succ]
                refine wpAnyH_done (by kernel_rfl) ?_ _
            go_wp2
            go_ret
            exact ⟨by simp [HRR.out], hid (after HBk.out HDd.out HBk.out.size)⟩
theorem callj_g (p : JP) (J : Nat) (r : InD) (ao mo : Option Addr) (ac mc : Nat) (w : World) (hj : JG w J p) (hX : IntsM w ao r.xs) :
    Calls Try.prog 68 #[.pointer (some ⟨J, 0, none⟩), .agg (InV r ao ac mo mc)] w fun e w' => e = .returned (.int .i64 (callF p.cs p.x r)) ∧ Hid (Below w.heap.size w w') := by
  cases e0 : (inN p.x.vs.length r.d && (inN p.cs.length r.f && r.xs.all (inN p.x.vs.length)))
  · have : callF p.cs p.x r = 15 := by
      rw [callF]
      cases h1 : inN p.x.vs.length r.d
      · rfl
      cases h3 : r.xs.all (inN p.x.vs.length)
      · rfl
      rw [h1, h3] at e0
      have h2 : inN p.cs.length r.f = false := by simpa using e0
      by_cases h0 : 0 ≤ r.f
      · have : p.cs.length ≤ r.f.toNat := by simp [inN] at h2; omega
        simp [h0, List.getElem?_eq_none this]
      · simp [h0]
    rw [this]
    exact callj_out p J r ao mo ac mc w hj hX e0
  · obtain ⟨op, d, a, b, tt, el, f, n, l, c, sg, xs, ms⟩ := r
    simp only [Bool.and_eq_true] at e0
    obtain ⟨h1, h2, h3⟩ := e0
    obtain ⟨kf, rfl, hkf⟩ : ∃ k : Nat, f = k ∧ k < p.cs.length := ⟨f.toNat, by simp [inN] at h2; omega, by simp [inN] at h2; omega⟩
    obtain ⟨g, hg⟩ : ∃ g, p.cs[kf]? = some g := ⟨_, List.getElem?_eq_getElem hkf⟩
    obtain ⟨kd, pd, nd, rfl, hvd, htd⟩ := inN_get h1
    rw [show callF p.cs p.x ⟨op, kd, a, b, tt, el, kf, n, l, c, sg, xs, ms⟩ = calF g p.x ⟨op, kd, a, b, tt, el, kf, n, l, c, sg, xs, ms⟩ by simp [callF, h1, h3, hg]]
    exact callj_in p J op a b tt el n l c sg xs ms ao mo ac mc kd kf pd nd g w hj hX h1 hvd htd h3 hg

end Go.Proofs.Ytfhdiahjfnphkaa
