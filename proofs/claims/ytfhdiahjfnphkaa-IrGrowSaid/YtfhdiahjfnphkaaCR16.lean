/- What a new cell asks, where all is there. No conditions. -/
import Derived.Test.YtfhdiahjfnphkaaCR15
namespace Go.Proofs.Ytfhdiahjfnphkaa
open Go.RowKit Go.Maps
set_option linter.unusedVariables false
set_option linter.unusedSimpArgs false
theorem keep4 (p : JP) (J k bs os : Nat) (s : StD) (w W0 : World) (vs : Array Value) (t : TypeId) (hJ : ∀ W, Below w.heap.size w W → JG W J p) (h0 : Below w.heap.size w W0) (hx : W0.heap[w.heap.size]? = some (.cells vs t (0, 0))) (hs : p.sa = some ⟨bs, os, none⟩) (hn : W0.cell? ⟨bs, os + k * 4, none⟩ = some (.string s.nm)) (W : World) (hb : Below W0.heap.size W0 W) :
    Hid (Below w.heap.size w W) ∧ (∀ i, W.cell? ⟨w.heap.size, i, none⟩ = vs[i]?) ∧ (∀ i, W.cell? ⟨J, i, none⟩ = (#[.slice (some ⟨bs, os, none⟩) p.ss.length p.sc, .slice p.ca p.cs.length p.cc, .map (some p.B), .string p.x.nm, .int .i64 p.x.pr, .slice p.va p.x.vs.length p.vc, .bool p.x.rt.t.p, .string p.x.rt.t.name, .int .i64 p.x.rt.cls, .slice p.fa p.x.fr.length p.fc, .slice p.ia p.x.ins.length p.ic] : Array Value)[i]?) ∧ W.cell? ⟨bs, os + k * 4, none⟩ = some (.string s.nm) := by
  obtain ⟨h1, h2, h3⟩ := keep3 p J w W0 vs t hJ h0 hx W hb
  rw [hs] at h3
  exact ⟨h1, h2, h3, cell_keep hb (cell_lt hn) hn⟩
theorem from_drew {n : Nat} {w W : World} (h : Below n w W) : Below n w.drew W := ⟨h.os, h.tape, h.output, h.size, h.block⟩
set_option maxRecDepth 100000 in
set_option maxHeartbeats 8000000 in
theorem cell_in (p : JP) (J k k2 : Nat) (pp : Bool) (nm : ByteArray) (s : StD) (op a b tt el n l c : Int) (sg : ByteArray) (xs ms : List Int) (ao mo : Option Addr) (ac mc : Nat) (w : World) (hj : JG w J p) (e : inN p.x.vs.length k = true) (hv : KindIs p.x k pp nm) (hs : p.ss[k2]? = some s) :
    Calls Try.prog 65 #[.pointer (some ⟨J, 0, none⟩), .agg (InV ⟨op, k, a, b, tt, el, k2, n, l, c, sg, xs, ms⟩ ao ac mo mc)] w fun e w' => e = .returned (.int .i64 (if tyEq ⟨pp, nm⟩ ⟨true, s.nm⟩ then 0 else 7)) ∧ Hid (Below w.heap.size w w') := by
  have HJ := hid (fun W (hb : Below w.heap.size w W) => hj.later hb)
  have HV := hid hv
  obtain ⟨bs, os, hsa, hbs, fa, fc, hcs, hfs⟩ := hj.st.2 k2 s hs
  have hn0 : w.cell? ⟨bs, os + k2 * 4, none⟩ = some (.string s.nm) := hcs 0 _ rfl
  have HD0 := hid (below1 w (.cells (InV ⟨op, k, a, b, tt, el, k2, n, l, c, sg, xs, ms⟩ ao ac mo mc) 49)).drew
  have HX0 : Hid ((w.alloc (.cells (InV ⟨op, k, a, b, tt, el, k2, n, l, c, sg, xs, ms⟩ ao ac mo mc) 49)).drew.heap[w.heap.size]? = some (.cells (InV ⟨op, k, a, b, tt, el, k2, n, l, c, sg, xs, ms⟩ ao ac mo mc) 49 (0, 0))) := hid (heap_alloc_new w _)
  have HKp := hid (fun W (hb : Below (w.alloc (.cells (InV ⟨op, k, a, b, tt, el, k2, n, l, c, sg, xs, ms⟩ ao ac mo mc) 49)).drew.heap.size (w.alloc (.cells (InV ⟨op, k, a, b, tt, el, k2, n, l, c, sg, xs, ms⟩ ao ac mo mc) 49)).drew W) => keep4 p J k2 bs os s w _ _ 49 (fun W h => HJ.out W h) HD0.out HX0.out hsa (cell_keep HD0.out (cell_lt hn0) hn0) W hb)
  have HE1 : Hid (Below w.heap.size w ((w.alloc (.cells (InV ⟨op, k, a, b, tt, el, k2, n, l, c, sg, xs, ms⟩ ao ac mo mc) 49)).alloc (.cells #[.int .i64 k] 3)).drew.drew) := hid ((below2 w _ _).drew.drew)
  have HDe : Hid (Below (w.alloc (.cells (InV ⟨op, k, a, b, tt, el, k2, n, l, c, sg, xs, ms⟩ ao ac mo mc) 49)).drew.heap.size (w.alloc (.cells (InV ⟨op, k, a, b, tt, el, k2, n, l, c, sg, xs, ms⟩ ao ac mo mc) 49)).drew ((w.alloc (.cells (InV ⟨op, k, a, b, tt, el, k2, n, l, c, sg, xs, ms⟩ ao ac mo mc) 49)).alloc (.cells #[.int .i64 k] 3)).drew.drew) := hid (from_drew (below1 (w.alloc (.cells (InV ⟨op, k, a, b, tt, el, k2, n, l, c, sg, xs, ms⟩ ao ac mo mc) 49)) (.cells #[.int .i64 k] 3)).drew.drew)
  have hk1 : ∀ W, Below w.heap.size w W → Calls Try.prog 76 #[.pointer (some ⟨J, 0, none⟩), .int .i64 k] W fun e w' => e = .returned (.agg #[.bool pp, .string nm]) ∧ Hid (Below W.heap.size W w') := fun W hW => kind_j p k _ _ J W (HJ.out _ hW) HV.out
  have HK1 := hid hk1
  have hl : (p.ss.length : Int) ≤ 9223372036854775807 := by have := hj.st.1; omega
  have hlt : k2 < p.ss.length := (List.getElem?_eq_some_iff.1 hs).1
  have e1 : ¬ (k2 : Int) < 0 := by omega
  have e2 : ¬ (p.ss.length : Int) ≤ (k2 : Int) := by omega
  have e3 : (0 : Int) ≤ (k2 : Int) := by omega
  have e4 : (k2 : Int) < (p.ss.length : Int) := by omega
  obtain ⟨q, hq⟩ : ∃ q, (pp == true) = q := ⟨_, rfl⟩
  obtain ⟨q2, hq2⟩ : ∃ q, (nm.toList == s.nm.toList) = q := ⟨_, rfl⟩
  have hf : (if tyEq ⟨pp, nm⟩ ⟨true, s.nm⟩ then (0 : Int) else 7) = if q && q2 then 0 else 7 := by simp only [tyEq, sEq, hq, hq2]
  rw [hf]
  clear hf hj hv hs hsa hbs hcs hfs hn0 hk1 hlt
  cases pp
  all_goals cases q2
  all_goals subst hq
  all_goals
    go_enter Try.func65, Try.ntmps65
    go_wp2
    refine wp_region_held_drew (S := fun W => Hid (Below w.heap.size w W) ∧ (∀ i, W.cell? ⟨w.heap.size, i, none⟩ = (InV ⟨op, k, a, b, tt, el, k2, n, l, c, sg, xs, ms⟩ ao ac mo mc)[i]?) ∧ (∀ i, W.cell? ⟨J, i, none⟩ = (#[.slice (some ⟨bs, os, none⟩) p.ss.length p.sc, .slice p.ca p.cs.length p.cc, .map (some p.B), .string p.x.nm, .int .i64 p.x.pr, .slice p.va p.x.vs.length p.vc, .bool p.x.rt.t.p, .string p.x.rt.t.name, .int .i64 p.x.rt.cls, .slice p.fa p.x.fr.length p.fc, .slice p.ia p.x.ins.length p.ic] : Array Value)[i]?) ∧ W.cell? ⟨bs, os + k2 * 4, none⟩ = some (.string s.nm)) (by kernel_rfl) ?_ (fun hHeld0 => ?_)
    · (try dsimp only) <;> (first | exact HKp.out _ (Below.refl _ _) | exact HKp.out _ (below1 _ _))
    refine wpAnyH_take (i := 0) (oi := { dst := Option.some 5, op := Go.Op.move (Go.Operand.tmp 0), type := 67, pos := "ir.go:362", after := #[], guard := Option.none }) (v := ?_) rfl (by kernel_rfl) (by kernel_rfl) (by kernel_rfl) (fun _ _ _ h => h) (Or.inl ⟨by rfl, ?_⟩) (by assumption) ?_
    rotate_left
    · intro w5x hSwx
      try dsimp only at hSwx
      go_simp
      try with_reducible rfl
    try simp only [Act.put, List.setIfInBounds_toArray, List.set_cons_zero, List.set_cons_succ]
    refine wpAnyH_take (i := 1) (oi := { dst := Option.some 6, op := Go.Op.fieldAddr 49 (Go.Operand.tmp 3) 1, type := 0, pos := "ir.go:362", after := #[], guard := Option.none }) (v := ?_) rfl (by kernel_rfl) (by kernel_rfl) (by kernel_rfl) (fun _ _ _ h => h) (Or.inl ⟨by rfl, ?_⟩) (by assumption) ?_
    rotate_left
    · intro w5x hSwx
      try dsimp only at hSwx
      go_simp
      try with_reducible rfl
    try simp only [Act.put, List.setIfInBounds_toArray, List.set_cons_zero, List.set_cons_succ]
    refine wpAnyH_take (i := 2) (oi := { dst := Option.some 7, op := Go.Op.load 3 (Go.Operand.tmp 6), type := 3, pos := "ir.go:362", after := #[{ on := 1, ground := Go.Ground.data }], guard := Option.none }) (v := ?_) rfl (by kernel_rfl) (by kernel_rfl) (by kernel_rfl) (fun _ _ _ h => h) (Or.inl ⟨by rfl, ?_⟩) (by assumption) ?_
    rotate_left
    · intro w5x hSwx
      try dsimp only at hSwx
      go_simp
      try with_reducible rfl
    try simp only [Act.put, List.setIfInBounds_toArray, List.set_cons_zero, List.set_cons_succ]
    refine wpAnyH_ready (rs := [3]) (by kernel_rfl) (by simp) ?_
    refine AllReadyH.cons (o := { dst := Option.some 8, op := Go.Op.buildSlice 34 1 #[(0, Go.Operand.tmp 7)], type := 34, pos := "ir.go:362", after := #[{ on := 2, ground := Go.Ground.data }], guard := Option.none }) rfl (fun K hK => ?_) AllReadyH.nil
    go_simp
    refine hK.out _ _ ?_ (fun hHeld3 => ?_)
    · (try dsimp only) <;> (first | exact HKp.out _ (Below.refl _ _) | exact HKp.out _ (below1 _ _))
    clear hK K hHeld0
    try simp only [Act.put, List.setIfInBounds_toArray, List.set_cons_zero, List.set_cons_succ]
    refine wpAnyH_ready (rs := [4]) (by kernel_rfl) (by simp) ?_
    refine AllReadyH.cons (o := { dst := Option.some 9, op := Go.Op.call { callee := Go.Callee.value (Go.Operand.func 74), args := #[Go.Operand.tmp 5, Go.Operand.tmp 8], argTypes := #[67, 34] }, type := 4, pos := "ir.go:362", after := #[{ on := 0, ground := Go.Ground.data }, { on := 3, ground := Go.Ground.data }], guard := Option.none }) rfl (fun K hK => ?_) AllReadyH.nil
    go_simp
    go_wp2_with (first | (go_at_call 74; refine (there_1 p k _ _ _ _ (new_cellD _ _ _ _) (HJ.out _ (after HD0.out (below1 _ _) HD0.out.size)) e).mono ?_; rintro e w' ⟨rfl, rfl⟩))
    refine hK.out _ _ ?_ (fun hHeld6 => ?_)
    · (try dsimp only) <;> (first | exact HKp.out _ (Below.refl _ _) | exact HKp.out _ (below1 _ _))
    clear hK K hHeld3
    try simp only [Act.put, List.setIfInBounds_toArray, List.set_cons_zero, List.set_cons_succ]
    refine wpAnyH_take (i := 5) (oi := { dst := Option.some 10, op := Go.Op.unOp Go.UnOp.not 4 (Go.Operand.tmp 9), type := 4, pos := "ir.go:362", after := #[{ on := 4, ground := Go.Ground.data }], guard := Option.none }) (v := ?_) rfl (by kernel_rfl) (by kernel_rfl) (by kernel_rfl) (fun _ _ _ h => h) (Or.inl ⟨by rfl, ?_⟩) (by assumption) ?_
    rotate_left
    · intro w5x hSwx
      try dsimp only at hSwx
      go_simp
      try with_reducible rfl
    try simp only [Act.put, List.setIfInBounds_toArray, List.set_cons_zero, List.set_cons_succ]
    refine wpAnyH_take (i := 6) (oi := { dst := Option.some 11, op := Go.Op.move (Go.Operand.tmp 10), type := 4, pos := "ir.go:362", after := #[{ on := 5, ground := Go.Ground.data }, { on := 4, ground := Go.Ground.chain }], guard := Option.none }) (v := ?_) rfl (by kernel_rfl) (by kernel_rfl) (by kernel_rfl) (fun _ _ _ h => h) (Or.inl ⟨by rfl, ?_⟩) (by assumption) ?_
    rotate_left
    · intro w5x hSwx
      try dsimp only at hSwx
      go_simp
      try with_reducible rfl
    try simp only [Act.put, List.setIfInBounds_toArray, List.set_cons_zero, List.set_cons_succ]
    refine wpAnyH_take (i := 7) (oi := { dst := Option.some 12, op := Go.Op.fieldAddr 49 (Go.Operand.tmp 3) 4, type := 0, pos := "ir.go:362", after := #[{ on := 6, ground := Go.Ground.guard }], guard := Option.some (6, Bool.false) }) (v := ?_) rfl (by kernel_rfl) (by kernel_rfl) (by kernel_rfl) (fun _ _ _ h => h) (Or.inl ⟨by rfl, ?_⟩) (by assumption) ?_
    rotate_left
    · intro w5x hSwx
      try dsimp only at hSwx
      go_simp
      try with_reducible rfl
    try simp only [Act.put, List.setIfInBounds_toArray, List.set_cons_zero, List.set_cons_succ]
    refine wpAnyH_take (i := 8) (oi := { dst := Option.some 13, op := Go.Op.load 3 (Go.Operand.tmp 12), type := 3, pos := "ir.go:362", after := #[{ on := 7, ground := Go.Ground.data }, { on := 6, ground := Go.Ground.guard }], guard := Option.some (6, Bool.false) }) (v := ?_) rfl (by kernel_rfl) (by kernel_rfl) (by kernel_rfl) (fun _ _ _ h => h) (Or.inl ⟨by rfl, ?_⟩) (by assumption) ?_
    rotate_left
    · intro w5x hSwx
      try dsimp only at hSwx
      go_simp
      try with_reducible rfl
    try simp only [Act.put, List.setIfInBounds_toArray, List.set_cons_zero, List.set_cons_succ]
    refine wpAnyH_take (i := 9) (oi := { dst := Option.some 14, op := Go.Op.binOp Go.BinOp.lss 3 (Go.Operand.tmp 13) (Go.Operand.const (Go.Value.int Go.IntKind.i64 0)) 3, type := 4, pos := "ir.go:362", after := #[{ on := 8, ground := Go.Ground.data }, { on := 6, ground := Go.Ground.guard }], guard := Option.some (6, Bool.false) }) (v := ?_) rfl (by kernel_rfl) (by kernel_rfl) (by kernel_rfl) (fun _ _ _ h => h) (Or.inl ⟨by rfl, ?_⟩) (by assumption) ?_
    rotate_left
    · intro w5x hSwx
      try dsimp only at hSwx
      go_simp
      try with_reducible rfl
    try simp only [Act.put, List.setIfInBounds_toArray, List.set_cons_zero, List.set_cons_succ]
    refine wpAnyH_take (i := 10) (oi := { dst := Option.some 15, op := Go.Op.pick (Go.Operand.tmp 11) (Go.Operand.const (Go.Value.bool Bool.true)) (Go.Operand.tmp 14), type := 4, pos := "ir.go:362", after := #[{ on := 6, ground := Go.Ground.data }, { on := 9, ground := Go.Ground.data }], guard := Option.none }) (v := ?_) rfl (by kernel_rfl) (by kernel_rfl) (by kernel_rfl) (fun _ _ _ h => h) (Or.inl ⟨by rfl, ?_⟩) (by assumption) ?_
    rotate_left
    · intro w5x hSwx
      try dsimp only at hSwx
      go_simp
      try with_reducible rfl
    try simp only [Act.put, List.setIfInBounds_toArray, List.set_cons_zero, List.set_cons_succ]
    refine wpAnyH_take (i := 11) (oi := { dst := Option.some 16, op := Go.Op.move (Go.Operand.tmp 15), type := 4, pos := "ir.go:362", after := #[{ on := 10, ground := Go.Ground.data }, { on := 6, ground := Go.Ground.chain }], guard := Option.none }) (v := ?_) rfl (by kernel_rfl) (by kernel_rfl) (by kernel_rfl) (fun _ _ _ h => h) (Or.inl ⟨by rfl, ?_⟩) (by assumption) ?_
    rotate_left
    · intro w5x hSwx
      try dsimp only at hSwx
      go_simp
      try with_reducible rfl
    try simp only [Act.put, List.setIfInBounds_toArray, List.set_cons_zero, List.set_cons_succ]
    refine wpAnyH_take (i := 12) (oi := { dst := Option.some 17, op := Go.Op.fieldAddr 49 (Go.Operand.tmp 3) 4, type := 0, pos := "ir.go:362", after := #[{ on := 11, ground := Go.Ground.guard }], guard := Option.some (11, Bool.false) }) (v := ?_) rfl (by kernel_rfl) (by kernel_rfl) (by kernel_rfl) (fun _ _ _ h => h) (Or.inl ⟨by rfl, ?_⟩) (by assumption) ?_
    rotate_left
    · intro w5x hSwx
      try dsimp only at hSwx
      go_simp
      try with_reducible rfl
    try simp only [Act.put, List.setIfInBounds_toArray, List.set_cons_zero, List.set_cons_succ]
    refine wpAnyH_take (i := 13) (oi := { dst := Option.some 18, op := Go.Op.load 3 (Go.Operand.tmp 17), type := 3, pos := "ir.go:362", after := #[{ on := 12, ground := Go.Ground.data }, { on := 11, ground := Go.Ground.guard }], guard := Option.some (11, Bool.false) }) (v := ?_) rfl (by kernel_rfl) (by kernel_rfl) (by kernel_rfl) (fun _ _ _ h => h) (Or.inl ⟨by rfl, ?_⟩) (by assumption) ?_
    rotate_left
    · intro w5x hSwx
      try dsimp only at hSwx
      go_simp
      try with_reducible rfl
    try simp only [Act.put, List.setIfInBounds_toArray, List.set_cons_zero, List.set_cons_succ]
    refine wpAnyH_take (i := 14) (oi := { dst := Option.some 19, op := Go.Op.move (Go.Operand.tmp 0), type := 67, pos := "ir.go:362", after := #[{ on := 11, ground := Go.Ground.guard }], guard := Option.some (11, Bool.false) }) (v := ?_) rfl (by kernel_rfl) (by kernel_rfl) (by kernel_rfl) (fun _ _ _ h => h) (Or.inl ⟨by rfl, ?_⟩) (by assumption) ?_
    rotate_left
    · intro w5x hSwx
      try dsimp only at hSwx
      go_simp
      try with_reducible rfl
    try simp only [Act.put, List.setIfInBounds_toArray, List.set_cons_zero, List.set_cons_succ]
    refine wpAnyH_take (i := 15) (oi := { dst := Option.some 20, op := Go.Op.nilCheck (Go.Operand.tmp 19), type := 0, pos := "ir.go:362", after := #[{ on := 14, ground := Go.Ground.data }, { on := 11, ground := Go.Ground.guard }], guard := Option.some (11, Bool.false) }) (v := ?_) rfl (by kernel_rfl) (by kernel_rfl) (by kernel_rfl) (fun _ _ _ h => h) (Or.inl ⟨by rfl, ?_⟩) (by assumption) ?_
    rotate_left
    · intro w5x hSwx
      try dsimp only at hSwx
      go_simp
      try with_reducible rfl
    try simp only [Act.put, List.setIfInBounds_toArray, List.set_cons_zero, List.set_cons_succ]
    refine wpAnyH_take (i := 16) (oi := { dst := Option.some 21, op := Go.Op.fieldAddr 70 (Go.Operand.tmp 20) 0, type := 0, pos := "ir.go:362", after := #[{ on := 15, ground := Go.Ground.data }, { on := 11, ground := Go.Ground.guard }], guard := Option.some (11, Bool.false) }) (v := ?_) rfl (by kernel_rfl) (by kernel_rfl) (by kernel_rfl) (fun _ _ _ h => h) (Or.inl ⟨by rfl, ?_⟩) (by assumption) ?_
    rotate_left
    · intro w5x hSwx
      try dsimp only at hSwx
      go_simp
      try with_reducible rfl
    try simp only [Act.put, List.setIfInBounds_toArray, List.set_cons_zero, List.set_cons_succ]
    refine wpAnyH_take (i := 17) (oi := { dst := Option.some 22, op := Go.Op.fieldAddr 25 (Go.Operand.tmp 21) 0, type := 0, pos := "ir.go:362", after := #[{ on := 16, ground := Go.Ground.data }, { on := 11, ground := Go.Ground.guard }], guard := Option.some (11, Bool.false) }) (v := ?_) rfl (by kernel_rfl) (by kernel_rfl) (by kernel_rfl) (fun _ _ _ h => h) (Or.inl ⟨by rfl, ?_⟩) (by assumption) ?_
    rotate_left
    · intro w5x hSwx
      try dsimp only at hSwx
      go_simp
      try with_reducible rfl
    try simp only [Act.put, List.setIfInBounds_toArray, List.set_cons_zero, List.set_cons_succ]
    refine wpAnyH_take (i := 18) (oi := { dst := Option.some 23, op := Go.Op.load 22 (Go.Operand.tmp 22), type := 22, pos := "ir.go:362", after := #[{ on := 17, ground := Go.Ground.data }, { on := 11, ground := Go.Ground.guard }], guard := Option.some (11, Bool.false) }) (v := ?_) rfl (by kernel_rfl) (by kernel_rfl) (by kernel_rfl) (fun _ _ _ h => h) (Or.inl ⟨by rfl, ?_⟩) (by assumption) ?_
    rotate_left
    · intro w5x hSwx
      try dsimp only at hSwx
      go_simp
      try with_reducible rfl
    try simp only [Act.put, List.setIfInBounds_toArray, List.set_cons_zero, List.set_cons_succ]
    refine wpAnyH_ready (rs := [19]) (by kernel_rfl) (by simp) ?_
    refine AllReadyH.cons (o := { dst := Option.some 24, op := Go.Op.call { callee := Go.Callee.builtin Go.Builtin.len, args := #[Go.Operand.tmp 23], argTypes := #[22] }, type := 3, pos := "ir.go:362", after := #[{ on := 18, ground := Go.Ground.data }, { on := 11, ground := Go.Ground.guard }], guard := Option.some (11, Bool.false) }) rfl (fun K hK => ?_) AllReadyH.nil
    go_simp
    refine hK.out _ _ ?_ (fun hHeld9 => ?_)
    · (try dsimp only) <;> (first | exact HKp.out _ (Below.refl _ _) | exact HKp.out _ (below1 _ _))
    clear hK K hHeld6
    try simp only [Act.put, List.setIfInBounds_toArray, List.set_cons_zero, List.set_cons_succ]
    refine wpAnyH_take (i := 20) (oi := { dst := Option.some 25, op := Go.Op.binOp Go.BinOp.geq 3 (Go.Operand.tmp 18) (Go.Operand.tmp 24) 3, type := 4, pos := "ir.go:362", after := #[{ on := 13, ground := Go.Ground.data }, { on := 19, ground := Go.Ground.data }, { on := 11, ground := Go.Ground.guard }], guard := Option.some (11, Bool.false) }) (v := ?_) rfl (by kernel_rfl) (by kernel_rfl) (by kernel_rfl) (fun _ _ _ h => h) (Or.inl ⟨by rfl, ?_⟩) (by assumption) ?_
    rotate_left
    · intro w5x hSwx
      try dsimp only at hSwx
      go_simp
      try with_reducible rfl
    try simp only [Act.put, List.setIfInBounds_toArray, List.set_cons_zero, List.set_cons_succ]
    refine wpAnyH_take (i := 21) (oi := { dst := Option.some 26, op := Go.Op.pick (Go.Operand.tmp 16) (Go.Operand.const (Go.Value.bool Bool.true)) (Go.Operand.tmp 25), type := 4, pos := "ir.go:362", after := #[{ on := 11, ground := Go.Ground.data }, { on := 20, ground := Go.Ground.data }], guard := Option.none }) (v := ?_) rfl (by kernel_rfl) (by kernel_rfl) (by kernel_rfl) (fun _ _ _ h => h) (Or.inl ⟨by rfl, ?_⟩) (by assumption) ?_
    rotate_left
    · intro w5x hSwx
      try dsimp only at hSwx
      go_simp
      try with_reducible rfl
    try simp only [Act.put, List.setIfInBounds_toArray, List.set_cons_zero, List.set_cons_succ]
    refine wpAnyH_done (by kernel_rfl) ?_ _
    go_wp2
    refine wp_region_held_drew (S := fun W => Hid (Below w.heap.size w W) ∧ (∀ i, W.cell? ⟨w.heap.size, i, none⟩ = (InV ⟨op, k, a, b, tt, el, k2, n, l, c, sg, xs, ms⟩ ao ac mo mc)[i]?) ∧ (∀ i, W.cell? ⟨J, i, none⟩ = (#[.slice (some ⟨bs, os, none⟩) p.ss.length p.sc, .slice p.ca p.cs.length p.cc, .map (some p.B), .string p.x.nm, .int .i64 p.x.pr, .slice p.va p.x.vs.length p.vc, .bool p.x.rt.t.p, .string p.x.rt.t.name, .int .i64 p.x.rt.cls, .slice p.fa p.x.fr.length p.fc, .slice p.ia p.x.ins.length p.ic] : Array Value)[i]?) ∧ W.cell? ⟨bs, os + k2 * 4, none⟩ = some (.string s.nm)) (by kernel_rfl) ?_ (fun hHeld0 => ?_)
    · (try dsimp only) <;> (first | exact HKp.out _ (below1 _ _).drew | exact HKp.out _ HDd.out)
    refine wpAnyH_take (i := 0) (oi := { dst := Option.some 27, op := Go.Op.move (Go.Operand.tmp 0), type := 67, pos := "ir.go:365", after := #[], guard := Option.none }) (v := ?_) rfl (by kernel_rfl) (by kernel_rfl) (by kernel_rfl) (fun _ _ _ h => h) (Or.inl ⟨by rfl, ?_⟩) (by assumption) ?_
    rotate_left
    · intro w5x hSwx
      try dsimp only at hSwx
      go_simp
      try with_reducible rfl
    try simp only [Act.put, List.setIfInBounds_toArray, List.set_cons_zero, List.set_cons_succ]
    refine wpAnyH_take (i := 1) (oi := { dst := Option.some 28, op := Go.Op.fieldAddr 49 (Go.Operand.tmp 3) 1, type := 0, pos := "ir.go:365", after := #[], guard := Option.none }) (v := ?_) rfl (by kernel_rfl) (by kernel_rfl) (by kernel_rfl) (fun _ _ _ h => h) (Or.inl ⟨by rfl, ?_⟩) (by assumption) ?_
    rotate_left
    · intro w5x hSwx
      try dsimp only at hSwx
      go_simp
      try with_reducible rfl
    try simp only [Act.put, List.setIfInBounds_toArray, List.set_cons_zero, List.set_cons_succ]
    refine wpAnyH_take (i := 2) (oi := { dst := Option.some 29, op := Go.Op.load 3 (Go.Operand.tmp 28), type := 3, pos := "ir.go:365", after := #[{ on := 1, ground := Go.Ground.data }], guard := Option.none }) (v := ?_) rfl (by kernel_rfl) (by kernel_rfl) (by kernel_rfl) (fun _ _ _ h => h) (Or.inl ⟨by rfl, ?_⟩) (by assumption) ?_
    rotate_left
    · intro w5x hSwx
      try dsimp only at hSwx
      go_simp
      try with_reducible rfl
    try simp only [Act.put, List.setIfInBounds_toArray, List.set_cons_zero, List.set_cons_succ]
    refine wpAnyH_take (i := 4) (oi := { dst := Option.some 31, op := Go.Op.move (Go.Operand.tmp 0), type := 67, pos := "ir.go:365", after := #[], guard := Option.none }) (v := ?_) rfl (by kernel_rfl) (by kernel_rfl) (by kernel_rfl) (fun _ _ _ h => h) (Or.inl ⟨by rfl, ?_⟩) (by assumption) ?_
    rotate_left
    · intro w5x hSwx
      try dsimp only at hSwx
      go_simp
      try with_reducible rfl
    try simp only [Act.put, List.setIfInBounds_toArray, List.set_cons_zero, List.set_cons_succ]
    refine wpAnyH_take (i := 5) (oi := { dst := Option.some 32, op := Go.Op.nilCheck (Go.Operand.tmp 31), type := 0, pos := "ir.go:365", after := #[{ on := 4, ground := Go.Ground.data }], guard := Option.none }) (v := ?_) rfl (by kernel_rfl) (by kernel_rfl) (by kernel_rfl) (fun _ _ _ h => h) (Or.inl ⟨by rfl, ?_⟩) (by assumption) ?_
    rotate_left
    · intro w5x hSwx
      try dsimp only at hSwx
      go_simp
      try with_reducible rfl
    try simp only [Act.put, List.setIfInBounds_toArray, List.set_cons_zero, List.set_cons_succ]
    refine wpAnyH_take (i := 6) (oi := { dst := Option.some 33, op := Go.Op.fieldAddr 70 (Go.Operand.tmp 32) 0, type := 0, pos := "ir.go:365", after := #[{ on := 5, ground := Go.Ground.data }], guard := Option.none }) (v := ?_) rfl (by kernel_rfl) (by kernel_rfl) (by kernel_rfl) (fun _ _ _ h => h) (Or.inl ⟨by rfl, ?_⟩) (by assumption) ?_
    rotate_left
    · intro w5x hSwx
      try dsimp only at hSwx
      go_simp
      try with_reducible rfl
    try simp only [Act.put, List.setIfInBounds_toArray, List.set_cons_zero, List.set_cons_succ]
    refine wpAnyH_take (i := 7) (oi := { dst := Option.some 34, op := Go.Op.fieldAddr 25 (Go.Operand.tmp 33) 0, type := 0, pos := "ir.go:365", after := #[{ on := 6, ground := Go.Ground.data }], guard := Option.none }) (v := ?_) rfl (by kernel_rfl) (by kernel_rfl) (by kernel_rfl) (fun _ _ _ h => h) (Or.inl ⟨by rfl, ?_⟩) (by assumption) ?_
    rotate_left
    · intro w5x hSwx
      try dsimp only at hSwx
      go_simp
      try with_reducible rfl
    try simp only [Act.put, List.setIfInBounds_toArray, List.set_cons_zero, List.set_cons_succ]
    refine wpAnyH_take (i := 8) (oi := { dst := Option.some 35, op := Go.Op.load 22 (Go.Operand.tmp 34), type := 22, pos := "ir.go:365", after := #[{ on := 7, ground := Go.Ground.data }], guard := Option.none }) (v := ?_) rfl (by kernel_rfl) (by kernel_rfl) (by kernel_rfl) (fun _ _ _ h => h) (Or.inl ⟨by rfl, ?_⟩) (by assumption) ?_
    rotate_left
    · intro w5x hSwx
      try dsimp only at hSwx
      go_simp
      try with_reducible rfl
    try simp only [Act.put, List.setIfInBounds_toArray, List.set_cons_zero, List.set_cons_succ]
    refine wpAnyH_take (i := 9) (oi := { dst := Option.some 36, op := Go.Op.fieldAddr 49 (Go.Operand.tmp 3) 4, type := 0, pos := "ir.go:365", after := #[], guard := Option.none }) (v := ?_) rfl (by kernel_rfl) (by kernel_rfl) (by kernel_rfl) (fun _ _ _ h => h) (Or.inl ⟨by rfl, ?_⟩) (by assumption) ?_
    rotate_left
    · intro w5x hSwx
      try dsimp only at hSwx
      go_simp
      try with_reducible rfl
    try simp only [Act.put, List.setIfInBounds_toArray, List.set_cons_zero, List.set_cons_succ]
    refine wpAnyH_take (i := 10) (oi := { dst := Option.some 37, op := Go.Op.load 3 (Go.Operand.tmp 36), type := 3, pos := "ir.go:365", after := #[{ on := 9, ground := Go.Ground.data }], guard := Option.none }) (v := ?_) rfl (by kernel_rfl) (by kernel_rfl) (by kernel_rfl) (fun _ _ _ h => h) (Or.inl ⟨by rfl, ?_⟩) (by assumption) ?_
    rotate_left
    · intro w5x hSwx
      try dsimp only at hSwx
      go_simp
      try with_reducible rfl
    try simp only [Act.put, List.setIfInBounds_toArray, List.set_cons_zero, List.set_cons_succ]
    refine wpAnyH_take (i := 11) (oi := { dst := Option.some 38, op := Go.Op.indexAddr 22 (Go.Operand.tmp 35) (Go.Operand.tmp 37), type := 0, pos := "ir.go:365", after := #[{ on := 8, ground := Go.Ground.data }, { on := 10, ground := Go.Ground.data }], guard := Option.none }) (v := ?_) rfl (by kernel_rfl) (by kernel_rfl) (by kernel_rfl) (fun _ _ _ h => h) (Or.inl ⟨by rfl, ?_⟩) (by assumption) ?_
    rotate_left
    · intro w5x hSwx
      try dsimp only at hSwx
      go_simp
      try with_reducible rfl
    try simp only [Act.put, List.setIfInBounds_toArray, List.set_cons_zero, List.set_cons_succ]
    refine wpAnyH_take (i := 12) (oi := { dst := Option.some 39, op := Go.Op.fieldAddr 47 (Go.Operand.tmp 38) 0, type := 0, pos := "ir.go:365", after := #[{ on := 11, ground := Go.Ground.data }], guard := Option.none }) (v := ?_) rfl (by kernel_rfl) (by kernel_rfl) (by kernel_rfl) (fun _ _ _ h => h) (Or.inl ⟨by rfl, ?_⟩) (by assumption) ?_
    rotate_left
    · intro w5x hSwx
      try dsimp only at hSwx
      go_simp
      try with_reducible rfl
    try simp only [Act.put, List.setIfInBounds_toArray, List.set_cons_zero, List.set_cons_succ]
    refine wpAnyH_take (i := 13) (oi := { dst := Option.some 40, op := Go.Op.load 9 (Go.Operand.tmp 39), type := 9, pos := "ir.go:365", after := #[{ on := 12, ground := Go.Ground.data }], guard := Option.none }) (v := ?_) rfl (by kernel_rfl) (by kernel_rfl) (by kernel_rfl) (fun _ _ _ h => h) (Or.inl ⟨by rfl, ?_⟩) (by assumption) ?_
    rotate_left
    · intro w5x hSwx
      try dsimp only at hSwx
      go_simp
      try with_reducible rfl
    try simp only [Act.put, List.setIfInBounds_toArray, List.set_cons_zero, List.set_cons_succ]
    refine wpAnyH_take (i := 14) (oi := { dst := Option.some 41, op := Go.Op.build 31 #[(0, Go.Operand.const (Go.Value.bool Bool.true)), (1, Go.Operand.tmp 40)], type := 31, pos := "ir.go:365", after := #[{ on := 13, ground := Go.Ground.data }], guard := Option.none }) (v := ?_) rfl (by kernel_rfl) (by kernel_rfl) (by kernel_rfl) (fun _ _ _ h => h) (Or.inl ⟨by rfl, ?_⟩) (by assumption) ?_
    rotate_left
    · intro w5x hSwx
      try dsimp only at hSwx
      go_simp
      try with_reducible rfl
    try simp only [Act.put, List.setIfInBounds_toArray, List.set_cons_zero, List.set_cons_succ]
    refine wpAnyH_ready (rs := [3]) (by kernel_rfl) (by simp) ?_
    refine AllReadyH.cons (o := { dst := Option.some 30, op := Go.Op.call { callee := Go.Callee.value (Go.Operand.func 76), args := #[Go.Operand.tmp 27, Go.Operand.tmp 29], argTypes := #[67, 3] }, type := 31, pos := "ir.go:365", after := #[{ on := 0, ground := Go.Ground.data }, { on := 2, ground := Go.Ground.data }], guard := Option.none }) rfl (fun K hK => ?_) AllReadyH.nil
    go_simp
    go_wp2_with (first | (go_at_call 76; with_reducible (refine (HK1.out _ HE1.out).mono ?_); rintro e v ⟨rfl, hv⟩; have HDd := hid (after HDe.out hv.out HDe.out.size); clear hv) | (go_at_call 75; refine (mist_i _ _).mono ?_; rintro e w' ⟨rfl, rfl⟩))
    refine hK.out _ _ ?_ (fun hHeld3 => ?_)
    · (try dsimp only) <;> (first | exact HKp.out _ (below1 _ _).drew | exact HKp.out _ HDd.out)
    clear hK K hHeld0
    try simp only [Act.put, List.setIfInBounds_toArray, List.set_cons_zero, List.set_cons_succ]
    refine wpAnyH_take (i := 15) (oi := { dst := Option.some 42, op := Go.Op.binOp Go.BinOp.neq 31 (Go.Operand.tmp 30) (Go.Operand.tmp 41) 31, type := 4, pos := "ir.go:365", after := #[{ on := 3, ground := Go.Ground.data }, { on := 14, ground := Go.Ground.data }], guard := Option.none }) (v := ?_) rfl (by kernel_rfl) (by kernel_rfl) (by kernel_rfl) (fun _ _ _ h => h) (Or.inl ⟨by rfl, ?_⟩) (by assumption) ?_
    rotate_left
    · intro w5x hSwx
      try dsimp only at hSwx
      go_simp
      try with_reducible rfl
    try simp only [Act.put, List.setIfInBounds_toArray, List.set_cons_zero, List.set_cons_succ]
    refine wpAnyH_ready (rs := [16]) (by kernel_rfl) (by simp) ?_
    refine AllReadyH.cons (o := { dst := Option.some 43, op := Go.Op.call { callee := Go.Callee.value (Go.Operand.func 75), args := #[Go.Operand.tmp 42], argTypes := #[4] }, type := 41, pos := "ir.go:365", after := #[{ on := 15, ground := Go.Ground.data }, { on := 3, ground := Go.Ground.chain }], guard := Option.none }) rfl (fun K hK => ?_) AllReadyH.nil
    go_simp
    go_wp2_with (first | (go_at_call 76; with_reducible (refine (HK1.out _ HE1.out).mono ?_); rintro e v ⟨rfl, hv⟩; have HDd := hid (after HDe.out hv.out HDe.out.size); clear hv) | (go_at_call 75; refine (mist_i _ _).mono ?_; rintro e w' ⟨rfl, rfl⟩))
    refine hK.out _ _ ?_ (fun hHeld6 => ?_)
    · (try dsimp only) <;> (first | exact HKp.out _ (below1 _ _).drew | exact HKp.out _ HDd.out)
    clear hK K hHeld3
    try simp only [Act.put, List.setIfInBounds_toArray, List.set_cons_zero, List.set_cons_succ]
    refine wpAnyH_take (i := 17) (oi := { dst := Option.some 4, op := Go.Op.assign (Go.Operand.tmp 43), type := 41, pos := "ir.go:365", after := #[{ on := 16, ground := Go.Ground.data }, { on := 16, ground := Go.Ground.chain }, { on := 0, ground := Go.Ground.phase }, { on := 1, ground := Go.Ground.phase }, { on := 2, ground := Go.Ground.phase }, { on := 3, ground := Go.Ground.phase }, { on := 4, ground := Go.Ground.phase }, { on := 5, ground := Go.Ground.phase }, { on := 6, ground := Go.Ground.phase }, { on := 7, ground := Go.Ground.phase }, { on := 8, ground := Go.Ground.phase }, { on := 9, ground := Go.Ground.phase }, { on := 10, ground := Go.Ground.phase }, { on := 11, ground := Go.Ground.phase }, { on := 12, ground := Go.Ground.phase }, { on := 13, ground := Go.Ground.phase }, { on := 14, ground := Go.Ground.phase }, { on := 15, ground := Go.Ground.phase }, { on := 16, ground := Go.Ground.phase }], guard := Option.none }) (v := ?_) rfl (by kernel_rfl) (by kernel_rfl) (by kernel_rfl) (fun _ _ _ h => h) (Or.inl ⟨by rfl, ?_⟩) (by assumption) ?_
    rotate_left
    · intro w5x hSwx
      try dsimp only at hSwx
      go_simp
      try with_reducible rfl
    try simp only [Act.put, List.setIfInBounds_toArray, List.set_cons_zero, List.set_cons_succ]
    refine wpAnyH_done (by kernel_rfl) ?_ _
    all_goals go_wp2
    all_goals go_ret
    all_goals exact ⟨rfl, hid (after HD0.out HDd.out HD0.out.size)⟩
theorem cell_g (p : JP) (J : Nat) (r : InD) (ao mo : Option Addr) (ac mc : Nat) (w : World) (hj : JG w J p) :
    Calls Try.prog 65 #[.pointer (some ⟨J, 0, none⟩), .agg (InV r ao ac mo mc)] w fun e w' => e = .returned (.int .i64 (cellF p.ss p.x r)) ∧ Hid (Below w.heap.size w w') := by
  cases e0 : (inN p.x.vs.length r.d && inN p.ss.length r.f)
  · rw [cellF, e0]
    exact cell_out p J r ao mo ac mc w hj e0
  · obtain ⟨op, d, a, b, tt, el, f, n, l, c, sg, xs, ms⟩ := r
    rw [cellF, if_pos e0]
    rw [Bool.and_eq_true] at e0
    obtain ⟨e1, e2⟩ := e0
    obtain ⟨k, pp, nm, hd, hv, ht⟩ := inN_get e1
    simp only at hd
    subst hd
    have h2 := e2
    simp only [inN, Bool.and_eq_true, decide_eq_true_eq] at h2
    obtain ⟨s, hs⟩ := get_some (l := p.ss) (i := f.toNat) rfl (by omega)
    obtain ⟨k2, rfl⟩ : ∃ k2 : Nat, f = k2 := ⟨f.toNat, by omega⟩
    rw [Int.toNat_natCast] at hs
    have hN : nameAt p.ss k2 = s.nm := by simp [nameAt, hs]
    rw [ht, hN]
    exact cell_in p J k k2 pp nm s op a b tt el n l c sg xs ms ao mo ac mc w hj e1 hv hs
end Go.Proofs.Ytfhdiahjfnphkaa
