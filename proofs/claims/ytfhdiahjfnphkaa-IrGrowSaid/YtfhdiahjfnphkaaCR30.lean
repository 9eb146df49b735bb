/- An instruction, by the reference: what it reads is not there. Condition: at most 40 arguments. -/
import Derived.Test.YtfhdiahjfnphkaaCR29
import Derived.Test.YtfhdiahjfnphkaaCR21
namespace Go.Proofs.Ytfhdiahjfnphkaa
open Go.RowKit Go.Maps
set_option linter.unusedVariables false
set_option linter.unusedSimpArgs false
set_option maxRecDepth 100000 in
set_option maxHeartbeats 8000000 in
theorem rinstr_rd_w (mv : Array Value) (hmv : mv.size = 2) (x : CoD) (va fa ia : Option Addr) (vc fc ic : Nat) (r : InD) (ao mo : Option Addr) (ac mc : Nat) (w : World) (h1 : ¬ r.op < 1) (h2 : ¬ 18 < r.op) (hX : IntsM w ao r.xs) (hl : r.xs.length ≤ 40) (hw : wrB r.op = true) (hd : inN x.vs.length r.d = true) (hr : (rdsF r).all (inN x.vs.length) = false) :
    Calls Try.prog 39 #[.agg mv, .agg (CoV x va vc fa fc ia ic), .agg (InV r ao ac mo mc)] w fun e w' => e = .returned (.int .i64 15) ∧ Hid (Below w.heap.size w w') := by
  obtain ⟨op, d, a, b, tt, el, f, n, l, c, sg, xs, ms⟩ := r
  simp only at h1 h2
  have HD := hid hd
  clear hd
  have HW := hid hw
  have HR := hid hr
  have HL := hid hl
  have HB := hid (below3a w)
  have HXS := hid (fun W (hb : Below w.heap.size w W) => hX.later int_stays hb)
  have HX := hid (fun o p => box3c w (InV ⟨op, d, a, b, tt, el, f, n, l, c, sg, xs, ms⟩ ao ac mo mc) 49 o p)
  have HY := hid (fun o p => box3d w (CoV x va vc fa fc ia ic) 37 o p)
  have HZ := hid (fun p q => lay (below2 (w.alloc (.cells mv 25)) p q) (heap_alloc_new w (.cells mv 25)))
  clear hw hr hl hX
  go_enter Try.func39, Try.ntmps39
  go_wp2_with (go_at_call 52; refine (writes_g ⟨op, d, a, b, tt, el, f, n, l, c, sg, xs, ms⟩ true ao mo ac mc _ HW.out).mono ?_; rintro e w1 ⟨rfl, hb1⟩; have HB1 := hid (after (HB.out _ _ _) hb1.out (HB.out _ _ _).size); have HX1 := hid (lay hb1.out (HX.out _ _)); have HY1 := hid (lay hb1.out (HY.out _ _)); have HZ1 := hid (lay hb1.out (HZ.out _ _)); have hx1 := cells_at HX1.out)
  have HT0 := hid (below_drew1 w1)
  have HKp := hid (fun W (hb : Below w1.heap.size w1 W) => And.intro (hid (after HB1.out hb HB1.out.size)) (And.intro (cells_at (lay hb HY1.out)) (And.intro (cells_at (lay hb HX1.out)) (cells_at (lay hb HZ1.out)))))
  have G1 : True := trivial
  clear HB HX HY HZ
  refine wp_region_held_drew (S := fun W => Hid (Below w.heap.size w W) ∧ (∀ i, W.cell? ⟨w.heap.size + 1, i, none⟩ = (CoV x va vc fa fc ia ic)[i]?) ∧ (∀ i, W.cell? ⟨w.heap.size + 1 + 1, i, none⟩ = (InV ⟨op, d, a, b, tt, el, f, n, l, c, sg, xs, ms⟩ ao ac mo mc)[i]?) ∧ (∀ i, W.cell? ⟨w.heap.size, i, none⟩ = (mv)[i]?)) (by kernel_rfl) ?_ (fun hHeld0 => ?_)
  · (try dsimp only) <;> (first | exact HKp.out _ HT3.out | exact HKp.out _ HT2.out | exact HKp.out _ HT1.out | exact HKp.out _ HT0.out | exact HKp.out _ (after HT0.out (below1 _ _) HT0.out.size))
  refine wpAnyH_take (i := 0) (oi := { dst := Option.some 23, op := Go.Op.move (Go.Operand.tmp 8), type := 4, pos := "ref.go:180", after := #[], guard := Option.none }) (v := ?_) rfl (by kernel_rfl) (by kernel_rfl) (by kernel_rfl) (fun _ _ _ h => h) (Or.inl ⟨by rfl, ?_⟩) (by assumption) ?_
  rotate_left
  · intro w5x hSwx
    try dsimp only at hSwx
    go_simp
    try with_reducible rfl
  try simp only [Act.put, List.setIfInBounds_toArray, List.set_cons_zero, List.set_cons_succ]
  refine wpAnyH_take (i := 1) (oi := { dst := Option.some 24, op := Go.Op.move (Go.Operand.tmp 23), type := 4, pos := "ref.go:180", after := #[{ on := 0, ground := Go.Ground.data }], guard := Option.none }) (v := ?_) rfl (by kernel_rfl) (by kernel_rfl) (by kernel_rfl) (fun _ _ _ h => h) (Or.inl ⟨by rfl, ?_⟩) (by assumption) ?_
  rotate_left
  · intro w5x hSwx
    try dsimp only at hSwx
    go_simp
    try with_reducible rfl
  try simp only [Act.put, List.setIfInBounds_toArray, List.set_cons_zero, List.set_cons_succ]
  refine wpAnyH_take (i := 2) (oi := { dst := Option.some 25, op := Go.Op.load 37 (Go.Operand.tmp 4), type := 37, pos := "ref.go:180", after := #[{ on := 1, ground := Go.Ground.guard }], guard := Option.some (1, Bool.true) }) (v := ?_) rfl (by kernel_rfl) (by kernel_rfl) (by kernel_rfl) (fun _ _ _ h => h) (Or.inl ⟨by rfl, ?_⟩) (by assumption) ?_
  rotate_left
  · intro w5x hSwx
    try dsimp only at hSwx
    go_simp
    try with_reducible rfl
  try simp only [Act.put, List.setIfInBounds_toArray, List.set_cons_zero, List.set_cons_succ]
  refine wpAnyH_take (i := 3) (oi := { dst := Option.some 26, op := Go.Op.move (Go.Operand.tmp 7), type := 3, pos := "ref.go:180", after := #[{ on := 1, ground := Go.Ground.guard }], guard := Option.some (1, Bool.true) }) (v := ?_) rfl (by kernel_rfl) (by kernel_rfl) (by kernel_rfl) (fun _ _ _ h => h) (Or.inl ⟨by rfl, ?_⟩) (by assumption) ?_
  rotate_left
  · intro w5x hSwx
    try dsimp only at hSwx
    go_simp
    try with_reducible rfl
  try simp only [Act.put, List.setIfInBounds_toArray, List.set_cons_zero, List.set_cons_succ]
  refine wpAnyH_ready (rs := [4]) (by kernel_rfl) (by simp) ?_
  refine AllReadyH.cons (o := { dst := Option.some 27, op := Go.Op.buildSlice 34 1 #[(0, Go.Operand.tmp 26)], type := 34, pos := "ref.go:180", after := #[{ on := 3, ground := Go.Ground.data }, { on := 1, ground := Go.Ground.guard }], guard := Option.some (1, Bool.true) }) rfl (fun K hK => ?_) AllReadyH.nil
  go_simp
  refine hK.out _ _ ?_ (fun hHeld3 => ?_)
  · (try dsimp only) <;> (first | exact HKp.out _ HT3.out | exact HKp.out _ HT2.out | exact HKp.out _ HT1.out | exact HKp.out _ HT0.out | exact HKp.out _ (after HT0.out (below1 _ _) HT0.out.size))
  clear hK K hHeld0
  try simp only [Act.put, List.setIfInBounds_toArray, List.set_cons_zero, List.set_cons_succ]
  refine wpAnyH_ready (rs := [5]) (by kernel_rfl) (by simp) ?_
  refine AllReadyH.cons (o := { dst := Option.some 28, op := Go.Op.call { callee := Go.Callee.value (Go.Operand.func 53), args := #[Go.Operand.tmp 25, Go.Operand.tmp 27], argTypes := #[37, 34] }, type := 4, pos := "ref.go:180", after := #[{ on := 2, ground := Go.Ground.data }, { on := 4, ground := Go.Ground.data }, { on := 1, ground := Go.Ground.chain }, { on := 1, ground := Go.Ground.guard }], guard := Option.some (1, Bool.true) }) rfl (fun K hK => ?_) AllReadyH.nil
  go_simp
  go_wp2_with (first | (go_at_call 53; have hh := G1; clear G1; refine (has_1 d _ x va fa ia vc fc ic _ _ (cells_at (heap_alloc_new _ _) 0) HD.out).mono ?_; rintro e w2 ⟨rfl, hb2⟩; have HT1 := hid (after (after HT0.out (below1 _ _) HT0.out.size) hb2.out (after HT0.out (below1 _ _) HT0.out.size).size); clear hb2) | (go_at_call 54; refine (reads_g ⟨op, d, a, b, tt, el, f, n, l, c, sg, xs, ms⟩ ao mo ac mc _ (HXS.out _ (after HB1.out HT1.out HB1.out.size)) HL.out).mono ?_; rintro e w3 ⟨v3, rfl, hi3, hb3⟩; obtain ⟨A3, c3, rfl, hA3⟩ := hi3.out; have HA3 := hid hA3; clear hA3 hi3; have HT2 := hid (after HT1.out hb3.out HT1.out.size); clear hb3) | (go_at_call 53; refine (has_g (rdsF ⟨op, d, a, b, tt, el, f, n, l, c, sg, xs, ms⟩) A3 c3 x va fa ia vc fc ic false _ HA3.out HR.out).mono ?_; rintro e w4 ⟨rfl, hb4⟩; have HT3 := hid (after HT2.out hb4.out HT2.out.size); clear hb4))
  refine hK.out _ _ ?_ (fun hHeld6 => ?_)
  · (try dsimp only) <;> (first | exact HKp.out _ HT3.out | exact HKp.out _ HT2.out | exact HKp.out _ HT1.out | exact HKp.out _ HT0.out | exact HKp.out _ (after HT0.out (below1 _ _) HT0.out.size))
  clear hK K hHeld3
  try simp only [Act.put, List.setIfInBounds_toArray, List.set_cons_zero, List.set_cons_succ]
  refine wpAnyH_take (i := 6) (oi := { dst := Option.some 29, op := Go.Op.unOp Go.UnOp.not 4 (Go.Operand.tmp 28), type := 4, pos := "ref.go:180", after := #[{ on := 5, ground := Go.Ground.data }, { on := 1, ground := Go.Ground.guard }], guard := Option.some (1, Bool.true) }) (v := ?_) rfl (by kernel_rfl) (by kernel_rfl) (by kernel_rfl) (fun _ _ _ h => h) (Or.inl ⟨by rfl, ?_⟩) (by assumption) ?_
  rotate_left
  · intro w5x hSwx
    try dsimp only at hSwx
    go_simp
    try with_reducible rfl
  try simp only [Act.put, List.setIfInBounds_toArray, List.set_cons_zero, List.set_cons_succ]
  refine wpAnyH_take (i := 7) (oi := { dst := Option.some 30, op := Go.Op.pick (Go.Operand.tmp 24) (Go.Operand.tmp 29) (Go.Operand.const (Go.Value.bool Bool.false)), type := 4, pos := "ref.go:180", after := #[{ on := 1, ground := Go.Ground.data }, { on := 6, ground := Go.Ground.data }], guard := Option.none }) (v := ?_) rfl (by kernel_rfl) (by kernel_rfl) (by kernel_rfl) (fun _ _ _ h => h) (Or.inl ⟨by rfl, ?_⟩) (by assumption) ?_
  rotate_left
  · intro w5x hSwx
    try dsimp only at hSwx
    go_simp
    try with_reducible rfl
  try simp only [Act.put, List.setIfInBounds_toArray, List.set_cons_zero, List.set_cons_succ]
  refine wpAnyH_take (i := 8) (oi := { dst := Option.some 31, op := Go.Op.move (Go.Operand.tmp 30), type := 4, pos := "ref.go:180", after := #[{ on := 7, ground := Go.Ground.data }, { on := 5, ground := Go.Ground.chain }], guard := Option.none }) (v := ?_) rfl (by kernel_rfl) (by kernel_rfl) (by kernel_rfl) (fun _ _ _ h => h) (Or.inl ⟨by rfl, ?_⟩) (by assumption) ?_
  rotate_left
  · intro w5x hSwx
    try dsimp only at hSwx
    go_simp
    try with_reducible rfl
  try simp only [Act.put, List.setIfInBounds_toArray, List.set_cons_zero, List.set_cons_succ]
  refine wpAnyH_take (i := 9) (oi := { dst := Option.some 32, op := Go.Op.load 37 (Go.Operand.tmp 4), type := 37, pos := "ref.go:180", after := #[{ on := 8, ground := Go.Ground.guard }], guard := Option.some (8, Bool.false) }) (v := ?_) rfl (by kernel_rfl) (by kernel_rfl) (by kernel_rfl) (fun _ _ _ h => h) (Or.inl ⟨by rfl, ?_⟩) (by assumption) ?_
  rotate_left
  · intro w5x hSwx
    try dsimp only at hSwx
    go_simp
    try with_reducible rfl
  try simp only [Act.put, List.setIfInBounds_toArray, List.set_cons_zero, List.set_cons_succ]
  refine wpAnyH_take (i := 10) (oi := { dst := Option.some 33, op := Go.Op.load 49 (Go.Operand.tmp 5), type := 49, pos := "ref.go:180", after := #[{ on := 8, ground := Go.Ground.guard }], guard := Option.some (8, Bool.false) }) (v := ?_) rfl (by kernel_rfl) (by kernel_rfl) (by kernel_rfl) (fun _ _ _ h => h) (Or.inl ⟨by rfl, ?_⟩) (by assumption) ?_
  rotate_left
  · intro w5x hSwx
    try dsimp only at hSwx
    go_simp
    try with_reducible rfl
  try simp only [Act.put, List.setIfInBounds_toArray, List.set_cons_zero, List.set_cons_succ]
  refine wpAnyH_ready (rs := [11]) (by kernel_rfl) (by simp) ?_
  refine AllReadyH.cons (o := { dst := Option.some 34, op := Go.Op.call { callee := Go.Callee.value (Go.Operand.func 54), args := #[Go.Operand.tmp 33], argTypes := #[49] }, type := 34, pos := "ref.go:180", after := #[{ on := 10, ground := Go.Ground.data }, { on := 8, ground := Go.Ground.chain }, { on := 8, ground := Go.Ground.guard }], guard := Option.some (8, Bool.false) }) rfl (fun K hK => ?_) AllReadyH.nil
  go_simp
  go_wp2_with (first | (go_at_call 53; have hh := G1; clear G1; refine (has_1 d _ x va fa ia vc fc ic _ _ (cells_at (heap_alloc_new _ _) 0) HD.out).mono ?_; rintro e w2 ⟨rfl, hb2⟩; have HT1 := hid (after (after HT0.out (below1 _ _) HT0.out.size) hb2.out (after HT0.out (below1 _ _) HT0.out.size).size); clear hb2) | (go_at_call 54; refine (reads_g ⟨op, d, a, b, tt, el, f, n, l, c, sg, xs, ms⟩ ao mo ac mc _ (HXS.out _ (after HB1.out HT1.out HB1.out.size)) HL.out).mono ?_; rintro e w3 ⟨v3, rfl, hi3, hb3⟩; obtain ⟨A3, c3, rfl, hA3⟩ := hi3.out; have HA3 := hid hA3; clear hA3 hi3; have HT2 := hid (after HT1.out hb3.out HT1.out.size); clear hb3) | (go_at_call 53; refine (has_g (rdsF ⟨op, d, a, b, tt, el, f, n, l, c, sg, xs, ms⟩) A3 c3 x va fa ia vc fc ic false _ HA3.out HR.out).mono ?_; rintro e w4 ⟨rfl, hb4⟩; have HT3 := hid (after HT2.out hb4.out HT2.out.size); clear hb4))
  refine hK.out _ _ ?_ (fun hHeld9 => ?_)
  · (try dsimp only) <;> (first | exact HKp.out _ HT3.out | exact HKp.out _ HT2.out | exact HKp.out _ HT1.out | exact HKp.out _ HT0.out | exact HKp.out _ (after HT0.out (below1 _ _) HT0.out.size))
  clear hK K hHeld6
  try simp only [Act.put, List.setIfInBounds_toArray, List.set_cons_zero, List.set_cons_succ]
  refine wpAnyH_ready (rs := [12]) (by kernel_rfl) (by simp) ?_
  refine AllReadyH.cons (o := { dst := Option.some 35, op := Go.Op.call { callee := Go.Callee.value (Go.Operand.func 53), args := #[Go.Operand.tmp 32, Go.Operand.tmp 34], argTypes := #[37, 34] }, type := 4, pos := "ref.go:180", after := #[{ on := 9, ground := Go.Ground.data }, { on := 11, ground := Go.Ground.data }, { on := 11, ground := Go.Ground.chain }, { on := 8, ground := Go.Ground.guard }], guard := Option.some (8, Bool.false) }) rfl (fun K hK => ?_) AllReadyH.nil
  go_simp
  go_wp2_with (first | (go_at_call 53; have hh := G1; clear G1; refine (has_1 d _ x va fa ia vc fc ic _ _ (cells_at (heap_alloc_new _ _) 0) HD.out).mono ?_; rintro e w2 ⟨rfl, hb2⟩; have HT1 := hid (after (after HT0.out (below1 _ _) HT0.out.size) hb2.out (after HT0.out (below1 _ _) HT0.out.size).size); clear hb2) | (go_at_call 54; refine (reads_g ⟨op, d, a, b, tt, el, f, n, l, c, sg, xs, ms⟩ ao mo ac mc _ (HXS.out _ (after HB1.out HT1.out HB1.out.size)) HL.out).mono ?_; rintro e w3 ⟨v3, rfl, hi3, hb3⟩; obtain ⟨A3, c3, rfl, hA3⟩ := hi3.out; have HA3 := hid hA3; clear hA3 hi3; have HT2 := hid (after HT1.out hb3.out HT1.out.size); clear hb3) | (go_at_call 53; refine (has_g (rdsF ⟨op, d, a, b, tt, el, f, n, l, c, sg, xs, ms⟩) A3 c3 x va fa ia vc fc ic false _ HA3.out HR.out).mono ?_; rintro e w4 ⟨rfl, hb4⟩; have HT3 := hid (after HT2.out hb4.out HT2.out.size); clear hb4))
  refine hK.out _ _ ?_ (fun hHeld12 => ?_)
  · (try dsimp only) <;> (first | exact HKp.out _ HT3.out | exact HKp.out _ HT2.out | exact HKp.out _ HT1.out | exact HKp.out _ HT0.out | exact HKp.out _ (after HT0.out (below1 _ _) HT0.out.size))
  clear hK K hHeld9
  try simp only [Act.put, List.setIfInBounds_toArray, List.set_cons_zero, List.set_cons_succ]
  refine wpAnyH_take (i := 13) (oi := { dst := Option.some 36, op := Go.Op.unOp Go.UnOp.not 4 (Go.Operand.tmp 35), type := 4, pos := "ref.go:180", after := #[{ on := 12, ground := Go.Ground.data }, { on := 8, ground := Go.Ground.guard }], guard := Option.some (8, Bool.false) }) (v := ?_) rfl (by kernel_rfl) (by kernel_rfl) (by kernel_rfl) (fun _ _ _ h => h) (Or.inl ⟨by rfl, ?_⟩) (by assumption) ?_
  rotate_left
  · intro w5x hSwx
    try dsimp only at hSwx
    go_simp
    try with_reducible rfl
  try simp only [Act.put, List.setIfInBounds_toArray, List.set_cons_zero, List.set_cons_succ]
  refine wpAnyH_take (i := 14) (oi := { dst := Option.some 37, op := Go.Op.pick (Go.Operand.tmp 31) (Go.Operand.const (Go.Value.bool Bool.true)) (Go.Operand.tmp 36), type := 4, pos := "ref.go:180", after := #[{ on := 8, ground := Go.Ground.data }, { on := 13, ground := Go.Ground.data }], guard := Option.none }) (v := ?_) rfl (by kernel_rfl) (by kernel_rfl) (by kernel_rfl) (fun _ _ _ h => h) (Or.inl ⟨by rfl, ?_⟩) (by assumption) ?_
  rotate_left
  · intro w5x hSwx
    try dsimp only at hSwx
    go_simp
    try with_reducible rfl
  try simp only [Act.put, List.setIfInBounds_toArray, List.set_cons_zero, List.set_cons_succ]
  refine wpAnyH_done (by kernel_rfl) ?_ _
  go_wp2
  go_ret
  exact ⟨rfl, (HKp.out _ HT3.out).1⟩
set_option maxRecDepth 100000 in
set_option maxHeartbeats 8000000 in
theorem rinstr_rd_n (mv : Array Value) (hmv : mv.size = 2) (x : CoD) (va fa ia : Option Addr) (vc fc ic : Nat) (r : InD) (ao mo : Option Addr) (ac mc : Nat) (w : World) (h1 : ¬ r.op < 1) (h2 : ¬ 18 < r.op) (hX : IntsM w ao r.xs) (hl : r.xs.length ≤ 40) (hw : wrB r.op = false) (hr : (rdsF r).all (inN x.vs.length) = false) :
    Calls Try.prog 39 #[.agg mv, .agg (CoV x va vc fa fc ia ic), .agg (InV r ao ac mo mc)] w fun e w' => e = .returned (.int .i64 15) ∧ Hid (Below w.heap.size w w') := by
  obtain ⟨op, d, a, b, tt, el, f, n, l, c, sg, xs, ms⟩ := r
  simp only at h1 h2
  have HW := hid hw
  have HR := hid hr
  have HL := hid hl
  have HB := hid (below3a w)
  have HXS := hid (fun W (hb : Below w.heap.size w W) => hX.later int_stays hb)
  have HX := hid (fun o p => box3c w (InV ⟨op, d, a, b, tt, el, f, n, l, c, sg, xs, ms⟩ ao ac mo mc) 49 o p)
  have HY := hid (fun o p => box3d w (CoV x va vc fa fc ia ic) 37 o p)
  have HZ := hid (fun p q => lay (below2 (w.alloc (.cells mv 25)) p q) (heap_alloc_new w (.cells mv 25)))
  clear hw hr hl hX
  go_enter Try.func39, Try.ntmps39
  go_wp2_with (go_at_call 52; refine (writes_g ⟨op, d, a, b, tt, el, f, n, l, c, sg, xs, ms⟩ false ao mo ac mc _ HW.out).mono ?_; rintro e w1 ⟨rfl, hb1⟩; have HB1 := hid (after (HB.out _ _ _) hb1.out (HB.out _ _ _).size); have HX1 := hid (lay hb1.out (HX.out _ _)); have HY1 := hid (lay hb1.out (HY.out _ _)); have HZ1 := hid (lay hb1.out (HZ.out _ _)); have hx1 := cells_at HX1.out)
  have HT0 := hid (below_drew1 w1)
  have HKp := hid (fun W (hb : Below w1.heap.size w1 W) => And.intro (hid (after HB1.out hb HB1.out.size)) (And.intro (cells_at (lay hb HY1.out)) (And.intro (cells_at (lay hb HX1.out)) (cells_at (lay hb HZ1.out)))))
  have G1 : True := trivial
  clear HB HX HY HZ
  refine wp_region_held_drew (S := fun W => Hid (Below w.heap.size w W) ∧ (∀ i, W.cell? ⟨w.heap.size + 1, i, none⟩ = (CoV x va vc fa fc ia ic)[i]?) ∧ (∀ i, W.cell? ⟨w.heap.size + 1 + 1, i, none⟩ = (InV ⟨op, d, a, b, tt, el, f, n, l, c, sg, xs, ms⟩ ao ac mo mc)[i]?) ∧ (∀ i, W.cell? ⟨w.heap.size, i, none⟩ = (mv)[i]?)) (by kernel_rfl) ?_ (fun hHeld0 => ?_)
  · (try dsimp only) <;> (first | exact HKp.out _ HT3.out | exact HKp.out _ HT2.out | exact HKp.out _ HT1.out | exact HKp.out _ HT0.out | exact HKp.out _ (after HT0.out (below1 _ _) HT0.out.size))
  refine wpAnyH_take (i := 0) (oi := { dst := Option.some 23, op := Go.Op.move (Go.Operand.tmp 8), type := 4, pos := "ref.go:180", after := #[], guard := Option.none }) (v := ?_) rfl (by kernel_rfl) (by kernel_rfl) (by kernel_rfl) (fun _ _ _ h => h) (Or.inl ⟨by rfl, ?_⟩) (by assumption) ?_
  rotate_left
  · intro w5x hSwx
    try dsimp only at hSwx
    go_simp
    try with_reducible rfl
  try simp only [Act.put, List.setIfInBounds_toArray, List.set_cons_zero, List.set_cons_succ]
  refine wpAnyH_take (i := 1) (oi := { dst := Option.some 24, op := Go.Op.move (Go.Operand.tmp 23), type := 4, pos := "ref.go:180", after := #[{ on := 0, ground := Go.Ground.data }], guard := Option.none }) (v := ?_) rfl (by kernel_rfl) (by kernel_rfl) (by kernel_rfl) (fun _ _ _ h => h) (Or.inl ⟨by rfl, ?_⟩) (by assumption) ?_
  rotate_left
  · intro w5x hSwx
    try dsimp only at hSwx
    go_simp
    try with_reducible rfl
  try simp only [Act.put, List.setIfInBounds_toArray, List.set_cons_zero, List.set_cons_succ]
  refine wpAnyH_take (i := 2) (oi := { dst := Option.some 25, op := Go.Op.load 37 (Go.Operand.tmp 4), type := 37, pos := "ref.go:180", after := #[{ on := 1, ground := Go.Ground.guard }], guard := Option.some (1, Bool.true) }) (v := undef) rfl (by kernel_rfl) (by kernel_rfl) (by kernel_rfl) (fun _ _ _ h => h) (Or.inr ⟨by rfl, rfl⟩) (by assumption) ?_
  try simp only [Act.put, List.setIfInBounds_toArray, List.set_cons_zero, List.set_cons_succ]
  refine wpAnyH_take (i := 3) (oi := { dst := Option.some 26, op := Go.Op.move (Go.Operand.tmp 7), type := 3, pos := "ref.go:180", after := #[{ on := 1, ground := Go.Ground.guard }], guard := Option.some (1, Bool.true) }) (v := undef) rfl (by kernel_rfl) (by kernel_rfl) (by kernel_rfl) (fun _ _ _ h => h) (Or.inr ⟨by rfl, rfl⟩) (by assumption) ?_
  try simp only [Act.put, List.setIfInBounds_toArray, List.set_cons_zero, List.set_cons_succ]
  refine wpAnyH_take (i := 4) (oi := { dst := Option.some 27, op := Go.Op.buildSlice 34 1 #[(0, Go.Operand.tmp 26)], type := 34, pos := "ref.go:180", after := #[{ on := 3, ground := Go.Ground.data }, { on := 1, ground := Go.Ground.guard }], guard := Option.some (1, Bool.true) }) (v := undef) rfl (by kernel_rfl) (by kernel_rfl) (by kernel_rfl) (fun _ _ _ h => h) (Or.inr ⟨by rfl, rfl⟩) (by assumption) ?_
  try simp only [Act.put, List.setIfInBounds_toArray, List.set_cons_zero, List.set_cons_succ]
  refine wpAnyH_take (i := 5) (oi := { dst := Option.some 28, op := Go.Op.call { callee := Go.Callee.value (Go.Operand.func 53), args := #[Go.Operand.tmp 25, Go.Operand.tmp 27], argTypes := #[37, 34] }, type := 4, pos := "ref.go:180", after := #[{ on := 2, ground := Go.Ground.data }, { on := 4, ground := Go.Ground.data }, { on := 1, ground := Go.Ground.chain }, { on := 1, ground := Go.Ground.guard }], guard := Option.some (1, Bool.true) }) (v := undef) rfl (by kernel_rfl) (by kernel_rfl) (by kernel_rfl) (fun _ _ _ h => h) (Or.inr ⟨by rfl, rfl⟩) (by assumption) ?_
  try simp only [Act.put, List.setIfInBounds_toArray, List.set_cons_zero, List.set_cons_succ]
  refine wpAnyH_take (i := 6) (oi := { dst := Option.some 29, op := Go.Op.unOp Go.UnOp.not 4 (Go.Operand.tmp 28), type := 4, pos := "ref.go:180", after := #[{ on := 5, ground := Go.Ground.data }, { on := 1, ground := Go.Ground.guard }], guard := Option.some (1, Bool.true) }) (v := undef) rfl (by kernel_rfl) (by kernel_rfl) (by kernel_rfl) (fun _ _ _ h => h) (Or.inr ⟨by rfl, rfl⟩) (by assumption) ?_
  try simp only [Act.put, List.setIfInBounds_toArray, List.set_cons_zero, List.set_cons_succ]
  refine wpAnyH_take (i := 7) (oi := { dst := Option.some 30, op := Go.Op.pick (Go.Operand.tmp 24) (Go.Operand.tmp 29) (Go.Operand.const (Go.Value.bool Bool.false)), type := 4, pos := "ref.go:180", after := #[{ on := 1, ground := Go.Ground.data }, { on := 6, ground := Go.Ground.data }], guard := Option.none }) (v := ?_) rfl (by kernel_rfl) (by kernel_rfl) (by kernel_rfl) (fun _ _ _ h => h) (Or.inl ⟨by rfl, ?_⟩) (by assumption) ?_
  rotate_left
  · intro w5x hSwx
    try dsimp only at hSwx
    go_simp
    try with_reducible rfl
  try simp only [Act.put, List.setIfInBounds_toArray, List.set_cons_zero, List.set_cons_succ]
  refine wpAnyH_take (i := 8) (oi := { dst := Option.some 31, op := Go.Op.move (Go.Operand.tmp 30), type := 4, pos := "ref.go:180", after := #[{ on := 7, ground := Go.Ground.data }, { on := 5, ground := Go.Ground.chain }], guard := Option.none }) (v := ?_) rfl (by kernel_rfl) (by kernel_rfl) (by kernel_rfl) (fun _ _ _ h => h) (Or.inl ⟨by rfl, ?_⟩) (by assumption) ?_
  rotate_left
  · intro w5x hSwx
    try dsimp only at hSwx
    go_simp
    try with_reducible rfl
  try simp only [Act.put, List.setIfInBounds_toArray, List.set_cons_zero, List.set_cons_succ]
  refine wpAnyH_take (i := 9) (oi := { dst := Option.some 32, op := Go.Op.load 37 (Go.Operand.tmp 4), type := 37, pos := "ref.go:180", after := #[{ on := 8, ground := Go.Ground.guard }], guard := Option.some (8, Bool.false) }) (v := ?_) rfl (by kernel_rfl) (by kernel_rfl) (by kernel_rfl) (fun _ _ _ h => h) (Or.inl ⟨by rfl, ?_⟩) (by assumption) ?_
  rotate_left
  · intro w5x hSwx
    try dsimp only at hSwx
    go_simp
    try with_reducible rfl
  try simp only [Act.put, List.setIfInBounds_toArray, List.set_cons_zero, List.set_cons_succ]
  refine wpAnyH_take (i := 10) (oi := { dst := Option.some 33, op := Go.Op.load 49 (Go.Operand.tmp 5), type := 49, pos := "ref.go:180", after := #[{ on := 8, ground := Go.Ground.guard }], guard := Option.some (8, Bool.false) }) (v := ?_) rfl (by kernel_rfl) (by kernel_rfl) (by kernel_rfl) (fun _ _ _ h => h) (Or.inl ⟨by rfl, ?_⟩) (by assumption) ?_
  rotate_left
  · intro w5x hSwx
    try dsimp only at hSwx
    go_simp
    try with_reducible rfl
  try simp only [Act.put, List.setIfInBounds_toArray, List.set_cons_zero, List.set_cons_succ]
  refine wpAnyH_ready (rs := [11]) (by kernel_rfl) (by simp) ?_
  refine AllReadyH.cons (o := { dst := Option.some 34, op := Go.Op.call { callee := Go.Callee.value (Go.Operand.func 54), args := #[Go.Operand.tmp 33], argTypes := #[49] }, type := 34, pos := "ref.go:180", after := #[{ on := 10, ground := Go.Ground.data }, { on := 8, ground := Go.Ground.chain }, { on := 8, ground := Go.Ground.guard }], guard := Option.some (8, Bool.false) }) rfl (fun K hK => ?_) AllReadyH.nil
  go_simp
  go_wp2_with (first | (go_at_call 54; refine (reads_g ⟨op, d, a, b, tt, el, f, n, l, c, sg, xs, ms⟩ ao mo ac mc _ (HXS.out _ (after HB1.out HT0.out HB1.out.size)) HL.out).mono ?_; rintro e w3 ⟨v3, rfl, hi3, hb3⟩; obtain ⟨A3, c3, rfl, hA3⟩ := hi3.out; have HA3 := hid hA3; clear hA3 hi3; have HT2 := hid (after HT0.out hb3.out HT0.out.size); clear hb3) | (go_at_call 53; refine (has_g (rdsF ⟨op, d, a, b, tt, el, f, n, l, c, sg, xs, ms⟩) A3 c3 x va fa ia vc fc ic false _ HA3.out HR.out).mono ?_; rintro e w4 ⟨rfl, hb4⟩; have HT3 := hid (after HT2.out hb4.out HT2.out.size); clear hb4))
  refine hK.out _ _ ?_ (fun hHeld3 => ?_)
  · (try dsimp only) <;> (first | exact HKp.out _ HT3.out | exact HKp.out _ HT2.out | exact HKp.out _ HT1.out | exact HKp.out _ HT0.out | exact HKp.out _ (after HT0.out (below1 _ _) HT0.out.size))
  clear hK K hHeld0
  try simp only [Act.put, List.setIfInBounds_toArray, List.set_cons_zero, List.set_cons_succ]
  refine wpAnyH_ready (rs := [12]) (by kernel_rfl) (by simp) ?_
  refine AllReadyH.cons (o := { dst := Option.some 35, op := Go.Op.call { callee := Go.Callee.value (Go.Operand.func 53), args := #[Go.Operand.tmp 32, Go.Operand.tmp 34], argTypes := #[37, 34] }, type := 4, pos := "ref.go:180", after := #[{ on := 9, ground := Go.Ground.data }, { on := 11, ground := Go.Ground.data }, { on := 11, ground := Go.Ground.chain }, { on := 8, ground := Go.Ground.guard }], guard := Option.some (8, Bool.false) }) rfl (fun K hK => ?_) AllReadyH.nil
  go_simp
  go_wp2_with (first | (go_at_call 54; refine (reads_g ⟨op, d, a, b, tt, el, f, n, l, c, sg, xs, ms⟩ ao mo ac mc _ (HXS.out _ (after HB1.out HT0.out HB1.out.size)) HL.out).mono ?_; rintro e w3 ⟨v3, rfl, hi3, hb3⟩; obtain ⟨A3, c3, rfl, hA3⟩ := hi3.out; have HA3 := hid hA3; clear hA3 hi3; have HT2 := hid (after HT0.out hb3.out HT0.out.size); clear hb3) | (go_at_call 53; refine (has_g (rdsF ⟨op, d, a, b, tt, el, f, n, l, c, sg, xs, ms⟩) A3 c3 x va fa ia vc fc ic false _ HA3.out HR.out).mono ?_; rintro e w4 ⟨rfl, hb4⟩; have HT3 := hid (after HT2.out hb4.out HT2.out.size); clear hb4))
  refine hK.out _ _ ?_ (fun hHeld6 => ?_)
  · (try dsimp only) <;> (first | exact HKp.out _ HT3.out | exact HKp.out _ HT2.out | exact HKp.out _ HT1.out | exact HKp.out _ HT0.out | exact HKp.out _ (after HT0.out (below1 _ _) HT0.out.size))
  clear hK K hHeld3
  try simp only [Act.put, List.setIfInBounds_toArray, List.set_cons_zero, List.set_cons_succ]
  refine wpAnyH_take (i := 13) (oi := { dst := Option.some 36, op := Go.Op.unOp Go.UnOp.not 4 (Go.Operand.tmp 35), type := 4, pos := "ref.go:180", after := #[{ on := 12, ground := Go.Ground.data }, { on := 8, ground := Go.Ground.guard }], guard := Option.some (8, Bool.false) }) (v := ?_) rfl (by kernel_rfl) (by kernel_rfl) (by kernel_rfl) (fun _ _ _ h => h) (Or.inl ⟨by rfl, ?_⟩) (by assumption) ?_
  rotate_left
  · intro w5x hSwx
    try dsimp only at hSwx
    go_simp
    try with_reducible rfl
  try simp only [Act.put, List.setIfInBounds_toArray, List.set_cons_zero, List.set_cons_succ]
  refine wpAnyH_take (i := 14) (oi := { dst := Option.some 37, op := Go.Op.pick (Go.Operand.tmp 31) (Go.Operand.const (Go.Value.bool Bool.true)) (Go.Operand.tmp 36), type := 4, pos := "ref.go:180", after := #[{ on := 8, ground := Go.Ground.data }, { on := 13, ground := Go.Ground.data }], guard := Option.none }) (v := ?_) rfl (by kernel_rfl) (by kernel_rfl) (by kernel_rfl) (fun _ _ _ h => h) (Or.inl ⟨by rfl, ?_⟩) (by assumption) ?_
  rotate_left
  · intro w5x hSwx
    try dsimp only at hSwx
    go_simp
    try with_reducible rfl
  try simp only [Act.put, List.setIfInBounds_toArray, List.set_cons_zero, List.set_cons_succ]
  refine wpAnyH_done (by kernel_rfl) ?_ _
  go_wp2
  go_ret
  exact ⟨rfl, (HKp.out _ HT3.out).1⟩
end Go.Proofs.Ytfhdiahjfnphkaa
