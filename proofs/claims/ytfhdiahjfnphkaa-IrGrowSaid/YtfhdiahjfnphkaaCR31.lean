/- An instruction that writes, by the reference. Condition: at most 40 arguments. -/
import Derived.Test.YtfhdiahjfnphkaaCR29
import Derived.Test.YtfhdiahjfnphkaaCR21
namespace Go.Proofs.Ytfhdiahjfnphkaa
open Go.RowKit Go.Maps
set_option linter.unusedVariables false
set_option linter.unusedSimpArgs false
set_option maxRecDepth 100000 in
set_option maxHeartbeats 16000000 in
theorem rinstr_w (ss : List StD) (cs : List CoD) (n m : Nat) (hn : ss.length = n) (sa ca : Option Addr) (sc cc : Nat) (x : CoD) (va fa ia : Option Addr) (vc fc ic : Nat) (r : InD) (ao mo : Option Addr) (ac mc : Nat) (w : World) (h1 : ¬ r.op < 1) (h2 : ¬ 18 < r.op) (hS : RowM 4 StAt w sa ss) (hC : RowM 3 VaAt w va x.vs) (hX : IntsM w ao r.xs) (hl : r.xs.length ≤ 40) (hi : x.ins.length ≤ 9223372036854775807) (hw : wrB r.op = true) (hd : inN x.vs.length r.d = true) (hr : (rdsF r).all (inN x.vs.length) = true) (g : Int) (hg : g = jF ss cs x r)
    (hH : r.op = 7 ∨ r.op = 8 ∨ r.op = 10 ∨ r.op = 11 → ∀ W, Below w.heap.size w W → Calls Try.prog 56 #[.agg #[.slice sa n sc, .slice ca m cc], .agg (CoV x va vc fa fc ia ic), .agg (InV r ao ac mo mc)] W fun e w' => e = .returned (.int .i64 g) ∧ Hid (Below W.heap.size W w'))
    (hK : r.op = 15 → ∀ W, Below w.heap.size w W → Calls Try.prog 57 #[.agg #[.slice sa n sc, .slice ca m cc], .agg (CoV x va vc fa fc ia ic), .agg (InV r ao ac mo mc)] W fun e w' => e = .returned (.int .i64 g) ∧ Hid (Below W.heap.size W w')) :
    Calls Try.prog 39 #[.agg #[.slice sa n sc, .slice ca m cc], .agg (CoV x va vc fa fc ia ic), .agg (InV r ao ac mo mc)] w fun e w' => e = .returned (.int .i64 g) ∧ Hid (Below w.heap.size w w') := by
  obtain ⟨op, d, a, b, tt, el, f, nn, l, c, sg, xs, ms⟩ := r
  simp only at h1 h2 hH hK
  have HH := hid hH
  have HC := hid hC
  have HS := hid hS
  have HG := hid hg
  have HI := hid hi
  have HN := hid hn
  have HO := hid (And.intro h1 h2)
  have HKK := hid hK
  clear hH hK hC hS hg hi hn
  have HD := hid hd
  clear hd
  have HW := hid hw
  have HR := hid hr
  have HL := hid hl
  have HB := hid (below3a w)
  have HXS := hid (fun W (hb : Below w.heap.size w W) => hX.later int_stays hb)
  have HX := hid (fun o p => box3c w (InV ⟨op, d, a, b, tt, el, f, nn, l, c, sg, xs, ms⟩ ao ac mo mc) 49 o p)
  have HY := hid (fun o p => box3d w (CoV x va vc fa fc ia ic) 37 o p)
  have HZ := hid (fun p q => lay (below2 (w.alloc (.cells #[.slice sa n sc, .slice ca m cc] 25)) p q) (heap_alloc_new w (.cells #[.slice sa n sc, .slice ca m cc] 25)))
  clear hw hr hl hX
  go_enter Try.func39, Try.ntmps39
  go_wp2_with (go_at_call 52; refine (writes_g ⟨op, d, a, b, tt, el, f, nn, l, c, sg, xs, ms⟩ true ao mo ac mc _ HW.out).mono ?_; rintro e w1 ⟨rfl, hb1⟩; have HB1 := hid (after (HB.out _ _ _) hb1.out (HB.out _ _ _).size); have HX1 := hid (lay hb1.out (HX.out _ _)); have HY1 := hid (lay hb1.out (HY.out _ _)); have HZ1 := hid (lay hb1.out (HZ.out _ _)); have hx1 := cells_at HX1.out)
  have HT0 := hid (below_drew1 w1)
  have HKp := hid (fun W (hb : Below w1.heap.size w1 W) => And.intro (hid (after HB1.out hb HB1.out.size)) (And.intro (cells_at (lay hb HY1.out)) (And.intro (cells_at (lay hb HX1.out)) (cells_at (lay hb HZ1.out)))))
  have G1 : True := trivial
  clear HB HX HY HZ
  refine wp_region_held_drew (S := fun W => Hid (Below w.heap.size w W) ∧ (∀ i, W.cell? ⟨w.heap.size + 1, i, none⟩ = (CoV x va vc fa fc ia ic)[i]?) ∧ (∀ i, W.cell? ⟨w.heap.size + 1 + 1, i, none⟩ = (InV ⟨op, d, a, b, tt, el, f, nn, l, c, sg, xs, ms⟩ ao ac mo mc)[i]?) ∧ (∀ i, W.cell? ⟨w.heap.size, i, none⟩ = (#[.slice sa n sc, .slice ca m cc])[i]?)) (by kernel_rfl) ?_ (fun hHeld0 => ?_)
  · (try dsimp only) <;> (first | exact HKp.out _ HT3.out | exact HKp.out _ HT2.out | exact HKp.out _ HT1.out | exact HKp.out _ HT0.out | exact HKp.out _ (after HT0.out (below1 _ _) HT0.out.size))
  refine wpAnyH_take (i := 0) (oi := { dst := Option.some 23, op := Go.Op.move (Go.Operand.tmp 8), type := 4, pos := "ref.go:180", after := #[], guard := Option.none }) (v := ?_) rfl (by kernel_rfl) (by kernel_rfl) (by kernel_rfl) (fun _ _ _ h => h) (Or.inl ⟨by rfl, ?_⟩) (by assumption) ?_
  rotate_left
  · intro w5x hSwx
    try dsimp only at hSwx
    go_simp
    try with_reducible rfl
  try simp only [Act.put, List.setIfInBounds_toArray, List.set_cons_zero, List.set_cons_succ]
  refine wpAnyH_take (i := 1) (oi := { dst := Option.some 24, op := Go.Op.move (Go.Operand.tmp 23), type := 4, pos := "ref.go:180", after := #[{ on := 0, ground := Go.Ground.data }], guard := Option.none }) (v := ?_) rfl (by kernel_rfl) (by kernel_rfl) (by kernel_rfl) (fun _ _ _ h => h) (Or.inl ⟨by rfl, ?_⟩) (by assumption) ?_
  rotate_left
  · intro w5x hSwx
    try dsimp only at hSwx
    go_simp
    try with_reducible rfl
  try simp only [Act.put, List.setIfInBounds_toArray, List.set_cons_zero, List.set_cons_succ]
  refine wpAnyH_take (i := 2) (oi := { dst := Option.some 25, op := Go.Op.load 37 (Go.Operand.tmp 4), type := 37, pos := "ref.go:180", after := #[{ on := 1, ground := Go.Ground.guard }], guard := Option.some (1, Bool.true) }) (v := ?_) rfl (by kernel_rfl) (by kernel_rfl) (by kernel_rfl) (fun _ _ _ h => h) (Or.inl ⟨by rfl, ?_⟩) (by assumption) ?_
  rotate_left
  · intro w5x hSwx
    try dsimp only at hSwx
    go_simp
    try with_reducible rfl
  try simp only [Act.put, List.setIfInBounds_toArray, List.set_cons_zero, List.set_cons_succ]
  refine wpAnyH_take (i := 3) (oi := { dst := Option.some 26, op := Go.Op.move (Go.Operand.tmp 7), type := 3, pos := "ref.go:180", after := #[{ on := 1, ground := Go.Ground.guard }], guard := Option.some (1, Bool.true) }) (v := ?_) rfl (by kernel_rfl) (by kernel_rfl) (by kernel_rfl) (fun _ _ _ h => h) (Or.inl ⟨by rfl, ?_⟩) (by assumption) ?_
  rotate_left
  · intro w5x hSwx
    try dsimp only at hSwx
    go_simp
    try with_reducible rfl
  try simp only [Act.put, List.setIfInBounds_toArray, List.set_cons_zero, List.set_cons_succ]
  refine wpAnyH_ready (rs := [4]) (by kernel_rfl) (by simp) ?_
  refine AllReadyH.cons (o := { dst := Option.some 27, op := Go.Op.buildSlice 34 1 #[(0, Go.Operand.tmp 26)], type := 34, pos := "ref.go:180", after := #[{ on := 3, ground := Go.Ground.data }, { on := 1, ground := Go.Ground.guard }], guard := Option.some (1, Bool.true) }) rfl (fun K hK => ?_) AllReadyH.nil
  go_simp
  refine hK.out _ _ ?_ (fun hHeld3 => ?_)
  · (try dsimp only) <;> (first | exact HKp.out _ HT3.out | exact HKp.out _ HT2.out | exact HKp.out _ HT1.out | exact HKp.out _ HT0.out | exact HKp.out _ (after HT0.out (below1 _ _) HT0.out.size))
  clear hK K hHeld0
  try simp only [Act.put, List.setIfInBounds_toArray, List.set_cons_zero, List.set_cons_succ]
  refine wpAnyH_ready (rs := [5]) (by kernel_rfl) (by simp) ?_
  refine AllReadyH.cons (o := { dst := Option.some 28, op := Go.Op.call { callee := Go.Callee.value (Go.Operand.func 53), args := #[Go.Operand.tmp 25, Go.Operand.tmp 27], argTypes := #[37, 34] }, type := 4, pos := "ref.go:180", after := #[{ on := 2, ground := Go.Ground.data }, { on := 4, ground := Go.Ground.data }, { on := 1, ground := Go.Ground.chain }, { on := 1, ground := Go.Ground.guard }], guard := Option.some (1, Bool.true) }) rfl (fun K hK => ?_) AllReadyH.nil
  go_simp
  go_wp2_with (first | (go_at_call 53; have hh := G1; clear G1; refine (has_1 d _ x va fa ia vc fc ic _ _ (cells_at (heap_alloc_new _ _) 0) HD.out).mono ?_; rintro e w2 ⟨rfl, hb2⟩; have HT1 := hid (after (after HT0.out (below1 _ _) HT0.out.size) hb2.out (after HT0.out (below1 _ _) HT0.out.size).size); clear hb2) | (go_at_call 54; refine (reads_g ⟨op, d, a, b, tt, el, f, nn, l, c, sg, xs, ms⟩ ao mo ac mc _ (HXS.out _ (after HB1.out HT1.out HB1.out.size)) HL.out).mono ?_; rintro e w3 ⟨v3, rfl, hi3, hb3⟩; obtain ⟨A3, c3, rfl, hA3⟩ := hi3.out; have HA3 := hid hA3; clear hA3 hi3; have HT2 := hid (after HT1.out hb3.out HT1.out.size); clear hb3) | (go_at_call 53; refine (has_g (rdsF ⟨op, d, a, b, tt, el, f, nn, l, c, sg, xs, ms⟩) A3 c3 x va fa ia vc fc ic true _ HA3.out HR.out).mono ?_; rintro e w4 ⟨rfl, hb4⟩; have HT3 := hid (after HT2.out hb4.out HT2.out.size); clear hb4))
  refine hK.out _ _ ?_ (fun hHeld6 => ?_)
  · (try dsimp only) <;> (first | exact HKp.out _ HT3.out | exact HKp.out _ HT2.out | exact HKp.out _ HT1.out | exact HKp.out _ HT0.out | exact HKp.out _ (after HT0.out (below1 _ _) HT0.out.size))
  clear hK K hHeld3
  try simp only [Act.put, List.setIfInBounds_toArray, List.set_cons_zero, List.set_cons_succ]
  refine wpAnyH_take (i := 6) (oi := { dst := Option.some 29, op := Go.Op.unOp Go.UnOp.not 4 (Go.Operand.tmp 28), type := 4, pos := "ref.go:180", after := #[{ on := 5, ground := Go.Ground.data }, { on := 1, ground := Go.Ground.guard }], guard := Option.some (1, Bool.true) }) (v := ?_) rfl (by kernel_rfl) (by kernel_rfl) (by kernel_rfl) (fun _ _ _ h => h) (Or.inl ⟨by rfl, ?_⟩) (by assumption) ?_
  rotate_left
  · intro w5x hSwx
    try dsimp only at hSwx
    go_simp
    try with_reducible rfl
  try simp only [Act.put, List.setIfInBounds_toArray, List.set_cons_zero, List.set_cons_succ]
  refine wpAnyH_take (i := 7) (oi := { dst := Option.some 30, op := Go.Op.pick (Go.Operand.tmp 24) (Go.Operand.tmp 29) (Go.Operand.const (Go.Value.bool Bool.false)), type := 4, pos := "ref.go:180", after := #[{ on := 1, ground := Go.Ground.data }, { on := 6, ground := Go.Ground.data }], guard := Option.none }) (v := ?_) rfl (by kernel_rfl) (by kernel_rfl) (by kernel_rfl) (fun _ _ _ h => h) (Or.inl ⟨by rfl, ?_⟩) (by assumption) ?_
  rotate_left
  · intro w5x hSwx
    try dsimp only at hSwx
    go_simp
    try with_reducible rfl
  try simp only [Act.put, List.setIfInBounds_toArray, List.set_cons_zero, List.set_cons_succ]
  refine wpAnyH_take (i := 8) (oi := { dst := Option.some 31, op := Go.Op.move (Go.Operand.tmp 30), type := 4, pos := "ref.go:180", after := #[{ on := 7, ground := Go.Ground.data }, { on := 5, ground := Go.Ground.chain }], guard := Option.none }) (v := ?_) rfl (by kernel_rfl) (by kernel_rfl) (by kernel_rfl) (fun _ _ _ h => h) (Or.inl ⟨by rfl, ?_⟩) (by assumption) ?_
  rotate_left
  · intro w5x hSwx
    try dsimp only at hSwx
    go_simp
    try with_reducible rfl
  try simp only [Act.put, List.setIfInBounds_toArray, List.set_cons_zero, List.set_cons_succ]
  refine wpAnyH_take (i := 9) (oi := { dst := Option.some 32, op := Go.Op.load 37 (Go.Operand.tmp 4), type := 37, pos := "ref.go:180", after := #[{ on := 8, ground := Go.Ground.guard }], guard := Option.some (8, Bool.false) }) (v := ?_) rfl (by kernel_rfl) (by kernel_rfl) (by kernel_rfl) (fun _ _ _ h => h) (Or.inl ⟨by rfl, ?_⟩) (by assumption) ?_
  rotate_left
  · intro w5x hSwx
    try dsimp only at hSwx
    go_simp
    try with_reducible rfl
  try simp only [Act.put, List.setIfInBounds_toArray, List.set_cons_zero, List.set_cons_succ]
  refine wpAnyH_take (i := 10) (oi := { dst := Option.some 33, op := Go.Op.load 49 (Go.Operand.tmp 5), type := 49, pos := "ref.go:180", after := #[{ on := 8, ground := Go.Ground.guard }], guard := Option.some (8, Bool.false) }) (v := ?_) rfl (by kernel_rfl) (by kernel_rfl) (by kernel_rfl) (fun _ _ _ h => h) (Or.inl ⟨by rfl, ?_⟩) (by assumption) ?_
  rotate_left
  · intro w5x hSwx
    try dsimp only at hSwx
    go_simp
    try with_reducible rfl
  try simp only [Act.put, List.setIfInBounds_toArray, List.set_cons_zero, List.set_cons_succ]
  refine wpAnyH_ready (rs := [11]) (by kernel_rfl) (by simp) ?_
  refine AllReadyH.cons (o := { dst := Option.some 34, op := Go.Op.call { callee := Go.Callee.value (Go.Operand.func 54), args := #[Go.Operand.tmp 33], argTypes := #[49] }, type := 34, pos := "ref.go:180", after := #[{ on := 10, ground := Go.Ground.data }, { on := 8, ground := Go.Ground.chain }, { on := 8, ground := Go.Ground.guard }], guard := Option.some (8, Bool.false) }) rfl (fun K hK => ?_) AllReadyH.nil
  go_simp
  go_wp2_with (first | (go_at_call 53; have hh := G1; clear G1; refine (has_1 d _ x va fa ia vc fc ic _ _ (cells_at (heap_alloc_new _ _) 0) HD.out).mono ?_; rintro e w2 ⟨rfl, hb2⟩; have HT1 := hid (after (after HT0.out (below1 _ _) HT0.out.size) hb2.out (after HT0.out (below1 _ _) HT0.out.size).size); clear hb2) | (go_at_call 54; refine (reads_g ⟨op, d, a, b, tt, el, f, nn, l, c, sg, xs, ms⟩ ao mo ac mc _ (HXS.out _ (after HB1.out HT1.out HB1.out.size)) HL.out).mono ?_; rintro e w3 ⟨v3, rfl, hi3, hb3⟩; obtain ⟨A3, c3, rfl, hA3⟩ := hi3.out; have HA3 := hid hA3; clear hA3 hi3; have HT2 := hid (after HT1.out hb3.out HT1.out.size); clear hb3) | (go_at_call 53; refine (has_g (rdsF ⟨op, d, a, b, tt, el, f, nn, l, c, sg, xs, ms⟩) A3 c3 x va fa ia vc fc ic true _ HA3.out HR.out).mono ?_; rintro e w4 ⟨rfl, hb4⟩; have HT3 := hid (after HT2.out hb4.out HT2.out.size); clear hb4))
  refine hK.out _ _ ?_ (fun hHeld9 => ?_)
  · (try dsimp only) <;> (first | exact HKp.out _ HT3.out | exact HKp.out _ HT2.out | exact HKp.out _ HT1.out | exact HKp.out _ HT0.out | exact HKp.out _ (after HT0.out (below1 _ _) HT0.out.size))
  clear hK K hHeld6
  try simp only [Act.put, List.setIfInBounds_toArray, List.set_cons_zero, List.set_cons_succ]
  refine wpAnyH_ready (rs := [12]) (by kernel_rfl) (by simp) ?_
  refine AllReadyH.cons (o := { dst := Option.some 35, op := Go.Op.call { callee := Go.Callee.value (Go.Operand.func 53), args := #[Go.Operand.tmp 32, Go.Operand.tmp 34], argTypes := #[37, 34] }, type := 4, pos := "ref.go:180", after := #[{ on := 9, ground := Go.Ground.data }, { on := 11, ground := Go.Ground.data }, { on := 11, ground := Go.Ground.chain }, { on := 8, ground := Go.Ground.guard }], guard := Option.some (8, Bool.false) }) rfl (fun K hK => ?_) AllReadyH.nil
  go_simp
  go_wp2_with (first | (go_at_call 53; have hh := G1; clear G1; refine (has_1 d _ x va fa ia vc fc ic _ _ (cells_at (heap_alloc_new _ _) 0) HD.out).mono ?_; rintro e w2 ⟨rfl, hb2⟩; have HT1 := hid (after (after HT0.out (below1 _ _) HT0.out.size) hb2.out (after HT0.out (below1 _ _) HT0.out.size).size); clear hb2) | (go_at_call 54; refine (reads_g ⟨op, d, a, b, tt, el, f, nn, l, c, sg, xs, ms⟩ ao mo ac mc _ (HXS.out _ (after HB1.out HT1.out HB1.out.size)) HL.out).mono ?_; rintro e w3 ⟨v3, rfl, hi3, hb3⟩; obtain ⟨A3, c3, rfl, hA3⟩ := hi3.out; have HA3 := hid hA3; clear hA3 hi3; have HT2 := hid (after HT1.out hb3.out HT1.out.size); clear hb3) | (go_at_call 53; refine (has_g (rdsF ⟨op, d, a, b, tt, el, f, nn, l, c, sg, xs, ms⟩) A3 c3 x va fa ia vc fc ic true _ HA3.out HR.out).mono ?_; rintro e w4 ⟨rfl, hb4⟩; have HT3 := hid (after HT2.out hb4.out HT2.out.size); clear hb4))
  refine hK.out _ _ ?_ (fun hHeld12 => ?_)
  · (try dsimp only) <;> (first | exact HKp.out _ HT3.out | exact HKp.out _ HT2.out | exact HKp.out _ HT1.out | exact HKp.out _ HT0.out | exact HKp.out _ (after HT0.out (below1 _ _) HT0.out.size))
  clear hK K hHeld9
  try simp only [Act.put, List.setIfInBounds_toArray, List.set_cons_zero, List.set_cons_succ]
  refine wpAnyH_take (i := 13) (oi := { dst := Option.some 36, op := Go.Op.unOp Go.UnOp.not 4 (Go.Operand.tmp 35), type := 4, pos := "ref.go:180", after := #[{ on := 12, ground := Go.Ground.data }, { on := 8, ground := Go.Ground.guard }], guard := Option.some (8, Bool.false) }) (v := ?_) rfl (by kernel_rfl) (by kernel_rfl) (by kernel_rfl) (fun _ _ _ h => h) (Or.inl ⟨by rfl, ?_⟩) (by assumption) ?_
  rotate_left
  · intro w5x hSwx
    try dsimp only at hSwx
    go_simp
    try with_reducible rfl
  try simp only [Act.put, List.setIfInBounds_toArray, List.set_cons_zero, List.set_cons_succ]
  refine wpAnyH_take (i := 14) (oi := { dst := Option.some 37, op := Go.Op.pick (Go.Operand.tmp 31) (Go.Operand.const (Go.Value.bool Bool.true)) (Go.Operand.tmp 36), type := 4, pos := "ref.go:180", after := #[{ on := 8, ground := Go.Ground.data }, { on := 13, ground := Go.Ground.data }], guard := Option.none }) (v := ?_) rfl (by kernel_rfl) (by kernel_rfl) (by kernel_rfl) (fun _ _ _ h => h) (Or.inl ⟨by rfl, ?_⟩) (by assumption) ?_
  rotate_left
  · intro w5x hSwx
    try dsimp only at hSwx
    go_simp
    try with_reducible rfl
  try simp only [Act.put, List.setIfInBounds_toArray, List.set_cons_zero, List.set_cons_succ]
  refine wpAnyH_done (by kernel_rfl) ?_ _
  have hy := (HKp.out _ HT3.out).2.1
  have hx := (HKp.out _ HT3.out).2.2.1
  have hz := (HKp.out _ HT3.out).2.2.2
  have HF := (HKp.out _ HT3.out).1
  clear hx1
  rcases wr_cases HW.out with rfl | rfl | rfl | rfl | rfl | rfl | rfl | rfl | rfl | rfl | rfl
  · have hdi : inN x.vs.length d = true := HD.out
    obtain ⟨kd, pd, nd, rfl, hvd, htd⟩ := inN_get hdi
    obtain ⟨bv, ov, rfl, cd1, cd2, kdl⟩ := kind_cells HC.out hvd
    have Hd1 := hid cd1
    have ed1 := cell_keep HF.out (cell_lt cd1) cd1
    have kd0 : (0 : Int) ≤ (kd : Int) := by omega
    have kd1 : (kd : Int) < (x.vs.length : Int) := by omega
    have HVd := hid (And.intro hdi htd)
    clear hdi htd hvd cd2 kdl cd1
    have kv : (x.vs.length : Int) ≤ 9223372036854775807 := by have := HC.out.1; omega
    cases pd
    all_goals
      go_wp2_with (first
        | (go_at_call 40; refine (one_i _ _ _).mono ?_; rintro e w' ⟨rfl, rfl⟩))
      all_goals go_ret
      all_goals exact ⟨by rw [HG.out]; simp [jF, numF, HVd.out.1, HVd.out.2], HF⟩
  · have hdi : inN x.vs.length d = true := HD.out
    obtain ⟨kd, pd, nd, rfl, hvd, htd⟩ := inN_get hdi
    obtain ⟨bv, ov, rfl, cd1, cd2, kdl⟩ := kind_cells HC.out hvd
    have Hd1 := hid cd1
    have ed1 := cell_keep HF.out (cell_lt cd1) cd1
    have kd0 : (0 : Int) ≤ (kd : Int) := by omega
    have kd1 : (kd : Int) < (x.vs.length : Int) := by omega
    have HVd := hid (And.intro hdi htd)
    clear hdi htd hvd cd2 kdl cd1
    have kv : (x.vs.length : Int) ≤ 9223372036854775807 := by have := HC.out.1; omega
    cases pd
    all_goals
      go_wp2_with (first
        | (go_at_call 40; refine (one_i _ _ _).mono ?_; rintro e w' ⟨rfl, rfl⟩))
      all_goals go_ret
      all_goals exact ⟨by rw [HG.out]; simp [jF, nullF, HVd.out.1, HVd.out.2], HF⟩
  · have hra := HR.out
    simp only [rdsF, rd1, rd2, rdL, rd2L] at hra
    simp at hra
    have hdi : inN x.vs.length d = true := HD.out
    obtain ⟨kd, pd, nd, rfl, hvd, htd⟩ := inN_get hdi
    have hai : inN x.vs.length a = true := hra
    obtain ⟨ka, pa, na, rfl, hva, hta⟩ := inN_get hai
    obtain ⟨bv, ov, rfl, cd1, cd2, kdl⟩ := kind_cells HC.out hvd
    have Hd1 := hid cd1
    have ed1 := cell_keep HF.out (cell_lt cd1) cd1
    have kd0 : (0 : Int) ≤ (kd : Int) := by omega
    have kd1 : (kd : Int) < (x.vs.length : Int) := by omega
    have HVd := hid (And.intro hdi htd)
    clear hdi htd hvd cd2 kdl cd1
    obtain ⟨ca1, ca2, kal⟩ := kind_at HC.out hva
    have Ha1 := hid ca1
    have ea1 := cell_keep HF.out (cell_lt ca1) ca1
    have ka0 : (0 : Int) ≤ (ka : Int) := by omega
    have ka1 : (ka : Int) < (x.vs.length : Int) := by omega
    have HVa := hid (And.intro hai hta)
    clear hai hta hva ca2 kal ca1
    clear hra
    have kv : (x.vs.length : Int) ≤ 9223372036854775807 := by have := HC.out.1; omega
    cases pd <;> cases pa
    all_goals
      go_wp2_with (first
        | (go_at_call 40; refine (one_i _ _ _).mono ?_; rintro e w' ⟨rfl, rfl⟩))
      all_goals go_ret
      all_goals exact ⟨by rw [HG.out]; simp [jF, numsF, HVd.out.1, HVd.out.2, HVa.out.1, HVa.out.2], HF⟩
  · have hra := HR.out
    simp only [rdsF, rd1, rd2, rdL, rd2L] at hra
    simp at hra
    have hdi : inN x.vs.length d = true := HD.out
    obtain ⟨kd, pd, nd, rfl, hvd, htd⟩ := inN_get hdi
    have hai : inN x.vs.length a = true := hra.1
    obtain ⟨ka, pa, na, rfl, hva, hta⟩ := inN_get hai
    have hbi : inN x.vs.length b = true := hra.2
    obtain ⟨kb, pb, nb, rfl, hvb, htb⟩ := inN_get hbi
    obtain ⟨bv, ov, rfl, cd1, cd2, kdl⟩ := kind_cells HC.out hvd
    have Hd1 := hid cd1
    have ed1 := cell_keep HF.out (cell_lt cd1) cd1
    have kd0 : (0 : Int) ≤ (kd : Int) := by omega
    have kd1 : (kd : Int) < (x.vs.length : Int) := by omega
    have HVd := hid (And.intro hdi htd)
    clear hdi htd hvd cd2 kdl cd1
    obtain ⟨ca1, ca2, kal⟩ := kind_at HC.out hva
    have Ha1 := hid ca1
    have ea1 := cell_keep HF.out (cell_lt ca1) ca1
    have ka0 : (0 : Int) ≤ (ka : Int) := by omega
    have ka1 : (ka : Int) < (x.vs.length : Int) := by omega
    have HVa := hid (And.intro hai hta)
    clear hai hta hva ca2 kal ca1
    obtain ⟨cb1, cb2, kbl⟩ := kind_at HC.out hvb
    have Hb1 := hid cb1
    have eb1 := cell_keep HF.out (cell_lt cb1) cb1
    have kb0 : (0 : Int) ≤ (kb : Int) := by omega
    have kb1 : (kb : Int) < (x.vs.length : Int) := by omega
    have HVb := hid (And.intro hbi htb)
    clear hbi htb hvb cb2 kbl cb1
    clear hra
    have kv : (x.vs.length : Int) ≤ 9223372036854775807 := by have := HC.out.1; omega
    obtain ⟨q, hq⟩ : ∃ q, sgF sg = q := ⟨_, rfl⟩
    have HQ := hid hq
    clear hq
    cases pd <;> cases pa <;> cases pb <;> cases q
    all_goals
      go_wp2_with (first
        | (go_at_call 55; refine (rsign_i _ _ _ HQ.out).mono ?_; rintro e w5 ⟨rfl, hb5⟩; have HF5 := hid (after HF.out hb5.out HF.out.size))
        | (go_at_call 40; refine (one_i _ _ _).mono ?_; rintro e w' ⟨rfl, rfl⟩))
      all_goals go_ret
      all_goals exact ⟨by rw [HG.out]; simp [jF, numsF, HQ.out, HVd.out.1, HVd.out.2, HVa.out.1, HVa.out.2, HVb.out.1, HVb.out.2], by first | exact HF5 | exact HF⟩
  · have hdi : inN x.vs.length d = true := HD.out
    obtain ⟨kd, pd, nd, rfl, hvd, htd⟩ := inN_get hdi
    obtain ⟨bv, ov, rfl, cd1, cd2, kdl⟩ := kind_cells HC.out hvd
    have Hd1 := hid cd1
    have ed1 := cell_keep HF.out (cell_lt cd1) cd1
    have kd0 : (0 : Int) ≤ (kd : Int) := by omega
    have kd1 : (kd : Int) < (x.vs.length : Int) := by omega
    have HVd := hid (And.intro hdi htd)
    clear hdi htd hvd cd2 kdl cd1
    have kv : (x.vs.length : Int) ≤ 9223372036854775807 := by have := HC.out.1; omega
    cases pd
    all_goals
      go_wp2_with (first
        | (go_at_call 40; refine (one_i _ _ _).mono ?_; rintro e w' ⟨rfl, rfl⟩))
      all_goals go_ret
      all_goals exact ⟨by rw [HG.out]; simp [jF, numF, HVd.out.1, HVd.out.2], HF⟩
  · have hz0 := hz 0
    have hz1 := hz 1
    go_wp2_with (first
      | (go_at_call 56; refine (HH.out (by decide) _ HF.out).mono ?_; rintro e w5 ⟨rfl, hb5⟩; have HF5 := hid (after HF.out hb5.out HF.out.size)))
    go_ret
    exact ⟨rfl, HF5⟩
  · have hra := HR.out
    simp only [rdsF, rd1, rd2, rdL, rd2L] at hra
    simp at hra
    have hdi : inN x.vs.length d = true := HD.out
    obtain ⟨kd, pd, nd, rfl, hvd, htd⟩ := inN_get hdi
    have hai : inN x.vs.length a = true := hra
    obtain ⟨ka, pa, na, rfl, hva, hta⟩ := inN_get hai
    obtain ⟨bv, ov, rfl, cd1, cd2, kdl⟩ := kind_cells HC.out hvd
    have Hd1 := hid cd1
    have ed1 := cell_keep HF.out (cell_lt cd1) cd1
    have Hd2 := hid cd2
    have ed2 := cell_keep HF.out (cell_lt cd2) cd2
    have kd0 : (0 : Int) ≤ (kd : Int) := by omega
    have kd1 : (kd : Int) < (x.vs.length : Int) := by omega
    have HVd := hid (And.intro hdi htd)
    clear hdi htd hvd cd2 kdl
    obtain ⟨ca1, ca2, kal⟩ := kind_at HC.out hva
    have Ha1 := hid ca1
    have ea1 := cell_keep HF.out (cell_lt ca1) ca1
    have Ha2 := hid ca2
    have ea2 := cell_keep HF.out (cell_lt ca2) ca2
    have ka0 : (0 : Int) ≤ (ka : Int) := by omega
    have ka1 : (ka : Int) < (x.vs.length : Int) := by omega
    have HVa := hid (And.intro hai hta)
    clear hai hta hva ca2 kal
    clear hra
    have kv : (x.vs.length : Int) ≤ 9223372036854775807 := by have := HC.out.1; omega
    obtain ⟨q, hq⟩ : ∃ q, (na.toList == nd.toList) = q := ⟨_, rfl⟩
    have hq2 : (nd.toList == na.toList) = q := by rw [← hq]; exact Bool.beq_comm
    have HQ := hid hq2
    clear hq2
    cases pd <;> cases pa <;> cases q
    all_goals
      go_wp2
      have hr := fun W (hb : Below w4.heap.size w4 W) => HKp.out W (after HT3.out hb HT3.out.size)
      have KP := hid (fun W (hb : Below w4.heap.size w4 W) => And.intro (hr W hb).1 (And.intro (hr W hb).2.1 (And.intro (hr W hb).2.2.1 (And.intro (hr W hb).2.2.2 (And.intro (cell_same (o := ov + kd * 3) (hr W hb).1.out (cell_lt Hd1.out)) (And.intro (cell_keep (hr W hb).1.out (cell_lt Hd2.out) Hd2.out) (And.intro (cell_same (o := ov + ka * 3) (hr W hb).1.out (cell_lt Ha1.out)) (cell_keep (hr W hb).1.out (cell_lt Ha2.out) Ha2.out))))))))
      have HD4 := hid (below_drew1 w4)
      clear hr
      first
        | refine wp_region_held_drew (S := fun W => Hid (Below w.heap.size w W) ∧ (∀ i, W.cell? ⟨w.heap.size + 1, i, none⟩ = (CoV x (some ⟨bv, ov, none⟩) vc fa fc ia ic)[i]?) ∧ (∀ i, W.cell? ⟨w.heap.size + 1 + 1, i, none⟩ = (InV ⟨9, kd, ka, b, tt, el, f, nn, l, c, sg, xs, ms⟩ ao ac mo mc)[i]?) ∧ (∀ i, W.cell? ⟨w.heap.size, i, none⟩ = (#[.slice sa n sc, .slice ca m cc])[i]?) ∧ W.cell? ⟨bv, ov + kd * 3, none⟩ = w.cell? ⟨bv, ov + kd * 3, none⟩ ∧ W.cell? ⟨bv, ov + kd * 3 + 1, none⟩ = some (.string nd) ∧ W.cell? ⟨bv, ov + ka * 3, none⟩ = w.cell? ⟨bv, ov + ka * 3, none⟩ ∧ W.cell? ⟨bv, ov + ka * 3 + 1, none⟩ = some (.string na)) (by kernel_rfl) ?_ (fun hHeld0 => ?_)
          · (try dsimp only) <;> (exact KP.out _ HD4.out)
          refine wpAnyH_take (i := 0) (oi := { dst := Option.some 141, op := Go.Op.fieldAddr 37 (Go.Operand.tmp 4) 2, type := 0, pos := "ref.go:201", after := #[], guard := Option.none }) (v := ?_) rfl (by kernel_rfl) (by kernel_rfl) (by kernel_rfl) (fun _ _ _ h => h) (Or.inl ⟨by rfl, ?_⟩) (by assumption) ?_
          rotate_left
          · intro w5x hSwx
            try dsimp only at hSwx
            go_simp
            try with_reducible rfl
          try simp only [Act.put, List.setIfInBounds_toArray, List.set_cons_zero, List.set_cons_succ]
          refine wpAnyH_take (i := 1) (oi := { dst := Option.some 142, op := Go.Op.load 29 (Go.Operand.tmp 141), type := 29, pos := "ref.go:201", after := #[{ on := 0, ground := Go.Ground.data }], guard := Option.none }) (v := ?_) rfl (by kernel_rfl) (by kernel_rfl) (by kernel_rfl) (fun _ _ _ h => h) (Or.inl ⟨by rfl, ?_⟩) (by assumption) ?_
          rotate_left
          · intro w5x hSwx
            try dsimp only at hSwx
            go_simp
            try with_reducible rfl
          try simp only [Act.put, List.setIfInBounds_toArray, List.set_cons_zero, List.set_cons_succ]
          refine wpAnyH_take (i := 2) (oi := { dst := Option.some 143, op := Go.Op.fieldAddr 49 (Go.Operand.tmp 5) 2, type := 0, pos := "ref.go:201", after := #[], guard := Option.none }) (v := ?_) rfl (by kernel_rfl) (by kernel_rfl) (by kernel_rfl) (fun _ _ _ h => h) (Or.inl ⟨by rfl, ?_⟩) (by assumption) ?_
          rotate_left
          · intro w5x hSwx
            try dsimp only at hSwx
            go_simp
            try with_reducible rfl
          try simp only [Act.put, List.setIfInBounds_toArray, List.set_cons_zero, List.set_cons_succ]
          refine wpAnyH_take (i := 3) (oi := { dst := Option.some 144, op := Go.Op.load 3 (Go.Operand.tmp 143), type := 3, pos := "ref.go:201", after := #[{ on := 2, ground := Go.Ground.data }], guard := Option.none }) (v := ?_) rfl (by kernel_rfl) (by kernel_rfl) (by kernel_rfl) (fun _ _ _ h => h) (Or.inl ⟨by rfl, ?_⟩) (by assumption) ?_
          rotate_left
          · intro w5x hSwx
            try dsimp only at hSwx
            go_simp
            try with_reducible rfl
          try simp only [Act.put, List.setIfInBounds_toArray, List.set_cons_zero, List.set_cons_succ]
          refine wpAnyH_take (i := 4) (oi := { dst := Option.some 145, op := Go.Op.indexAddr 29 (Go.Operand.tmp 142) (Go.Operand.tmp 144), type := 0, pos := "ref.go:201", after := #[{ on := 1, ground := Go.Ground.data }, { on := 3, ground := Go.Ground.data }], guard := Option.none }) (v := ?_) rfl (by kernel_rfl) (by kernel_rfl) (by kernel_rfl) (fun _ _ _ h => h) (Or.inl ⟨by rfl, ?_⟩) (by assumption) ?_
          rotate_left
          · intro w5x hSwx
            try dsimp only at hSwx
            go_simp
            try with_reducible rfl
          try simp only [Act.put, List.setIfInBounds_toArray, List.set_cons_zero, List.set_cons_succ]
          refine wpAnyH_take (i := 5) (oi := { dst := Option.some 146, op := Go.Op.fieldAddr 33 (Go.Operand.tmp 145) 0, type := 0, pos := "ref.go:201", after := #[{ on := 4, ground := Go.Ground.data }], guard := Option.none }) (v := ?_) rfl (by kernel_rfl) (by kernel_rfl) (by kernel_rfl) (fun _ _ _ h => h) (Or.inl ⟨by rfl, ?_⟩) (by assumption) ?_
          rotate_left
          · intro w5x hSwx
            try dsimp only at hSwx
            go_simp
            try with_reducible rfl
          try simp only [Act.put, List.setIfInBounds_toArray, List.set_cons_zero, List.set_cons_succ]
          refine wpAnyH_take (i := 6) (oi := { dst := Option.some 147, op := Go.Op.fieldAddr 31 (Go.Operand.tmp 146) 0, type := 0, pos := "ref.go:201", after := #[{ on := 5, ground := Go.Ground.data }], guard := Option.none }) (v := ?_) rfl (by kernel_rfl) (by kernel_rfl) (by kernel_rfl) (fun _ _ _ h => h) (Or.inl ⟨by rfl, ?_⟩) (by assumption) ?_
          rotate_left
          · intro w5x hSwx
            try dsimp only at hSwx
            go_simp
            try with_reducible rfl
          try simp only [Act.put, List.setIfInBounds_toArray, List.set_cons_zero, List.set_cons_succ]
          refine wpAnyH_take (i := 7) (oi := { dst := Option.some 148, op := Go.Op.load 4 (Go.Operand.tmp 147), type := 4, pos := "ref.go:201", after := #[{ on := 6, ground := Go.Ground.data }], guard := Option.none }) (v := ?_) rfl (by kernel_rfl) (by kernel_rfl) (by kernel_rfl) (fun _ _ _ h => h) (Or.inl ⟨by rfl, ?_⟩) (by assumption) ?_
          rotate_left
          · intro w5x hSwx
            try dsimp only at hSwx
            go_simp
            try with_reducible rfl
          try simp only [Act.put, List.setIfInBounds_toArray, List.set_cons_zero, List.set_cons_succ]
          refine wpAnyH_take (i := 8) (oi := { dst := Option.some 149, op := Go.Op.unOp Go.UnOp.not 4 (Go.Operand.tmp 148), type := 4, pos := "ref.go:201", after := #[{ on := 7, ground := Go.Ground.data }], guard := Option.none }) (v := ?_) rfl (by kernel_rfl) (by kernel_rfl) (by kernel_rfl) (fun _ _ _ h => h) (Or.inl ⟨by rfl, ?_⟩) (by assumption) ?_
          rotate_left
          · intro w5x hSwx
            try dsimp only at hSwx
            go_simp
            try with_reducible rfl
          try simp only [Act.put, List.setIfInBounds_toArray, List.set_cons_zero, List.set_cons_succ]
          refine wpAnyH_take (i := 9) (oi := { dst := Option.some 150, op := Go.Op.move (Go.Operand.tmp 149), type := 4, pos := "ref.go:201", after := #[{ on := 8, ground := Go.Ground.data }], guard := Option.none }) (v := ?_) rfl (by kernel_rfl) (by kernel_rfl) (by kernel_rfl) (fun _ _ _ h => h) (Or.inl ⟨by rfl, ?_⟩) (by assumption) ?_
          rotate_left
          · intro w5x hSwx
            try dsimp only at hSwx
            go_simp
            try with_reducible rfl
          try simp only [Act.put, List.setIfInBounds_toArray, List.set_cons_zero, List.set_cons_succ]
          refine wpAnyH_take (i := 10) (oi := { dst := Option.some 151, op := Go.Op.fieldAddr 37 (Go.Operand.tmp 4) 2, type := 0, pos := "ref.go:201", after := #[{ on := 9, ground := Go.Ground.guard }], guard := Option.some (9, Bool.false) }) (v := undef) rfl (by kernel_rfl) (by kernel_rfl) (by kernel_rfl) (fun _ _ _ h => h) (Or.inr ⟨by rfl, rfl⟩) (by assumption) ?_
          try simp only [Act.put, List.setIfInBounds_toArray, List.set_cons_zero, List.set_cons_succ]
          refine wpAnyH_take (i := 11) (oi := { dst := Option.some 152, op := Go.Op.load 29 (Go.Operand.tmp 151), type := 29, pos := "ref.go:201", after := #[{ on := 10, ground := Go.Ground.data }, { on := 9, ground := Go.Ground.guard }], guard := Option.some (9, Bool.false) }) (v := undef) rfl (by kernel_rfl) (by kernel_rfl) (by kernel_rfl) (fun _ _ _ h => h) (Or.inr ⟨by rfl, rfl⟩) (by assumption) ?_
          try simp only [Act.put, List.setIfInBounds_toArray, List.set_cons_zero, List.set_cons_succ]
          refine wpAnyH_take (i := 12) (oi := { dst := Option.some 153, op := Go.Op.fieldAddr 49 (Go.Operand.tmp 5) 2, type := 0, pos := "ref.go:201", after := #[{ on := 9, ground := Go.Ground.guard }], guard := Option.some (9, Bool.false) }) (v := undef) rfl (by kernel_rfl) (by kernel_rfl) (by kernel_rfl) (fun _ _ _ h => h) (Or.inr ⟨by rfl, rfl⟩) (by assumption) ?_
          try simp only [Act.put, List.setIfInBounds_toArray, List.set_cons_zero, List.set_cons_succ]
          refine wpAnyH_take (i := 13) (oi := { dst := Option.some 154, op := Go.Op.load 3 (Go.Operand.tmp 153), type := 3, pos := "ref.go:201", after := #[{ on := 12, ground := Go.Ground.data }, { on := 9, ground := Go.Ground.guard }], guard := Option.some (9, Bool.false) }) (v := undef) rfl (by kernel_rfl) (by kernel_rfl) (by kernel_rfl) (fun _ _ _ h => h) (Or.inr ⟨by rfl, rfl⟩) (by assumption) ?_
          try simp only [Act.put, List.setIfInBounds_toArray, List.set_cons_zero, List.set_cons_succ]
          refine wpAnyH_take (i := 14) (oi := { dst := Option.some 155, op := Go.Op.indexAddr 29 (Go.Operand.tmp 152) (Go.Operand.tmp 154), type := 0, pos := "ref.go:201", after := #[{ on := 11, ground := Go.Ground.data }, { on := 13, ground := Go.Ground.data }, { on := 9, ground := Go.Ground.guard }], guard := Option.some (9, Bool.false) }) (v := undef) rfl (by kernel_rfl) (by kernel_rfl) (by kernel_rfl) (fun _ _ _ h => h) (Or.inr ⟨by rfl, rfl⟩) (by assumption) ?_
          try simp only [Act.put, List.setIfInBounds_toArray, List.set_cons_zero, List.set_cons_succ]
          refine wpAnyH_take (i := 15) (oi := { dst := Option.some 156, op := Go.Op.fieldAddr 33 (Go.Operand.tmp 155) 0, type := 0, pos := "ref.go:201", after := #[{ on := 14, ground := Go.Ground.data }, { on := 9, ground := Go.Ground.guard }], guard := Option.some (9, Bool.false) }) (v := undef) rfl (by kernel_rfl) (by kernel_rfl) (by kernel_rfl) (fun _ _ _ h => h) (Or.inr ⟨by rfl, rfl⟩) (by assumption) ?_
          try simp only [Act.put, List.setIfInBounds_toArray, List.set_cons_zero, List.set_cons_succ]
          refine wpAnyH_take (i := 16) (oi := { dst := Option.some 157, op := Go.Op.load 31 (Go.Operand.tmp 156), type := 31, pos := "ref.go:201", after := #[{ on := 15, ground := Go.Ground.data }, { on := 9, ground := Go.Ground.guard }], guard := Option.some (9, Bool.false) }) (v := undef) rfl (by kernel_rfl) (by kernel_rfl) (by kernel_rfl) (fun _ _ _ h => h) (Or.inr ⟨by rfl, rfl⟩) (by assumption) ?_
          try simp only [Act.put, List.setIfInBounds_toArray, List.set_cons_zero, List.set_cons_succ]
          refine wpAnyH_take (i := 17) (oi := { dst := Option.some 158, op := Go.Op.fieldAddr 37 (Go.Operand.tmp 4) 2, type := 0, pos := "ref.go:201", after := #[{ on := 9, ground := Go.Ground.guard }], guard := Option.some (9, Bool.false) }) (v := undef) rfl (by kernel_rfl) (by kernel_rfl) (by kernel_rfl) (fun _ _ _ h => h) (Or.inr ⟨by rfl, rfl⟩) (by assumption) ?_
          try simp only [Act.put, List.setIfInBounds_toArray, List.set_cons_zero, List.set_cons_succ]
          refine wpAnyH_take (i := 18) (oi := { dst := Option.some 159, op := Go.Op.load 29 (Go.Operand.tmp 158), type := 29, pos := "ref.go:201", after := #[{ on := 17, ground := Go.Ground.data }, { on := 9, ground := Go.Ground.guard }], guard := Option.some (9, Bool.false) }) (v := undef) rfl (by kernel_rfl) (by kernel_rfl) (by kernel_rfl) (fun _ _ _ h => h) (Or.inr ⟨by rfl, rfl⟩) (by assumption) ?_
          try simp only [Act.put, List.setIfInBounds_toArray, List.set_cons_zero, List.set_cons_succ]
          refine wpAnyH_take (i := 19) (oi := { dst := Option.some 160, op := Go.Op.move (Go.Operand.tmp 7), type := 3, pos := "ref.go:201", after := #[{ on := 9, ground := Go.Ground.guard }], guard := Option.some (9, Bool.false) }) (v := undef) rfl (by kernel_rfl) (by kernel_rfl) (by kernel_rfl) (fun _ _ _ h => h) (Or.inr ⟨by rfl, rfl⟩) (by assumption) ?_
          try simp only [Act.put, List.setIfInBounds_toArray, List.set_cons_zero, List.set_cons_succ]
          refine wpAnyH_take (i := 20) (oi := { dst := Option.some 161, op := Go.Op.indexAddr 29 (Go.Operand.tmp 159) (Go.Operand.tmp 160), type := 0, pos := "ref.go:201", after := #[{ on := 18, ground := Go.Ground.data }, { on := 19, ground := Go.Ground.data }, { on := 9, ground := Go.Ground.guard }], guard := Option.some (9, Bool.false) }) (v := undef) rfl (by kernel_rfl) (by kernel_rfl) (by kernel_rfl) (fun _ _ _ h => h) (Or.inr ⟨by rfl, rfl⟩) (by assumption) ?_
          try simp only [Act.put, List.setIfInBounds_toArray, List.set_cons_zero, List.set_cons_succ]
          refine wpAnyH_take (i := 21) (oi := { dst := Option.some 162, op := Go.Op.fieldAddr 33 (Go.Operand.tmp 161) 0, type := 0, pos := "ref.go:201", after := #[{ on := 20, ground := Go.Ground.data }, { on := 9, ground := Go.Ground.guard }], guard := Option.some (9, Bool.false) }) (v := undef) rfl (by kernel_rfl) (by kernel_rfl) (by kernel_rfl) (fun _ _ _ h => h) (Or.inr ⟨by rfl, rfl⟩) (by assumption) ?_
          try simp only [Act.put, List.setIfInBounds_toArray, List.set_cons_zero, List.set_cons_succ]
          refine wpAnyH_take (i := 22) (oi := { dst := Option.some 163, op := Go.Op.load 31 (Go.Operand.tmp 162), type := 31, pos := "ref.go:201", after := #[{ on := 21, ground := Go.Ground.data }, { on := 9, ground := Go.Ground.guard }], guard := Option.some (9, Bool.false) }) (v := undef) rfl (by kernel_rfl) (by kernel_rfl) (by kernel_rfl) (fun _ _ _ h => h) (Or.inr ⟨by rfl, rfl⟩) (by assumption) ?_
          try simp only [Act.put, List.setIfInBounds_toArray, List.set_cons_zero, List.set_cons_succ]
          refine wpAnyH_take (i := 23) (oi := { dst := Option.some 164, op := Go.Op.binOp Go.BinOp.neq 31 (Go.Operand.tmp 157) (Go.Operand.tmp 163) 31, type := 4, pos := "ref.go:201", after := #[{ on := 16, ground := Go.Ground.data }, { on := 22, ground := Go.Ground.data }, { on := 9, ground := Go.Ground.guard }], guard := Option.some (9, Bool.false) }) (v := undef) rfl (by kernel_rfl) (by kernel_rfl) (by kernel_rfl) (fun _ _ _ h => h) (Or.inr ⟨by rfl, rfl⟩) (by assumption) ?_
          try simp only [Act.put, List.setIfInBounds_toArray, List.set_cons_zero, List.set_cons_succ]
          refine wpAnyH_take (i := 24) (oi := { dst := Option.some 165, op := Go.Op.pick (Go.Operand.tmp 150) (Go.Operand.const (Go.Value.bool Bool.true)) (Go.Operand.tmp 164), type := 4, pos := "ref.go:201", after := #[{ on := 9, ground := Go.Ground.data }, { on := 23, ground := Go.Ground.data }], guard := Option.none }) (v := ?_) rfl (by kernel_rfl) (by kernel_rfl) (by kernel_rfl) (fun _ _ _ h => h) (Or.inl ⟨by rfl, ?_⟩) (by assumption) ?_
          rotate_left
          · intro w5x hSwx
            try dsimp only at hSwx
            go_simp
            try with_reducible rfl
          try simp only [Act.put, List.setIfInBounds_toArray, List.set_cons_zero, List.set_cons_succ]
          refine wpAnyH_ready (rs := [25]) (by kernel_rfl) (by simp) ?_
          refine AllReadyH.cons (o := { dst := Option.some 166, op := Go.Op.call { callee := Go.Callee.value (Go.Operand.func 40), args := #[Go.Operand.tmp 165, Go.Operand.const (Go.Value.int Go.IntKind.i64 7)], argTypes := #[4, 41] }, type := 41, pos := "ref.go:201", after := #[{ on := 24, ground := Go.Ground.data }, { on := 9, ground := Go.Ground.chain }], guard := Option.none }) rfl (fun K hK => ?_) AllReadyH.nil
          go_simp
          go_wp2_with (first | (go_at_call 40; refine (one_i _ _ _).mono ?_; rintro e w' ⟨rfl, rfl⟩))
          refine hK.out _ _ ?_ (fun hHeld3 => ?_)
          · (try dsimp only) <;> (exact KP.out _ HD4.out)
          clear hK K hHeld0
          try simp only [Act.put, List.setIfInBounds_toArray, List.set_cons_zero, List.set_cons_succ]
          refine wpAnyH_take (i := 26) (oi := { dst := Option.some 6, op := Go.Op.assign (Go.Operand.tmp 166), type := 41, pos := "ref.go:201", after := #[{ on := 25, ground := Go.Ground.data }, { on := 25, ground := Go.Ground.chain }, { on := 0, ground := Go.Ground.phase }, { on := 1, ground := Go.Ground.phase }, { on := 2, ground := Go.Ground.phase }, { on := 3, ground := Go.Ground.phase }, { on := 4, ground := Go.Ground.phase }, { on := 5, ground := Go.Ground.phase }, { on := 6, ground := Go.Ground.phase }, { on := 7, ground := Go.Ground.phase }, { on := 8, ground := Go.Ground.phase }, { on := 9, ground := Go.Ground.phase }, { on := 10, ground := Go.Ground.phase }, { on := 11, ground := Go.Ground.phase }, { on := 12, ground := Go.Ground.phase }, { on := 13, ground := Go.Ground.phase }, { on := 14, ground := Go.Ground.phase }, { on := 15, ground := Go.Ground.phase }, { on := 16, ground := Go.Ground.phase }, { on := 17, ground := Go.Ground.phase }, { on := 18, ground := Go.Ground.phase }, { on := 19, ground := Go.Ground.phase }, { on := 20, ground := Go.Ground.phase }, { on := 21, ground := Go.Ground.phase }, { on := 22, ground := Go.Ground.phase }, { on := 23, ground := Go.Ground.phase }, { on := 24, ground := Go.Ground.phase }, { on := 25, ground := Go.Ground.phase }], guard := Option.none }) (v := ?_) rfl (by kernel_rfl) (by kernel_rfl) (by kernel_rfl) (fun _ _ _ h => h) (Or.inl ⟨by rfl, ?_⟩) (by assumption) ?_
          rotate_left
          · intro w5x hSwx
            try dsimp only at hSwx
            go_simp
            try with_reducible rfl
          try simp only [Act.put, List.setIfInBounds_toArray, List.set_cons_zero, List.set_cons_succ]
          refine wpAnyH_done (by kernel_rfl) ?_ _
        | refine wp_region_held_drew (S := fun W => Hid (Below w.heap.size w W) ∧ (∀ i, W.cell? ⟨w.heap.size + 1, i, none⟩ = (CoV x (some ⟨bv, ov, none⟩) vc fa fc ia ic)[i]?) ∧ (∀ i, W.cell? ⟨w.heap.size + 1 + 1, i, none⟩ = (InV ⟨9, kd, ka, b, tt, el, f, nn, l, c, sg, xs, ms⟩ ao ac mo mc)[i]?) ∧ (∀ i, W.cell? ⟨w.heap.size, i, none⟩ = (#[.slice sa n sc, .slice ca m cc])[i]?) ∧ W.cell? ⟨bv, ov + kd * 3, none⟩ = w.cell? ⟨bv, ov + kd * 3, none⟩ ∧ W.cell? ⟨bv, ov + kd * 3 + 1, none⟩ = some (.string nd) ∧ W.cell? ⟨bv, ov + ka * 3, none⟩ = w.cell? ⟨bv, ov + ka * 3, none⟩ ∧ W.cell? ⟨bv, ov + ka * 3 + 1, none⟩ = some (.string na)) (by kernel_rfl) ?_ (fun hHeld0 => ?_)
          · (try dsimp only) <;> (exact KP.out _ HD4.out)
          refine wpAnyH_take (i := 0) (oi := { dst := Option.some 141, op := Go.Op.fieldAddr 37 (Go.Operand.tmp 4) 2, type := 0, pos := "ref.go:201", after := #[], guard := Option.none }) (v := ?_) rfl (by kernel_rfl) (by kernel_rfl) (by kernel_rfl) (fun _ _ _ h => h) (Or.inl ⟨by rfl, ?_⟩) (by assumption) ?_
          rotate_left
          · intro w5x hSwx
            try dsimp only at hSwx
            go_simp
            try with_reducible rfl
          try simp only [Act.put, List.setIfInBounds_toArray, List.set_cons_zero, List.set_cons_succ]
          refine wpAnyH_take (i := 1) (oi := { dst := Option.some 142, op := Go.Op.load 29 (Go.Operand.tmp 141), type := 29, pos := "ref.go:201", after := #[{ on := 0, ground := Go.Ground.data }], guard := Option.none }) (v := ?_) rfl (by kernel_rfl) (by kernel_rfl) (by kernel_rfl) (fun _ _ _ h => h) (Or.inl ⟨by rfl, ?_⟩) (by assumption) ?_
          rotate_left
          · intro w5x hSwx
            try dsimp only at hSwx
            go_simp
            try with_reducible rfl
          try simp only [Act.put, List.setIfInBounds_toArray, List.set_cons_zero, List.set_cons_succ]
          refine wpAnyH_take (i := 2) (oi := { dst := Option.some 143, op := Go.Op.fieldAddr 49 (Go.Operand.tmp 5) 2, type := 0, pos := "ref.go:201", after := #[], guard := Option.none }) (v := ?_) rfl (by kernel_rfl) (by kernel_rfl) (by kernel_rfl) (fun _ _ _ h => h) (Or.inl ⟨by rfl, ?_⟩) (by assumption) ?_
          rotate_left
          · intro w5x hSwx
            try dsimp only at hSwx
            go_simp
            try with_reducible rfl
          try simp only [Act.put, List.setIfInBounds_toArray, List.set_cons_zero, List.set_cons_succ]
          refine wpAnyH_take (i := 3) (oi := { dst := Option.some 144, op := Go.Op.load 3 (Go.Operand.tmp 143), type := 3, pos := "ref.go:201", after := #[{ on := 2, ground := Go.Ground.data }], guard := Option.none }) (v := ?_) rfl (by kernel_rfl) (by kernel_rfl) (by kernel_rfl) (fun _ _ _ h => h) (Or.inl ⟨by rfl, ?_⟩) (by assumption) ?_
          rotate_left
          · intro w5x hSwx
            try dsimp only at hSwx
            go_simp
            try with_reducible rfl
          try simp only [Act.put, List.setIfInBounds_toArray, List.set_cons_zero, List.set_cons_succ]
          refine wpAnyH_take (i := 4) (oi := { dst := Option.some 145, op := Go.Op.indexAddr 29 (Go.Operand.tmp 142) (Go.Operand.tmp 144), type := 0, pos := "ref.go:201", after := #[{ on := 1, ground := Go.Ground.data }, { on := 3, ground := Go.Ground.data }], guard := Option.none }) (v := ?_) rfl (by kernel_rfl) (by kernel_rfl) (by kernel_rfl) (fun _ _ _ h => h) (Or.inl ⟨by rfl, ?_⟩) (by assumption) ?_
          rotate_left
          · intro w5x hSwx
            try dsimp only at hSwx
            go_simp
            try with_reducible rfl
          try simp only [Act.put, List.setIfInBounds_toArray, List.set_cons_zero, List.set_cons_succ]
          refine wpAnyH_take (i := 5) (oi := { dst := Option.some 146, op := Go.Op.fieldAddr 33 (Go.Operand.tmp 145) 0, type := 0, pos := "ref.go:201", after := #[{ on := 4, ground := Go.Ground.data }], guard := Option.none }) (v := ?_) rfl (by kernel_rfl) (by kernel_rfl) (by kernel_rfl) (fun _ _ _ h => h) (Or.inl ⟨by rfl, ?_⟩) (by assumption) ?_
          rotate_left
          · intro w5x hSwx
            try dsimp only at hSwx
            go_simp
            try with_reducible rfl
          try simp only [Act.put, List.setIfInBounds_toArray, List.set_cons_zero, List.set_cons_succ]
          refine wpAnyH_take (i := 6) (oi := { dst := Option.some 147, op := Go.Op.fieldAddr 31 (Go.Operand.tmp 146) 0, type := 0, pos := "ref.go:201", after := #[{ on := 5, ground := Go.Ground.data }], guard := Option.none }) (v := ?_) rfl (by kernel_rfl) (by kernel_rfl) (by kernel_rfl) (fun _ _ _ h => h) (Or.inl ⟨by rfl, ?_⟩) (by assumption) ?_
          rotate_left
          · intro w5x hSwx
            try dsimp only at hSwx
            go_simp
            try with_reducible rfl
          try simp only [Act.put, List.setIfInBounds_toArray, List.set_cons_zero, List.set_cons_succ]
          refine wpAnyH_take (i := 7) (oi := { dst := Option.some 148, op := Go.Op.load 4 (Go.Operand.tmp 147), type := 4, pos := "ref.go:201", after := #[{ on := 6, ground := Go.Ground.data }], guard := Option.none }) (v := ?_) rfl (by kernel_rfl) (by kernel_rfl) (by kernel_rfl) (fun _ _ _ h => h) (Or.inl ⟨by rfl, ?_⟩) (by assumption) ?_
          rotate_left
          · intro w5x hSwx
            try dsimp only at hSwx
            go_simp
            try with_reducible rfl
          try simp only [Act.put, List.setIfInBounds_toArray, List.set_cons_zero, List.set_cons_succ]
          refine wpAnyH_take (i := 8) (oi := { dst := Option.some 149, op := Go.Op.unOp Go.UnOp.not 4 (Go.Operand.tmp 148), type := 4, pos := "ref.go:201", after := #[{ on := 7, ground := Go.Ground.data }], guard := Option.none }) (v := ?_) rfl (by kernel_rfl) (by kernel_rfl) (by kernel_rfl) (fun _ _ _ h => h) (Or.inl ⟨by rfl, ?_⟩) (by assumption) ?_
          rotate_left
          · intro w5x hSwx
            try dsimp only at hSwx
            go_simp
            try with_reducible rfl
          try simp only [Act.put, List.setIfInBounds_toArray, List.set_cons_zero, List.set_cons_succ]
          refine wpAnyH_take (i := 9) (oi := { dst := Option.some 150, op := Go.Op.move (Go.Operand.tmp 149), type := 4, pos := "ref.go:201", after := #[{ on := 8, ground := Go.Ground.data }], guard := Option.none }) (v := ?_) rfl (by kernel_rfl) (by kernel_rfl) (by kernel_rfl) (fun _ _ _ h => h) (Or.inl ⟨by rfl, ?_⟩) (by assumption) ?_
          rotate_left
          · intro w5x hSwx
            try dsimp only at hSwx
            go_simp
            try with_reducible rfl
          try simp only [Act.put, List.setIfInBounds_toArray, List.set_cons_zero, List.set_cons_succ]
          refine wpAnyH_take (i := 10) (oi := { dst := Option.some 151, op := Go.Op.fieldAddr 37 (Go.Operand.tmp 4) 2, type := 0, pos := "ref.go:201", after := #[{ on := 9, ground := Go.Ground.guard }], guard := Option.some (9, Bool.false) }) (v := ?_) rfl (by kernel_rfl) (by kernel_rfl) (by kernel_rfl) (fun _ _ _ h => h) (Or.inl ⟨by rfl, ?_⟩) (by assumption) ?_
          rotate_left
          · intro w5x hSwx
            try dsimp only at hSwx
            go_simp
            try with_reducible rfl
          try simp only [Act.put, List.setIfInBounds_toArray, List.set_cons_zero, List.set_cons_succ]
          refine wpAnyH_take (i := 11) (oi := { dst := Option.some 152, op := Go.Op.load 29 (Go.Operand.tmp 151), type := 29, pos := "ref.go:201", after := #[{ on := 10, ground := Go.Ground.data }, { on := 9, ground := Go.Ground.guard }], guard := Option.some (9, Bool.false) }) (v := ?_) rfl (by kernel_rfl) (by kernel_rfl) (by kernel_rfl) (fun _ _ _ h => h) (Or.inl ⟨by rfl, ?_⟩) (by assumption) ?_
          rotate_left
          · intro w5x hSwx
            try dsimp only at hSwx
            go_simp
            try with_reducible rfl
          try simp only [Act.put, List.setIfInBounds_toArray, List.set_cons_zero, List.set_cons_succ]
          refine wpAnyH_take (i := 12) (oi := { dst := Option.some 153, op := Go.Op.fieldAddr 49 (Go.Operand.tmp 5) 2, type := 0, pos := "ref.go:201", after := #[{ on := 9, ground := Go.Ground.guard }], guard := Option.some (9, Bool.false) }) (v := ?_) rfl (by kernel_rfl) (by kernel_rfl) (by kernel_rfl) (fun _ _ _ h => h) (Or.inl ⟨by rfl, ?_⟩) (by assumption) ?_
          rotate_left
          · intro w5x hSwx
            try dsimp only at hSwx
            go_simp
            try with_reducible rfl
          try simp only [Act.put, List.setIfInBounds_toArray, List.set_cons_zero, List.set_cons_succ]
          refine wpAnyH_take (i := 13) (oi := { dst := Option.some 154, op := Go.Op.load 3 (Go.Operand.tmp 153), type := 3, pos := "ref.go:201", after := #[{ on := 12, ground := Go.Ground.data }, { on := 9, ground := Go.Ground.guard }], guard := Option.some (9, Bool.false) }) (v := ?_) rfl (by kernel_rfl) (by kernel_rfl) (by kernel_rfl) (fun _ _ _ h => h) (Or.inl ⟨by rfl, ?_⟩) (by assumption) ?_
          rotate_left
          · intro w5x hSwx
            try dsimp only at hSwx
            go_simp
            try with_reducible rfl
          try simp only [Act.put, List.setIfInBounds_toArray, List.set_cons_zero, List.set_cons_succ]
          refine wpAnyH_take (i := 14) (oi := { dst := Option.some 155, op := Go.Op.indexAddr 29 (Go.Operand.tmp 152) (Go.Operand.tmp 154), type := 0, pos := "ref.go:201", after := #[{ on := 11, ground := Go.Ground.data }, { on := 13, ground := Go.Ground.data }, { on := 9, ground := Go.Ground.guard }], guard := Option.some (9, Bool.false) }) (v := ?_) rfl (by kernel_rfl) (by kernel_rfl) (by kernel_rfl) (fun _ _ _ h => h) (Or.inl ⟨by rfl, ?_⟩) (by assumption) ?_
          rotate_left
          · intro w5x hSwx
            try dsimp only at hSwx
            go_simp
            try with_reducible rfl
          try simp only [Act.put, List.setIfInBounds_toArray, List.set_cons_zero, List.set_cons_succ]
          refine wpAnyH_take (i := 15) (oi := { dst := Option.some 156, op := Go.Op.fieldAddr 33 (Go.Operand.tmp 155) 0, type := 0, pos := "ref.go:201", after := #[{ on := 14, ground := Go.Ground.data }, { on := 9, ground := Go.Ground.guard }], guard := Option.some (9, Bool.false) }) (v := ?_) rfl (by kernel_rfl) (by kernel_rfl) (by kernel_rfl) (fun _ _ _ h => h) (Or.inl ⟨by rfl, ?_⟩) (by assumption) ?_
          rotate_left
          · intro w5x hSwx
            try dsimp only at hSwx
            go_simp
            try with_reducible rfl
          try simp only [Act.put, List.setIfInBounds_toArray, List.set_cons_zero, List.set_cons_succ]
          refine wpAnyH_take (i := 16) (oi := { dst := Option.some 157, op := Go.Op.load 31 (Go.Operand.tmp 156), type := 31, pos := "ref.go:201", after := #[{ on := 15, ground := Go.Ground.data }, { on := 9, ground := Go.Ground.guard }], guard := Option.some (9, Bool.false) }) (v := ?_) rfl (by kernel_rfl) (by kernel_rfl) (by kernel_rfl) (fun _ _ _ h => h) (Or.inl ⟨by rfl, ?_⟩) (by assumption) ?_
          rotate_left
          · intro w5x hSwx
            try dsimp only at hSwx
            go_simp
            try with_reducible rfl
          try simp only [Act.put, List.setIfInBounds_toArray, List.set_cons_zero, List.set_cons_succ]
          refine wpAnyH_take (i := 17) (oi := { dst := Option.some 158, op := Go.Op.fieldAddr 37 (Go.Operand.tmp 4) 2, type := 0, pos := "ref.go:201", after := #[{ on := 9, ground := Go.Ground.guard }], guard := Option.some (9, Bool.false) }) (v := ?_) rfl (by kernel_rfl) (by kernel_rfl) (by kernel_rfl) (fun _ _ _ h => h) (Or.inl ⟨by rfl, ?_⟩) (by assumption) ?_
          rotate_left
          · intro w5x hSwx
            try dsimp only at hSwx
            go_simp
            try with_reducible rfl
          try simp only [Act.put, List.setIfInBounds_toArray, List.set_cons_zero, List.set_cons_succ]
          refine wpAnyH_take (i := 18) (oi := { dst := Option.some 159, op := Go.Op.load 29 (Go.Operand.tmp 158), type := 29, pos := "ref.go:201", after := #[{ on := 17, ground := Go.Ground.data }, { on := 9, ground := Go.Ground.guard }], guard := Option.some (9, Bool.false) }) (v := ?_) rfl (by kernel_rfl) (by kernel_rfl) (by kernel_rfl) (fun _ _ _ h => h) (Or.inl ⟨by rfl, ?_⟩) (by assumption) ?_
          rotate_left
          · intro w5x hSwx
            try dsimp only at hSwx
            go_simp
            try with_reducible rfl
          try simp only [Act.put, List.setIfInBounds_toArray, List.set_cons_zero, List.set_cons_succ]
          refine wpAnyH_take (i := 19) (oi := { dst := Option.some 160, op := Go.Op.move (Go.Operand.tmp 7), type := 3, pos := "ref.go:201", after := #[{ on := 9, ground := Go.Ground.guard }], guard := Option.some (9, Bool.false) }) (v := ?_) rfl (by kernel_rfl) (by kernel_rfl) (by kernel_rfl) (fun _ _ _ h => h) (Or.inl ⟨by rfl, ?_⟩) (by assumption) ?_
          rotate_left
          · intro w5x hSwx
            try dsimp only at hSwx
            go_simp
            try with_reducible rfl
          try simp only [Act.put, List.setIfInBounds_toArray, List.set_cons_zero, List.set_cons_succ]
          refine wpAnyH_take (i := 20) (oi := { dst := Option.some 161, op := Go.Op.indexAddr 29 (Go.Operand.tmp 159) (Go.Operand.tmp 160), type := 0, pos := "ref.go:201", after := #[{ on := 18, ground := Go.Ground.data }, { on := 19, ground := Go.Ground.data }, { on := 9, ground := Go.Ground.guard }], guard := Option.some (9, Bool.false) }) (v := ?_) rfl (by kernel_rfl) (by kernel_rfl) (by kernel_rfl) (fun _ _ _ h => h) (Or.inl ⟨by rfl, ?_⟩) (by assumption) ?_
          rotate_left
          · intro w5x hSwx
            try dsimp only at hSwx
            go_simp
            try with_reducible rfl
          try simp only [Act.put, List.setIfInBounds_toArray, List.set_cons_zero, List.set_cons_succ]
          refine wpAnyH_take (i := 21) (oi := { dst := Option.some 162, op := Go.Op.fieldAddr 33 (Go.Operand.tmp 161) 0, type := 0, pos := "ref.go:201", after := #[{ on := 20, ground := Go.Ground.data }, { on := 9, ground := Go.Ground.guard }], guard := Option.some (9, Bool.false) }) (v := ?_) rfl (by kernel_rfl) (by kernel_rfl) (by kernel_rfl) (fun _ _ _ h => h) (Or.inl ⟨by rfl, ?_⟩) (by assumption) ?_
          rotate_left
          · intro w5x hSwx
            try dsimp only at hSwx
            go_simp
            try with_reducible rfl
          try simp only [Act.put, List.setIfInBounds_toArray, List.set_cons_zero, List.set_cons_succ]
          refine wpAnyH_take (i := 22) (oi := { dst := Option.some 163, op := Go.Op.load 31 (Go.Operand.tmp 162), type := 31, pos := "ref.go:201", after := #[{ on := 21, ground := Go.Ground.data }, { on := 9, ground := Go.Ground.guard }], guard := Option.some (9, Bool.false) }) (v := ?_) rfl (by kernel_rfl) (by kernel_rfl) (by kernel_rfl) (fun _ _ _ h => h) (Or.inl ⟨by rfl, ?_⟩) (by assumption) ?_
          rotate_left
          · intro w5x hSwx
            try dsimp only at hSwx
            go_simp
            try with_reducible rfl
          try simp only [Act.put, List.setIfInBounds_toArray, List.set_cons_zero, List.set_cons_succ]
          refine wpAnyH_take (i := 23) (oi := { dst := Option.some 164, op := Go.Op.binOp Go.BinOp.neq 31 (Go.Operand.tmp 157) (Go.Operand.tmp 163) 31, type := 4, pos := "ref.go:201", after := #[{ on := 16, ground := Go.Ground.data }, { on := 22, ground := Go.Ground.data }, { on := 9, ground := Go.Ground.guard }], guard := Option.some (9, Bool.false) }) (v := ?_) rfl (by kernel_rfl) (by kernel_rfl) (by kernel_rfl) (fun _ _ _ h => h) (Or.inl ⟨by rfl, ?_⟩) (by assumption) ?_
          rotate_left
          · intro w5x hSwx
            try dsimp only at hSwx
            go_simp
            try with_reducible rfl
          try simp only [Act.put, List.setIfInBounds_toArray, List.set_cons_zero, List.set_cons_succ]
          refine wpAnyH_take (i := 24) (oi := { dst := Option.some 165, op := Go.Op.pick (Go.Operand.tmp 150) (Go.Operand.const (Go.Value.bool Bool.true)) (Go.Operand.tmp 164), type := 4, pos := "ref.go:201", after := #[{ on := 9, ground := Go.Ground.data }, { on := 23, ground := Go.Ground.data }], guard := Option.none }) (v := ?_) rfl (by kernel_rfl) (by kernel_rfl) (by kernel_rfl) (fun _ _ _ h => h) (Or.inl ⟨by rfl, ?_⟩) (by assumption) ?_
          rotate_left
          · intro w5x hSwx
            try dsimp only at hSwx
            go_simp
            try with_reducible rfl
          try simp only [Act.put, List.setIfInBounds_toArray, List.set_cons_zero, List.set_cons_succ]
          refine wpAnyH_ready (rs := [25]) (by kernel_rfl) (by simp) ?_
          refine AllReadyH.cons (o := { dst := Option.some 166, op := Go.Op.call { callee := Go.Callee.value (Go.Operand.func 40), args := #[Go.Operand.tmp 165, Go.Operand.const (Go.Value.int Go.IntKind.i64 7)], argTypes := #[4, 41] }, type := 41, pos := "ref.go:201", after := #[{ on := 24, ground := Go.Ground.data }, { on := 9, ground := Go.Ground.chain }], guard := Option.none }) rfl (fun K hK => ?_) AllReadyH.nil
          go_simp
          go_wp2_with (first | (go_at_call 40; refine (one_i _ _ _).mono ?_; rintro e w' ⟨rfl, rfl⟩))
          refine hK.out _ _ ?_ (fun hHeld3 => ?_)
          · (try dsimp only) <;> (exact KP.out _ HD4.out)
          clear hK K hHeld0
          try simp only [Act.put, List.setIfInBounds_toArray, List.set_cons_zero, List.set_cons_succ]
          refine wpAnyH_take (i := 26) (oi := { dst := Option.some 6, op := Go.Op.assign (Go.Operand.tmp 166), type := 41, pos := "ref.go:201", after := #[{ on := 25, ground := Go.Ground.data }, { on := 25, ground := Go.Ground.chain }, { on := 0, ground := Go.Ground.phase }, { on := 1, ground := Go.Ground.phase }, { on := 2, ground := Go.Ground.phase }, { on := 3, ground := Go.Ground.phase }, { on := 4, ground := Go.Ground.phase }, { on := 5, ground := Go.Ground.phase }, { on := 6, ground := Go.Ground.phase }, { on := 7, ground := Go.Ground.phase }, { on := 8, ground := Go.Ground.phase }, { on := 9, ground := Go.Ground.phase }, { on := 10, ground := Go.Ground.phase }, { on := 11, ground := Go.Ground.phase }, { on := 12, ground := Go.Ground.phase }, { on := 13, ground := Go.Ground.phase }, { on := 14, ground := Go.Ground.phase }, { on := 15, ground := Go.Ground.phase }, { on := 16, ground := Go.Ground.phase }, { on := 17, ground := Go.Ground.phase }, { on := 18, ground := Go.Ground.phase }, { on := 19, ground := Go.Ground.phase }, { on := 20, ground := Go.Ground.phase }, { on := 21, ground := Go.Ground.phase }, { on := 22, ground := Go.Ground.phase }, { on := 23, ground := Go.Ground.phase }, { on := 24, ground := Go.Ground.phase }, { on := 25, ground := Go.Ground.phase }], guard := Option.none }) (v := ?_) rfl (by kernel_rfl) (by kernel_rfl) (by kernel_rfl) (fun _ _ _ h => h) (Or.inl ⟨by rfl, ?_⟩) (by assumption) ?_
          rotate_left
          · intro w5x hSwx
            try dsimp only at hSwx
            go_simp
            try with_reducible rfl
          try simp only [Act.put, List.setIfInBounds_toArray, List.set_cons_zero, List.set_cons_succ]
          refine wpAnyH_done (by kernel_rfl) ?_ _
      go_wp2
      go_ret
      exact ⟨by rw [HG.out]; simp [jF, giveF, tyEq, sEq, HQ.out, HVd.out.1, HVd.out.2, HVa.out.1, HVa.out.2], hid (after HF.out HD4.out HF.out.size)⟩
  · have hz0 := hz 0
    have hz1 := hz 1
    go_wp2_with (first
      | (go_at_call 56; refine (HH.out (by decide) _ HF.out).mono ?_; rintro e w5 ⟨rfl, hb5⟩; have HF5 := hid (after HF.out hb5.out HF.out.size)))
    go_ret
    exact ⟨rfl, HF5⟩
  · have hdi : inN x.vs.length d = true := HD.out
    obtain ⟨kd, pd, nd, rfl, hvd, htd⟩ := inN_get hdi
    obtain ⟨bv, ov, rfl, cd1, cd2, kdl⟩ := kind_cells HC.out hvd
    have Hd1 := hid cd1
    have ed1 := cell_keep HF.out (cell_lt cd1) cd1
    have Hd2 := hid cd2
    have ed2 := cell_keep HF.out (cell_lt cd2) cd2
    have kd0 : (0 : Int) ≤ (kd : Int) := by omega
    have kd1 : (kd : Int) < (x.vs.length : Int) := by omega
    have HVd := hid (And.intro hdi htd)
    clear hdi htd hvd cd2 kdl
    have kv : (x.vs.length : Int) ≤ 9223372036854775807 := by have := HC.out.1; omega
    by_cases f0 : f < 0
    · have := f0
      go_wp2_with (first
        | (go_at_call 40; refine (one_i _ _ _).mono ?_; rintro e w' ⟨rfl, rfl⟩))
      all_goals go_ret
      all_goals exact ⟨by rw [HG.out]; simp [jF, cellF, inN_f1 f0, HVd.out.1, HVd.out.2], HF⟩
    by_cases f1 : (n : Int) ≤ f
    · have hz0 := hz 0
      have f1L : (ss.length : Int) ≤ f := by have := HN.out; omega
      have HFL := hid f1L
      clear f1L
      go_wp2_with (first
        | (go_at_call 40; refine (one_i _ _ _).mono ?_; rintro e w' ⟨rfl, rfl⟩))
      all_goals go_ret
      all_goals exact ⟨by rw [HG.out]; simp [jF, cellF, inN_f2 HFL.out, HVd.out.1, HVd.out.2], HF⟩
    obtain ⟨kf, rfl⟩ : ∃ k : Nat, f = k := ⟨f.toNat, by omega⟩
    have hkl : kf < ss.length := by have := HN.out; omega
    obtain ⟨s, hs⟩ : ∃ s, ss[kf]? = some s := ⟨_, List.getElem?_eq_getElem hkl⟩
    obtain ⟨bs, os, rfl, hbs, fa2, fc2, hcs, -⟩ := HS.out.2 kf s hs
    have es0 := cell_keep HF.out hbs (hcs 0 (.string s.nm) rfl)
    have HSN := hid (show w.cell? ⟨bs, os + kf * 4, none⟩ = some (.string s.nm) from hcs 0 (.string s.nm) rfl)
    simp only [Nat.add_zero] at es0
    have HKF := hid (And.intro hkl hs)
    have f2 : (0 : Int) ≤ (kf : Int) := by omega
    have f3 : (kf : Int) < (n : Int) := by omega
    have f4 : (n : Int) ≤ 9223372036854775807 := by have := HS.out.1; have := HN.out; omega
    have HIN := hid (show inN ss.length (kf : Int) = true by simp [inN]; omega)
    have HNA := hid (show nameAt ss (kf : Int) = s.nm by rw [nameAt, show ((kf : Int)).toNat = kf from rfl, hs])
    obtain ⟨q, hq⟩ : ∃ q, (nd.toList == s.nm.toList) = q := ⟨_, rfl⟩
    have HQ := hid hq
    have hz0 := hz 0
    clear hs hcs hbs hkl f0 f1
    cases pd <;> cases q
    all_goals
      go_wp2
      have hr := fun W (hb : Below w4.heap.size w4 W) => HKp.out W (after HT3.out hb HT3.out.size)
      have KP := hid (fun W (hb : Below w4.heap.size w4 W) => And.intro (hr W hb).1 (And.intro (hr W hb).2.1 (And.intro (hr W hb).2.2.1 (And.intro (hr W hb).2.2.2 (And.intro (cell_same (o := ov + kd * 3) (hr W hb).1.out (cell_lt Hd1.out)) (And.intro (cell_keep (hr W hb).1.out (cell_lt Hd2.out) Hd2.out) (cell_keep (hr W hb).1.out (cell_lt HSN.out) HSN.out)))))))
      have HD4 := hid (below_drew1 w4)
      clear hr
      refine wp_region_held_drew (S := fun W => Hid (Below w.heap.size w W) ∧ (∀ i, W.cell? ⟨w.heap.size + 1, i, none⟩ = (CoV x (some ⟨bv, ov, none⟩) vc fa fc ia ic)[i]?) ∧ (∀ i, W.cell? ⟨w.heap.size + 1 + 1, i, none⟩ = (InV ⟨12, kd, a, b, tt, el, kf, nn, l, c, sg, xs, ms⟩ ao ac mo mc)[i]?) ∧ (∀ i, W.cell? ⟨w.heap.size, i, none⟩ = (#[.slice (some ⟨bs, os, none⟩) n sc, .slice ca m cc])[i]?) ∧ W.cell? ⟨bv, ov + kd * 3, none⟩ = w.cell? ⟨bv, ov + kd * 3, none⟩ ∧ W.cell? ⟨bv, ov + kd * 3 + 1, none⟩ = some (.string nd) ∧ W.cell? ⟨bs, os + kf * 4, none⟩ = some (.string s.nm)) (by kernel_rfl) ?_ (fun hHeld0 => ?_)
      · (try dsimp only) <;> (exact KP.out _ HD4.out)
      refine wpAnyH_take (i := 0) (oi := { dst := Option.some 180, op := Go.Op.fieldAddr 37 (Go.Operand.tmp 4) 2, type := 0, pos := "ref.go:206", after := #[], guard := Option.none }) (v := ?_) rfl (by kernel_rfl) (by kernel_rfl) (by kernel_rfl) (fun _ _ _ h => h) (Or.inl ⟨by rfl, ?_⟩) (by assumption) ?_
      rotate_left
      · intro w5x hSwx
        try dsimp only at hSwx
        go_simp
        try with_reducible rfl
      try simp only [Act.put, List.setIfInBounds_toArray, List.set_cons_zero, List.set_cons_succ]
      refine wpAnyH_take (i := 1) (oi := { dst := Option.some 181, op := Go.Op.load 29 (Go.Operand.tmp 180), type := 29, pos := "ref.go:206", after := #[{ on := 0, ground := Go.Ground.data }], guard := Option.none }) (v := ?_) rfl (by kernel_rfl) (by kernel_rfl) (by kernel_rfl) (fun _ _ _ h => h) (Or.inl ⟨by rfl, ?_⟩) (by assumption) ?_
      rotate_left
      · intro w5x hSwx
        try dsimp only at hSwx
        go_simp
        try with_reducible rfl
      try simp only [Act.put, List.setIfInBounds_toArray, List.set_cons_zero, List.set_cons_succ]
      refine wpAnyH_take (i := 2) (oi := { dst := Option.some 182, op := Go.Op.move (Go.Operand.tmp 7), type := 3, pos := "ref.go:206", after := #[], guard := Option.none }) (v := ?_) rfl (by kernel_rfl) (by kernel_rfl) (by kernel_rfl) (fun _ _ _ h => h) (Or.inl ⟨by rfl, ?_⟩) (by assumption) ?_
      rotate_left
      · intro w5x hSwx
        try dsimp only at hSwx
        go_simp
        try with_reducible rfl
      try simp only [Act.put, List.setIfInBounds_toArray, List.set_cons_zero, List.set_cons_succ]
      refine wpAnyH_take (i := 3) (oi := { dst := Option.some 183, op := Go.Op.indexAddr 29 (Go.Operand.tmp 181) (Go.Operand.tmp 182), type := 0, pos := "ref.go:206", after := #[{ on := 1, ground := Go.Ground.data }, { on := 2, ground := Go.Ground.data }], guard := Option.none }) (v := ?_) rfl (by kernel_rfl) (by kernel_rfl) (by kernel_rfl) (fun _ _ _ h => h) (Or.inl ⟨by rfl, ?_⟩) (by assumption) ?_
      rotate_left
      · intro w5x hSwx
        try dsimp only at hSwx
        go_simp
        try with_reducible rfl
      try simp only [Act.put, List.setIfInBounds_toArray, List.set_cons_zero, List.set_cons_succ]
      refine wpAnyH_take (i := 4) (oi := { dst := Option.some 184, op := Go.Op.fieldAddr 33 (Go.Operand.tmp 183) 0, type := 0, pos := "ref.go:206", after := #[{ on := 3, ground := Go.Ground.data }], guard := Option.none }) (v := ?_) rfl (by kernel_rfl) (by kernel_rfl) (by kernel_rfl) (fun _ _ _ h => h) (Or.inl ⟨by rfl, ?_⟩) (by assumption) ?_
      rotate_left
      · intro w5x hSwx
        try dsimp only at hSwx
        go_simp
        try with_reducible rfl
      try simp only [Act.put, List.setIfInBounds_toArray, List.set_cons_zero, List.set_cons_succ]
      refine wpAnyH_take (i := 5) (oi := { dst := Option.some 185, op := Go.Op.load 31 (Go.Operand.tmp 184), type := 31, pos := "ref.go:206", after := #[{ on := 4, ground := Go.Ground.data }], guard := Option.none }) (v := ?_) rfl (by kernel_rfl) (by kernel_rfl) (by kernel_rfl) (fun _ _ _ h => h) (Or.inl ⟨by rfl, ?_⟩) (by assumption) ?_
      rotate_left
      · intro w5x hSwx
        try dsimp only at hSwx
        go_simp
        try with_reducible rfl
      try simp only [Act.put, List.setIfInBounds_toArray, List.set_cons_zero, List.set_cons_succ]
      refine wpAnyH_take (i := 6) (oi := { dst := Option.some 186, op := Go.Op.fieldAddr 25 (Go.Operand.tmp 3) 0, type := 0, pos := "ref.go:206", after := #[], guard := Option.none }) (v := ?_) rfl (by kernel_rfl) (by kernel_rfl) (by kernel_rfl) (fun _ _ _ h => h) (Or.inl ⟨by rfl, ?_⟩) (by assumption) ?_
      rotate_left
      · intro w5x hSwx
        try dsimp only at hSwx
        go_simp
        try with_reducible rfl
      try simp only [Act.put, List.setIfInBounds_toArray, List.set_cons_zero, List.set_cons_succ]
      refine wpAnyH_take (i := 7) (oi := { dst := Option.some 187, op := Go.Op.load 22 (Go.Operand.tmp 186), type := 22, pos := "ref.go:206", after := #[{ on := 6, ground := Go.Ground.data }], guard := Option.none }) (v := ?_) rfl (by kernel_rfl) (by kernel_rfl) (by kernel_rfl) (fun _ _ _ h => h) (Or.inl ⟨by rfl, ?_⟩) (by assumption) ?_
      rotate_left
      · intro w5x hSwx
        try dsimp only at hSwx
        go_simp
        try with_reducible rfl
      try simp only [Act.put, List.setIfInBounds_toArray, List.set_cons_zero, List.set_cons_succ]
      refine wpAnyH_take (i := 8) (oi := { dst := Option.some 188, op := Go.Op.fieldAddr 49 (Go.Operand.tmp 5) 4, type := 0, pos := "ref.go:206", after := #[], guard := Option.none }) (v := ?_) rfl (by kernel_rfl) (by kernel_rfl) (by kernel_rfl) (fun _ _ _ h => h) (Or.inl ⟨by rfl, ?_⟩) (by assumption) ?_
      rotate_left
      · intro w5x hSwx
        try dsimp only at hSwx
        go_simp
        try with_reducible rfl
      try simp only [Act.put, List.setIfInBounds_toArray, List.set_cons_zero, List.set_cons_succ]
      refine wpAnyH_take (i := 9) (oi := { dst := Option.some 189, op := Go.Op.load 3 (Go.Operand.tmp 188), type := 3, pos := "ref.go:206", after := #[{ on := 8, ground := Go.Ground.data }], guard := Option.none }) (v := ?_) rfl (by kernel_rfl) (by kernel_rfl) (by kernel_rfl) (fun _ _ _ h => h) (Or.inl ⟨by rfl, ?_⟩) (by assumption) ?_
      rotate_left
      · intro w5x hSwx
        try dsimp only at hSwx
        go_simp
        try with_reducible rfl
      try simp only [Act.put, List.setIfInBounds_toArray, List.set_cons_zero, List.set_cons_succ]
      refine wpAnyH_take (i := 10) (oi := { dst := Option.some 190, op := Go.Op.indexAddr 22 (Go.Operand.tmp 187) (Go.Operand.tmp 189), type := 0, pos := "ref.go:206", after := #[{ on := 7, ground := Go.Ground.data }, { on := 9, ground := Go.Ground.data }], guard := Option.none }) (v := ?_) rfl (by kernel_rfl) (by kernel_rfl) (by kernel_rfl) (fun _ _ _ h => h) (Or.inl ⟨by rfl, ?_⟩) (by assumption) ?_
      rotate_left
      · intro w5x hSwx
        try dsimp only at hSwx
        go_simp
        try with_reducible rfl
      try simp only [Act.put, List.setIfInBounds_toArray, List.set_cons_zero, List.set_cons_succ]
      refine wpAnyH_take (i := 11) (oi := { dst := Option.some 191, op := Go.Op.fieldAddr 47 (Go.Operand.tmp 190) 0, type := 0, pos := "ref.go:206", after := #[{ on := 10, ground := Go.Ground.data }], guard := Option.none }) (v := ?_) rfl (by kernel_rfl) (by kernel_rfl) (by kernel_rfl) (fun _ _ _ h => h) (Or.inl ⟨by rfl, ?_⟩) (by assumption) ?_
      rotate_left
      · intro w5x hSwx
        try dsimp only at hSwx
        go_simp
        try with_reducible rfl
      try simp only [Act.put, List.setIfInBounds_toArray, List.set_cons_zero, List.set_cons_succ]
      refine wpAnyH_take (i := 12) (oi := { dst := Option.some 192, op := Go.Op.load 9 (Go.Operand.tmp 191), type := 9, pos := "ref.go:206", after := #[{ on := 11, ground := Go.Ground.data }], guard := Option.none }) (v := ?_) rfl (by kernel_rfl) (by kernel_rfl) (by kernel_rfl) (fun _ _ _ h => h) (Or.inl ⟨by rfl, ?_⟩) (by assumption) ?_
      rotate_left
      · intro w5x hSwx
        try dsimp only at hSwx
        go_simp
        try with_reducible rfl
      try simp only [Act.put, List.setIfInBounds_toArray, List.set_cons_zero, List.set_cons_succ]
      refine wpAnyH_take (i := 13) (oi := { dst := Option.some 193, op := Go.Op.build 31 #[(0, Go.Operand.const (Go.Value.bool Bool.true)), (1, Go.Operand.tmp 192)], type := 31, pos := "ref.go:206", after := #[{ on := 12, ground := Go.Ground.data }], guard := Option.none }) (v := ?_) rfl (by kernel_rfl) (by kernel_rfl) (by kernel_rfl) (fun _ _ _ h => h) (Or.inl ⟨by rfl, ?_⟩) (by assumption) ?_
      rotate_left
      · intro w5x hSwx
        try dsimp only at hSwx
        go_simp
        try with_reducible rfl
      try simp only [Act.put, List.setIfInBounds_toArray, List.set_cons_zero, List.set_cons_succ]
      refine wpAnyH_take (i := 14) (oi := { dst := Option.some 194, op := Go.Op.binOp Go.BinOp.neq 31 (Go.Operand.tmp 185) (Go.Operand.tmp 193) 31, type := 4, pos := "ref.go:206", after := #[{ on := 5, ground := Go.Ground.data }, { on := 13, ground := Go.Ground.data }], guard := Option.none }) (v := ?_) rfl (by kernel_rfl) (by kernel_rfl) (by kernel_rfl) (fun _ _ _ h => h) (Or.inl ⟨by rfl, ?_⟩) (by assumption) ?_
      rotate_left
      · intro w5x hSwx
        try dsimp only at hSwx
        go_simp
        try with_reducible rfl
      try simp only [Act.put, List.setIfInBounds_toArray, List.set_cons_zero, List.set_cons_succ]
      refine wpAnyH_ready (rs := [15]) (by kernel_rfl) (by simp) ?_
      refine AllReadyH.cons (o := { dst := Option.some 195, op := Go.Op.call { callee := Go.Callee.value (Go.Operand.func 40), args := #[Go.Operand.tmp 194, Go.Operand.const (Go.Value.int Go.IntKind.i64 7)], argTypes := #[4, 41] }, type := 41, pos := "ref.go:206", after := #[{ on := 14, ground := Go.Ground.data }], guard := Option.none }) rfl (fun K hK => ?_) AllReadyH.nil
      go_simp
      go_wp2_with (first | (go_at_call 40; refine (one_i _ _ _).mono ?_; rintro e w' ⟨rfl, rfl⟩))
      refine hK.out _ _ ?_ (fun hHeld3 => ?_)
      · (try dsimp only) <;> (exact KP.out _ HD4.out)
      clear hK K hHeld0
      try simp only [Act.put, List.setIfInBounds_toArray, List.set_cons_zero, List.set_cons_succ]
      refine wpAnyH_take (i := 16) (oi := { dst := Option.some 6, op := Go.Op.assign (Go.Operand.tmp 195), type := 41, pos := "ref.go:206", after := #[{ on := 15, ground := Go.Ground.data }, { on := 15, ground := Go.Ground.chain }, { on := 0, ground := Go.Ground.phase }, { on := 1, ground := Go.Ground.phase }, { on := 2, ground := Go.Ground.phase }, { on := 3, ground := Go.Ground.phase }, { on := 4, ground := Go.Ground.phase }, { on := 5, ground := Go.Ground.phase }, { on := 6, ground := Go.Ground.phase }, { on := 7, ground := Go.Ground.phase }, { on := 8, ground := Go.Ground.phase }, { on := 9, ground := Go.Ground.phase }, { on := 10, ground := Go.Ground.phase }, { on := 11, ground := Go.Ground.phase }, { on := 12, ground := Go.Ground.phase }, { on := 13, ground := Go.Ground.phase }, { on := 14, ground := Go.Ground.phase }, { on := 15, ground := Go.Ground.phase }], guard := Option.none }) (v := ?_) rfl (by kernel_rfl) (by kernel_rfl) (by kernel_rfl) (fun _ _ _ h => h) (Or.inl ⟨by rfl, ?_⟩) (by assumption) ?_
      rotate_left
      · intro w5x hSwx
        try dsimp only at hSwx
        go_simp
        try with_reducible rfl
      try simp only [Act.put, List.setIfInBounds_toArray, List.set_cons_zero, List.set_cons_succ]
      refine wpAnyH_done (by kernel_rfl) ?_ _
      go_wp2
      go_ret
      exact ⟨by rw [HG.out]; simp [jF, cellF, tyEq, sEq, HQ.out, HIN.out, HNA.out, HVd.out.1, HVd.out.2], hid (after HF.out HD4.out HF.out.size)⟩
  · have hra := HR.out
    simp only [rdsF, rd1, rd2, rdL, rd2L] at hra
    simp at hra
    have hdi : inN x.vs.length d = true := HD.out
    obtain ⟨kd, pd, nd, rfl, hvd, htd⟩ := inN_get hdi
    have hai : inN x.vs.length a = true := hra
    obtain ⟨ka, pa, na, rfl, hva, hta⟩ := inN_get hai
    obtain ⟨bv, ov, rfl, cd1, cd2, kdl⟩ := kind_cells HC.out hvd
    have Hd1 := hid cd1
    have ed1 := cell_keep HF.out (cell_lt cd1) cd1
    have kd0 : (0 : Int) ≤ (kd : Int) := by omega
    have kd1 : (kd : Int) < (x.vs.length : Int) := by omega
    have HVd := hid (And.intro hdi htd)
    clear hdi htd hvd cd2 kdl cd1
    obtain ⟨ca1, ca2, kal⟩ := kind_at HC.out hva
    have Ha1 := hid ca1
    have ea1 := cell_keep HF.out (cell_lt ca1) ca1
    have ka0 : (0 : Int) ≤ (ka : Int) := by omega
    have ka1 : (ka : Int) < (x.vs.length : Int) := by omega
    have HVa := hid (And.intro hai hta)
    clear hai hta hva ca2 kal ca1
    clear hra
    have kv : (x.vs.length : Int) ≤ 9223372036854775807 := by have := HC.out.1; omega
    obtain ⟨q1, hq1⟩ : ∃ q, (sg.toList == [61, 61]) = q := ⟨_, rfl⟩
    obtain ⟨q2, hq2⟩ : ∃ q, (sg.toList == [33, 61]) = q := ⟨_, rfl⟩
    have HQ := hid (And.intro hq1 hq2)
    cases pd <;> cases pa <;> cases q1 <;> cases q2
    all_goals
      go_wp2_with (first
        | (go_at_call 40; refine (one_i _ _ _).mono ?_; rintro e w' ⟨rfl, rfl⟩))
      all_goals go_ret
      all_goals exact ⟨by rw [HG.out]; simp [jF, isNF, eqS, HQ.out.1, HQ.out.2, HVd.out.1, HVd.out.2, HVa.out.1, HVa.out.2], HF⟩
  · have hz0 := hz 0
    have hz1 := hz 1
    go_wp2_with (first
      | (go_at_call 57; refine (HKK.out rfl _ HF.out).mono ?_; rintro e w5 ⟨rfl, hb5⟩; have HF5 := hid (after HF.out hb5.out HF.out.size)))
    go_ret
    exact ⟨rfl, HF5⟩
end Go.Proofs.Ytfhdiahjfnphkaa
