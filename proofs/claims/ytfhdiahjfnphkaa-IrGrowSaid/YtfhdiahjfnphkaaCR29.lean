/- An instruction, by the reference: an operation that is none. No conditions. -/
import Derived.Test.YtfhdiahjfnphkaaCR13
import Derived.Test.YtfhdiahjfnphkaaCR17
namespace Go.Proofs.Ytfhdiahjfnphkaa
open Go.RowKit Go.Maps
set_option linter.unusedVariables false
set_option linter.unusedSimpArgs false
theorem box3c (w : World) (vs : Array Value) (t : TypeId) (o p : Obj) : (((w.alloc o).alloc p).alloc (.cells vs t)).heap[w.heap.size + 1 + 1]? = some (.cells vs t (0, 0)) := by
  have h := heap_alloc_new ((w.alloc o).alloc p) (.cells vs t)
  rwa [World.size_alloc, World.size_alloc] at h
set_option maxRecDepth 100000 in
set_option maxHeartbeats 4000000 in
theorem rinstr_odd (mv cv : Array Value) (hm : mv.size = 2) (hc : cv.size = 8) (r : InD) (ao mo : Option Addr) (ac mc : Nat) (w : World) (h : r.op < 1 ∨ 18 < r.op) :
    Calls Try.prog 39 #[.agg mv, .agg cv, .agg (InV r ao ac mo mc)] w fun e w' => e = .returned (.int .i64 3) ∧ Hid (Below w.heap.size w w') := by
  obtain ⟨op, d, a, b, tt, el, f, n, l, c, sg, xs, ms⟩ := r
  simp only at h
  obtain ⟨bw, hbw⟩ : ∃ bw, wrB op = bw := ⟨_, rfl⟩
  have HW := hid hbw
  have HB := hid (below3a w)
  have HX := hid (fun o p => box3c w (InV ⟨op, d, a, b, tt, el, f, n, l, c, sg, xs, ms⟩ ao ac mo mc) 49 o p)
  clear hbw
  have hk : op < 1 ∨ (¬ op < 1 ∧ 18 < op) := by omega
  clear h
  rcases hk with h1 | ⟨h1, h2⟩
  all_goals
    go_enter Try.func39, Try.ntmps39
    go_wp2_with (go_at_call 52; refine (writes_g ⟨op, d, a, b, tt, el, f, n, l, c, sg, xs, ms⟩ bw ao mo ac mc _ HW.out).mono ?_; rintro e w1 ⟨rfl, hb1⟩; have HB1 := hid (after (HB.out _ _ _) hb1.out (HB.out _ _ _).size); have hx1 := cells_at (lay hb1.out (HX.out _ _)))
    all_goals go_ret
    all_goals exact ⟨rfl, HB1⟩
end Go.Proofs.Ytfhdiahjfnphkaa
/- An instruction, by the reference: what it writes is not there. No conditions. -/
namespace Go.Proofs.Ytfhdiahjfnphkaa
open Go.RowKit Go.Maps
set_option linter.unusedVariables false
set_option linter.unusedSimpArgs false
theorem has_1 (d : Int) (b : Nat) (x : CoD) (va fa ia : Option Addr) (vc fc ic : Nat) (r : Bool) (w : World) (h : w.cell? ⟨b, 0, none⟩ = some (.int .i64 d)) (hr : inN x.vs.length d = r) :
    Calls Try.prog 53 #[.agg (CoV x va vc fa fc ia ic), .slice (some ⟨b, 0, none⟩) 1 1] w fun e w' => e = .returned (.bool r) ∧ Hid (Below w.heap.size w w') :=
  has_g [d] _ 1 x va fa ia vc fc ic r w (ints1 h) (by simp [hr])
theorem box3d (w : World) (vs : Array Value) (t : TypeId) (o p : Obj) : (((w.alloc o).alloc (.cells vs t)).alloc p).heap[w.heap.size + 1]? = some (.cells vs t (0, 0)) := by
  have h := lay (below1 _ p) (heap_alloc_new (w.alloc o) (.cells vs t))
  rwa [World.size_alloc] at h
set_option maxRecDepth 100000 in
set_option maxHeartbeats 8000000 in
theorem rinstr_loose (mv : Array Value) (hm : mv.size = 2) (x : CoD) (va fa ia : Option Addr) (vc fc ic : Nat) (r : InD) (ao mo : Option Addr) (ac mc : Nat) (w : World) (h1 : ¬ r.op < 1) (h2 : ¬ 18 < r.op) (hw : wrB r.op = true) (hd : inN x.vs.length r.d = false) :
    Calls Try.prog 39 #[.agg mv, .agg (CoV x va vc fa fc ia ic), .agg (InV r ao ac mo mc)] w fun e w' => e = .returned (.int .i64 15) ∧ Hid (Below w.heap.size w w') := by
  obtain ⟨op, d, a, b, tt, el, f, n, l, c, sg, xs, ms⟩ := r
  simp only at h1 h2
  have HW := hid hw
  have HD := hid hd
  have HB := hid (below3a w)
  have HX := hid (fun o p => box3c w (InV ⟨op, d, a, b, tt, el, f, n, l, c, sg, xs, ms⟩ ao ac mo mc) 49 o p)
  have HY := hid (fun o p => box3d w (CoV x va vc fa fc ia ic) 37 o p)
  clear hw hd
  go_enter Try.func39, Try.ntmps39
  go_wp2_with (go_at_call 52; refine (writes_g ⟨op, d, a, b, tt, el, f, n, l, c, sg, xs, ms⟩ true ao mo ac mc _ HW.out).mono ?_; rintro e w1 ⟨rfl, hb1⟩; have HB1 := hid (after (HB.out _ _ _) hb1.out (HB.out _ _ _).size); have HX1 := hid (lay hb1.out (HX.out _ _)); have HY1 := hid (lay hb1.out (HY.out _ _)); have hx1 := cells_at HX1.out)
  have HT0 := hid (below_drew1 w1)
  have HKp := hid (fun W (hb : Below w1.heap.size w1 W) => And.intro (hid (after HB1.out hb HB1.out.size)) (cells_at (lay hb HY1.out)))
  refine wp_region_held_drew (S := fun W => Hid (Below w.heap.size w W) ∧ (∀ i, W.cell? ⟨w.heap.size + 1, i, none⟩ = (CoV x va vc fa fc ia ic)[i]?)) (by kernel_rfl) ?_ (fun hHeld0 => ?_)
  · (try dsimp only) <;> (first | exact HKp.out _ HT0.out | exact HKp.out _ (after HT0.out (below1 _ _) HT0.out.size) | exact HKp.out _ HT1.out)
  refine wpAnyH_take (i := 0) (oi := { dst := Option.some 23, op := Go.Op.move (Go.Operand.tmp 8), type := 4, pos := "ref.go:180", after := #[], guard := Option.none }) (v := ?_) rfl (by kernel_rfl) (by kernel_rfl) (by kernel_rfl) (fun _ _ _ h => h) (Or.inl ⟨by rfl, ?_⟩) (by assumption) ?_
  rotate_left
  · intro w5x hSwx
    try dsimp only at hSwx
    go_simp
    try with_reducible rfl
  try simp only [Act.put, List.setIfInBounds_toArray, List.set_cons_zero, List.set_cons_succ]
  refine wpAnyH_take (i := 1) (oi := { dst := Option.some 24, op := Go.Op.move (Go.Operand.tmp 23), type := 4, pos := "ref.go:180", after := #[{ on := 0, ground := Go.Ground.data }], guard := Option.none }) (v := ?_) rfl (by kernel_rfl) (by kernel_rfl) (by kernel_rfl) (fun _ _ _ h => h) (Or.inl ⟨by rfl, ?_⟩) (by assumption) ?_
  rotate_left
  · intro w5x hSwx
    try dsimp only at hSwx
    go_simp
    try with_reducible rfl
  try simp only [Act.put, List.setIfInBounds_toArray, List.set_cons_zero, List.set_cons_succ]
  refine wpAnyH_take (i := 2) (oi := { dst := Option.some 25, op := Go.Op.load 37 (Go.Operand.tmp 4), type := 37, pos := "ref.go:180", after := #[{ on := 1, ground := Go.Ground.guard }], guard := Option.some (1, Bool.true) }) (v := ?_) rfl (by kernel_rfl) (by kernel_rfl) (by kernel_rfl) (fun _ _ _ h => h) (Or.inl ⟨by rfl, ?_⟩) (by assumption) ?_
  rotate_left
  · intro w5x hSwx
    try dsimp only at hSwx
    go_simp
    try with_reducible rfl
  try simp only [Act.put, List.setIfInBounds_toArray, List.set_cons_zero, List.set_cons_succ]
  refine wpAnyH_take (i := 3) (oi := { dst := Option.some 26, op := Go.Op.move (Go.Operand.tmp 7), type := 3, pos := "ref.go:180", after := #[{ on := 1, ground := Go.Ground.guard }], guard := Option.some (1, Bool.true) }) (v := ?_) rfl (by kernel_rfl) (by kernel_rfl) (by kernel_rfl) (fun _ _ _ h => h) (Or.inl ⟨by rfl, ?_⟩) (by assumption) ?_
  rotate_left
  · intro w5x hSwx
    try dsimp only at hSwx
    go_simp
    try with_reducible rfl
  try simp only [Act.put, List.setIfInBounds_toArray, List.set_cons_zero, List.set_cons_succ]
  refine wpAnyH_ready (rs := [4]) (by kernel_rfl) (by simp) ?_
  refine AllReadyH.cons (o := { dst := Option.some 27, op := Go.Op.buildSlice 34 1 #[(0, Go.Operand.tmp 26)], type := 34, pos := "ref.go:180", after := #[{ on := 3, ground := Go.Ground.data }, { on := 1, ground := Go.Ground.guard }], guard := Option.some (1, Bool.true) }) rfl (fun K hK => ?_) AllReadyH.nil
  go_simp
  refine hK.out _ _ ?_ (fun hHeld3 => ?_)
  · (try dsimp only) <;> (first | exact HKp.out _ HT0.out | exact HKp.out _ (after HT0.out (below1 _ _) HT0.out.size) | exact HKp.out _ HT1.out)
  clear hK K hHeld0
  try simp only [Act.put, List.setIfInBounds_toArray, List.set_cons_zero, List.set_cons_succ]
  refine wpAnyH_ready (rs := [5]) (by kernel_rfl) (by simp) ?_
  refine AllReadyH.cons (o := { dst := Option.some 28, op := Go.Op.call { callee := Go.Callee.value (Go.Operand.func 53), args := #[Go.Operand.tmp 25, Go.Operand.tmp 27], argTypes := #[37, 34] }, type := 4, pos := "ref.go:180", after := #[{ on := 2, ground := Go.Ground.data }, { on := 4, ground := Go.Ground.data }, { on := 1, ground := Go.Ground.chain }, { on := 1, ground := Go.Ground.guard }], guard := Option.some (1, Bool.true) }) rfl (fun K hK => ?_) AllReadyH.nil
  go_simp
  go_wp2_with (first | (go_at_call 53; refine (has_1 d _ x va fa ia vc fc ic _ _ (cells_at (heap_alloc_new _ _) 0) HD.out).mono ?_; rintro e w2 ⟨rfl, hb2⟩; have HT1 := hid (after (after HT0.out (below1 _ _) HT0.out.size) hb2.out (after HT0.out (below1 _ _) HT0.out.size).size)))
  refine hK.out _ _ ?_ (fun hHeld6 => ?_)
  · (try dsimp only) <;> (first | exact HKp.out _ HT0.out | exact HKp.out _ (after HT0.out (below1 _ _) HT0.out.size) | exact HKp.out _ HT1.out)
  clear hK K hHeld3
  try simp only [Act.put, List.setIfInBounds_toArray, List.set_cons_zero, List.set_cons_succ]
  refine wpAnyH_take (i := 6) (oi := { dst := Option.some 29, op := Go.Op.unOp Go.UnOp.not 4 (Go.Operand.tmp 28), type := 4, pos := "ref.go:180", after := #[{ on := 5, ground := Go.Ground.data }, { on := 1, ground := Go.Ground.guard }], guard := Option.some (1, Bool.true) }) (v := ?_) rfl (by kernel_rfl) (by kernel_rfl) (by kernel_rfl) (fun _ _ _ h => h) (Or.inl ⟨by rfl, ?_⟩) (by assumption) ?_
  rotate_left
  · intro w5x hSwx
    try dsimp only at hSwx
    go_simp
    try with_reducible rfl
  try simp only [Act.put, List.setIfInBounds_toArray, List.set_cons_zero, List.set_cons_succ]
  refine wpAnyH_take (i := 7) (oi := { dst := Option.some 30, op := Go.Op.pick (Go.Operand.tmp 24) (Go.Operand.tmp 29) (Go.Operand.const (Go.Value.bool Bool.false)), type := 4, pos := "ref.go:180", after := #[{ on := 1, ground := Go.Ground.data }, { on := 6, ground := Go.Ground.data }], guard := Option.none }) (v := ?_) rfl (by kernel_rfl) (by kernel_rfl) (by kernel_rfl) (fun _ _ _ h => h) (Or.inl ⟨by rfl, ?_⟩) (by assumption) ?_
  rotate_left
  · intro w5x hSwx
    try dsimp only at hSwx
    go_simp
    try with_reducible rfl
  try simp only [Act.put, List.setIfInBounds_toArray, List.set_cons_zero, List.set_cons_succ]
  refine wpAnyH_take (i := 8) (oi := { dst := Option.some 31, op := Go.Op.move (Go.Operand.tmp 30), type := 4, pos := "ref.go:180", after := #[{ on := 7, ground := Go.Ground.data }, { on := 5, ground := Go.Ground.chain }], guard := Option.none }) (v := ?_) rfl (by kernel_rfl) (by kernel_rfl) (by kernel_rfl) (fun _ _ _ h => h) (Or.inl ⟨by rfl, ?_⟩) (by assumption) ?_
  rotate_left
  · intro w5x hSwx
    try dsimp only at hSwx
    go_simp
    try with_reducible rfl
  try simp only [Act.put, List.setIfInBounds_toArray, List.set_cons_zero, List.set_cons_succ]
  refine wpAnyH_take (i := 9) (oi := { dst := Option.some 32, op := Go.Op.load 37 (Go.Operand.tmp 4), type := 37, pos := "ref.go:180", after := #[{ on := 8, ground := Go.Ground.guard }], guard := Option.some (8, Bool.false) }) (v := undef) rfl (by kernel_rfl) (by kernel_rfl) (by kernel_rfl) (fun _ _ _ h => h) (Or.inr ⟨by rfl, rfl⟩) (by assumption) ?_
  try simp only [Act.put, List.setIfInBounds_toArray, List.set_cons_zero, List.set_cons_succ]
  refine wpAnyH_take (i := 10) (oi := { dst := Option.some 33, op := Go.Op.load 49 (Go.Operand.tmp 5), type := 49, pos := "ref.go:180", after := #[{ on := 8, ground := Go.Ground.guard }], guard := Option.some (8, Bool.false) }) (v := undef) rfl (by kernel_rfl) (by kernel_rfl) (by kernel_rfl) (fun _ _ _ h => h) (Or.inr ⟨by rfl, rfl⟩) (by assumption) ?_
  try simp only [Act.put, List.setIfInBounds_toArray, List.set_cons_zero, List.set_cons_succ]
  refine wpAnyH_take (i := 11) (oi := { dst := Option.some 34, op := Go.Op.call { callee := Go.Callee.value (Go.Operand.func 54), args := #[Go.Operand.tmp 33], argTypes := #[49] }, type := 34, pos := "ref.go:180", after := #[{ on := 10, ground := Go.Ground.data }, { on := 8, ground := Go.Ground.chain }, { on := 8, ground := Go.Ground.guard }], guard := Option.some (8, Bool.false) }) (v := undef) rfl (by kernel_rfl) (by kernel_rfl) (by kernel_rfl) (fun _ _ _ h => h) (Or.inr ⟨by rfl, rfl⟩) (by assumption) ?_
  try simp only [Act.put, List.setIfInBounds_toArray, List.set_cons_zero, List.set_cons_succ]
  refine wpAnyH_take (i := 12) (oi := { dst := Option.some 35, op := Go.Op.call { callee := Go.Callee.value (Go.Operand.func 53), args := #[Go.Operand.tmp 32, Go.Operand.tmp 34], argTypes := #[37, 34] }, type := 4, pos := "ref.go:180", after := #[{ on := 9, ground := Go.Ground.data }, { on := 11, ground := Go.Ground.data }, { on := 11, ground := Go.Ground.chain }, { on := 8, ground := Go.Ground.guard }], guard := Option.some (8, Bool.false) }) (v := undef) rfl (by kernel_rfl) (by kernel_rfl) (by kernel_rfl) (fun _ _ _ h => h) (Or.inr ⟨by rfl, rfl⟩) (by assumption) ?_
  try simp only [Act.put, List.setIfInBounds_toArray, List.set_cons_zero, List.set_cons_succ]
  refine wpAnyH_take (i := 13) (oi := { dst := Option.some 36, op := Go.Op.unOp Go.UnOp.not 4 (Go.Operand.tmp 35), type := 4, pos := "ref.go:180", after := #[{ on := 12, ground := Go.Ground.data }, { on := 8, ground := Go.Ground.guard }], guard := Option.some (8, Bool.false) }) (v := undef) rfl (by kernel_rfl) (by kernel_rfl) (by kernel_rfl) (fun _ _ _ h => h) (Or.inr ⟨by rfl, rfl⟩) (by assumption) ?_
  try simp only [Act.put, List.setIfInBounds_toArray, List.set_cons_zero, List.set_cons_succ]
  refine wpAnyH_take (i := 14) (oi := { dst := Option.some 37, op := Go.Op.pick (Go.Operand.tmp 31) (Go.Operand.const (Go.Value.bool Bool.true)) (Go.Operand.tmp 36), type := 4, pos := "ref.go:180", after := #[{ on := 8, ground := Go.Ground.data }, { on := 13, ground := Go.Ground.data }], guard := Option.none }) (v := ?_) rfl (by kernel_rfl) (by kernel_rfl) (by kernel_rfl) (fun _ _ _ h => h) (Or.inl ⟨by rfl, ?_⟩) (by assumption) ?_
  rotate_left
  · intro w5x hSwx
    try dsimp only at hSwx
    go_simp
    try with_reducible rfl
  try simp only [Act.put, List.setIfInBounds_toArray, List.set_cons_zero, List.set_cons_succ]
  refine wpAnyH_done (by kernel_rfl) ?_ _
  go_wp2
  go_ret
  exact ⟨rfl, (HKp.out _ HT1.out).1⟩
end Go.Proofs.Ytfhdiahjfnphkaa
/- An instruction, by the reference: a number. No conditions. -/
namespace Go.Proofs.Ytfhdiahjfnphkaa
open Go.RowKit Go.Maps
set_option linter.unusedVariables false
set_option linter.unusedSimpArgs false
theorem has_nil (x : CoD) (va fa ia : Option Addr) (vc fc ic : Nat) (w : World) :
    Calls Try.prog 53 #[.agg (CoV x va vc fa fc ia ic), .slice none 0 0] w fun e w' => e = .returned (.bool true) ∧ Hid (Below w.heap.size w w') :=
  has_g [] none 0 x va fa ia vc fc ic true w ⟨by simp, fun i y h => by simp at h⟩ rfl
set_option maxRecDepth 100000 in
set_option maxHeartbeats 8000000 in
theorem rinstr_1 (mv : Array Value) (hm : mv.size = 2) (x : CoD) (va fa ia : Option Addr) (vc fc ic : Nat) (k : Nat) (pp : Bool) (nm : ByteArray) (a b tt el f n l c : Int) (sg : ByteArray) (xs ms : List Int) (ao mo : Option Addr) (ac mc : Nat) (w : World) (hC : RowM 3 VaAt w va x.vs) (hi : x.ins.length ≤ 9223372036854775807) (hd : inN x.vs.length k = true) (hv : KindIs x k pp nm) :
    Calls Try.prog 39 #[.agg mv, .agg (CoV x va vc fa fc ia ic), .agg (InV ⟨1, k, a, b, tt, el, f, n, l, c, sg, xs, ms⟩ ao ac mo mc)] w fun e w' => e = .returned (.int .i64 (if pp then 7 else 0)) ∧ Hid (Below w.heap.size w w') := by
  obtain ⟨v, hv1, hv2⟩ := hv
  obtain ⟨bv, ov, hva, hbv, hcv⟩ := hC.2 k v hv1
  subst hva
  have v0 : w.cell? ⟨bv, ov + k * 3, none⟩ = some (.bool pp) := by have := hcv 0 (.bool v.t.p) rfl; rw [hv2] at this; exact this
  have hkv : k < x.vs.length := (List.getElem?_eq_some_iff.1 hv1).1
  have k0 : (0 : Int) ≤ (k : Int) := by omega
  have k1 : (k : Int) < (x.vs.length : Int) := by omega
  have k2 : (x.vs.length : Int) ≤ 9223372036854775807 := by have := hC.1; omega
  have HV0 := hid v0
  have HD := hid hd
  have HB := hid (below3a w)
  have HX := hid (fun o p => box3c w (InV ⟨1, k, a, b, tt, el, f, n, l, c, sg, xs, ms⟩ ao ac mo mc) 49 o p)
  have HY := hid (fun o p => box3d w (CoV x (some ⟨bv, ov, none⟩) vc fa fc ia ic) 37 o p)
  clear hd v0 hcv hbv hv1 hv2 hC hkv
  go_enter Try.func39, Try.ntmps39
  go_wp2_with (go_at_call 52; refine (writes_g ⟨1, k, a, b, tt, el, f, n, l, c, sg, xs, ms⟩ true ao mo ac mc _ rfl).mono ?_; rintro e w1 ⟨rfl, hb1⟩; have HB1 := hid (after (HB.out _ _ _) hb1.out (HB.out _ _ _).size); have HX1 := hid (lay hb1.out (HX.out _ _)); have HY1 := hid (lay hb1.out (HY.out _ _)); have hx1 := cells_at HX1.out)
  have HT0 := hid (below_drew1 w1)
  have HKp := hid (fun W (hb : Below w1.heap.size w1 W) => And.intro (hid (after HB1.out hb HB1.out.size)) (And.intro (cells_at (lay hb HY1.out)) (cells_at (lay hb HX1.out))))
  have G1 : True := trivial
  refine wp_region_held_drew (S := fun W => Hid (Below w.heap.size w W) ∧ (∀ i, W.cell? ⟨w.heap.size + 1, i, none⟩ = (CoV x (some ⟨bv, ov, none⟩) vc fa fc ia ic)[i]?) ∧ (∀ i, W.cell? ⟨w.heap.size + 1 + 1, i, none⟩ = (InV ⟨1, k, a, b, tt, el, f, n, l, c, sg, xs, ms⟩ ao ac mo mc)[i]?)) (by kernel_rfl) ?_ (fun hHeld0 => ?_)
  · (try dsimp only) <;> (first | exact HKp.out _ HT3.out | exact HKp.out _ HT2.out | exact HKp.out _ HT1.out | exact HKp.out _ HT0.out | exact HKp.out _ (after HT0.out (below1 _ _) HT0.out.size))
  refine wpAnyH_take (i := 0) (oi := { dst := Option.some 23, op := Go.Op.move (Go.Operand.tmp 8), type := 4, pos := "ref.go:180", after := #[], guard := Option.none }) (v := ?_) rfl (by kernel_rfl) (by kernel_rfl) (by kernel_rfl) (fun _ _ _ h => h) (Or.inl ⟨by rfl, ?_⟩) (by assumption) ?_
  rotate_left
  · intro w5x hSwx
    try dsimp only at hSwx
    go_simp
    try with_reducible rfl
  try simp only [Act.put, List.setIfInBounds_toArray, List.set_cons_zero, List.set_cons_succ]
  refine wpAnyH_take (i := 1) (oi := { dst := Option.some 24, op := Go.Op.move (Go.Operand.tmp 23), type := 4, pos := "ref.go:180", after := #[{ on := 0, ground := Go.Ground.data }], guard := Option.none }) (v := ?_) rfl (by kernel_rfl) (by kernel_rfl) (by kernel_rfl) (fun _ _ _ h => h) (Or.inl ⟨by rfl, ?_⟩) (by assumption) ?_
  rotate_left
  · intro w5x hSwx
    try dsimp only at hSwx
    go_simp
    try with_reducible rfl
  try simp only [Act.put, List.setIfInBounds_toArray, List.set_cons_zero, List.set_cons_succ]
  refine wpAnyH_take (i := 2) (oi := { dst := Option.some 25, op := Go.Op.load 37 (Go.Operand.tmp 4), type := 37, pos := "ref.go:180", after := #[{ on := 1, ground := Go.Ground.guard }], guard := Option.some (1, Bool.true) }) (v := ?_) rfl (by kernel_rfl) (by kernel_rfl) (by kernel_rfl) (fun _ _ _ h => h) (Or.inl ⟨by rfl, ?_⟩) (by assumption) ?_
  rotate_left
  · intro w5x hSwx
    try dsimp only at hSwx
    go_simp
    try with_reducible rfl
  try simp only [Act.put, List.setIfInBounds_toArray, List.set_cons_zero, List.set_cons_succ]
  refine wpAnyH_take (i := 3) (oi := { dst := Option.some 26, op := Go.Op.move (Go.Operand.tmp 7), type := 3, pos := "ref.go:180", after := #[{ on := 1, ground := Go.Ground.guard }], guard := Option.some (1, Bool.true) }) (v := ?_) rfl (by kernel_rfl) (by kernel_rfl) (by kernel_rfl) (fun _ _ _ h => h) (Or.inl ⟨by rfl, ?_⟩) (by assumption) ?_
  rotate_left
  · intro w5x hSwx
    try dsimp only at hSwx
    go_simp
    try with_reducible rfl
  try simp only [Act.put, List.setIfInBounds_toArray, List.set_cons_zero, List.set_cons_succ]
  refine wpAnyH_ready (rs := [4]) (by kernel_rfl) (by simp) ?_
  refine AllReadyH.cons (o := { dst := Option.some 27, op := Go.Op.buildSlice 34 1 #[(0, Go.Operand.tmp 26)], type := 34, pos := "ref.go:180", after := #[{ on := 3, ground := Go.Ground.data }, { on := 1, ground := Go.Ground.guard }], guard := Option.some (1, Bool.true) }) rfl (fun K hK => ?_) AllReadyH.nil
  go_simp
  refine hK.out _ _ ?_ (fun hHeld3 => ?_)
  · (try dsimp only) <;> (first | exact HKp.out _ HT3.out | exact HKp.out _ HT2.out | exact HKp.out _ HT1.out | exact HKp.out _ HT0.out | exact HKp.out _ (after HT0.out (below1 _ _) HT0.out.size))
  clear hK K hHeld0
  try simp only [Act.put, List.setIfInBounds_toArray, List.set_cons_zero, List.set_cons_succ]
  refine wpAnyH_ready (rs := [5]) (by kernel_rfl) (by simp) ?_
  refine AllReadyH.cons (o := { dst := Option.some 28, op := Go.Op.call { callee := Go.Callee.value (Go.Operand.func 53), args := #[Go.Operand.tmp 25, Go.Operand.tmp 27], argTypes := #[37, 34] }, type := 4, pos := "ref.go:180", after := #[{ on := 2, ground := Go.Ground.data }, { on := 4, ground := Go.Ground.data }, { on := 1, ground := Go.Ground.chain }, { on := 1, ground := Go.Ground.guard }], guard := Option.some (1, Bool.true) }) rfl (fun K hK => ?_) AllReadyH.nil
  go_simp
  go_wp2_with (first | (go_at_call 53; have hh := G1; clear G1; refine (has_1 k _ x (some ⟨bv, ov, none⟩) fa ia vc fc ic _ _ (cells_at (heap_alloc_new _ _) 0) HD.out).mono ?_; rintro e w2 ⟨rfl, hb2⟩; have HT1 := hid (after (after HT0.out (below1 _ _) HT0.out.size) hb2.out (after HT0.out (below1 _ _) HT0.out.size).size)) | (go_at_call 54; refine (reads_none ⟨1, k, a, b, tt, el, f, n, l, c, sg, xs, ms⟩ ao mo ac mc _ rfl rfl (show ¬ (1 : Int) = 15 by decide)).mono ?_; rintro e w3 ⟨rfl, hb3⟩; have HT2 := hid (after HT1.out hb3.out HT1.out.size)) | (go_at_call 53; refine (has_nil x (some ⟨bv, ov, none⟩) fa ia vc fc ic _).mono ?_; rintro e w4 ⟨rfl, hb4⟩; have HT3 := hid (after HT2.out hb4.out HT2.out.size)))
  refine hK.out _ _ ?_ (fun hHeld6 => ?_)
  · (try dsimp only) <;> (first | exact HKp.out _ HT3.out | exact HKp.out _ HT2.out | exact HKp.out _ HT1.out | exact HKp.out _ HT0.out | exact HKp.out _ (after HT0.out (below1 _ _) HT0.out.size))
  clear hK K hHeld3
  try simp only [Act.put, List.setIfInBounds_toArray, List.set_cons_zero, List.set_cons_succ]
  refine wpAnyH_take (i := 6) (oi := { dst := Option.some 29, op := Go.Op.unOp Go.UnOp.not 4 (Go.Operand.tmp 28), type := 4, pos := "ref.go:180", after := #[{ on := 5, ground := Go.Ground.data }, { on := 1, ground := Go.Ground.guard }], guard := Option.some (1, Bool.true) }) (v := ?_) rfl (by kernel_rfl) (by kernel_rfl) (by kernel_rfl) (fun _ _ _ h => h) (Or.inl ⟨by rfl, ?_⟩) (by assumption) ?_
  rotate_left
  · intro w5x hSwx
    try dsimp only at hSwx
    go_simp
    try with_reducible rfl
  try simp only [Act.put, List.setIfInBounds_toArray, List.set_cons_zero, List.set_cons_succ]
  refine wpAnyH_take (i := 7) (oi := { dst := Option.some 30, op := Go.Op.pick (Go.Operand.tmp 24) (Go.Operand.tmp 29) (Go.Operand.const (Go.Value.bool Bool.false)), type := 4, pos := "ref.go:180", after := #[{ on := 1, ground := Go.Ground.data }, { on := 6, ground := Go.Ground.data }], guard := Option.none }) (v := ?_) rfl (by kernel_rfl) (by kernel_rfl) (by kernel_rfl) (fun _ _ _ h => h) (Or.inl ⟨by rfl, ?_⟩) (by assumption) ?_
  rotate_left
  · intro w5x hSwx
    try dsimp only at hSwx
    go_simp
    try with_reducible rfl
  try simp only [Act.put, List.setIfInBounds_toArray, List.set_cons_zero, List.set_cons_succ]
  refine wpAnyH_take (i := 8) (oi := { dst := Option.some 31, op := Go.Op.move (Go.Operand.tmp 30), type := 4, pos := "ref.go:180", after := #[{ on := 7, ground := Go.Ground.data }, { on := 5, ground := Go.Ground.chain }], guard := Option.none }) (v := ?_) rfl (by kernel_rfl) (by kernel_rfl) (by kernel_rfl) (fun _ _ _ h => h) (Or.inl ⟨by rfl, ?_⟩) (by assumption) ?_
  rotate_left
  · intro w5x hSwx
    try dsimp only at hSwx
    go_simp
    try with_reducible rfl
  try simp only [Act.put, List.setIfInBounds_toArray, List.set_cons_zero, List.set_cons_succ]
  refine wpAnyH_take (i := 9) (oi := { dst := Option.some 32, op := Go.Op.load 37 (Go.Operand.tmp 4), type := 37, pos := "ref.go:180", after := #[{ on := 8, ground := Go.Ground.guard }], guard := Option.some (8, Bool.false) }) (v := ?_) rfl (by kernel_rfl) (by kernel_rfl) (by kernel_rfl) (fun _ _ _ h => h) (Or.inl ⟨by rfl, ?_⟩) (by assumption) ?_
  rotate_left
  · intro w5x hSwx
    try dsimp only at hSwx
    go_simp
    try with_reducible rfl
  try simp only [Act.put, List.setIfInBounds_toArray, List.set_cons_zero, List.set_cons_succ]
  refine wpAnyH_take (i := 10) (oi := { dst := Option.some 33, op := Go.Op.load 49 (Go.Operand.tmp 5), type := 49, pos := "ref.go:180", after := #[{ on := 8, ground := Go.Ground.guard }], guard := Option.some (8, Bool.false) }) (v := ?_) rfl (by kernel_rfl) (by kernel_rfl) (by kernel_rfl) (fun _ _ _ h => h) (Or.inl ⟨by rfl, ?_⟩) (by assumption) ?_
  rotate_left
  · intro w5x hSwx
    try dsimp only at hSwx
    go_simp
    try with_reducible rfl
  try simp only [Act.put, List.setIfInBounds_toArray, List.set_cons_zero, List.set_cons_succ]
  refine wpAnyH_ready (rs := [11]) (by kernel_rfl) (by simp) ?_
  refine AllReadyH.cons (o := { dst := Option.some 34, op := Go.Op.call { callee := Go.Callee.value (Go.Operand.func 54), args := #[Go.Operand.tmp 33], argTypes := #[49] }, type := 34, pos := "ref.go:180", after := #[{ on := 10, ground := Go.Ground.data }, { on := 8, ground := Go.Ground.chain }, { on := 8, ground := Go.Ground.guard }], guard := Option.some (8, Bool.false) }) rfl (fun K hK => ?_) AllReadyH.nil
  go_simp
  go_wp2_with (first | (go_at_call 53; have hh := G1; clear G1; refine (has_1 k _ x (some ⟨bv, ov, none⟩) fa ia vc fc ic _ _ (cells_at (heap_alloc_new _ _) 0) HD.out).mono ?_; rintro e w2 ⟨rfl, hb2⟩; have HT1 := hid (after (after HT0.out (below1 _ _) HT0.out.size) hb2.out (after HT0.out (below1 _ _) HT0.out.size).size)) | (go_at_call 54; refine (reads_none ⟨1, k, a, b, tt, el, f, n, l, c, sg, xs, ms⟩ ao mo ac mc _ rfl rfl (show ¬ (1 : Int) = 15 by decide)).mono ?_; rintro e w3 ⟨rfl, hb3⟩; have HT2 := hid (after HT1.out hb3.out HT1.out.size)) | (go_at_call 53; refine (has_nil x (some ⟨bv, ov, none⟩) fa ia vc fc ic _).mono ?_; rintro e w4 ⟨rfl, hb4⟩; have HT3 := hid (after HT2.out hb4.out HT2.out.size)))
  refine hK.out _ _ ?_ (fun hHeld9 => ?_)
  · (try dsimp only) <;> (first | exact HKp.out _ HT3.out | exact HKp.out _ HT2.out | exact HKp.out _ HT1.out | exact HKp.out _ HT0.out | exact HKp.out _ (after HT0.out (below1 _ _) HT0.out.size))
  clear hK K hHeld6
  try simp only [Act.put, List.setIfInBounds_toArray, List.set_cons_zero, List.set_cons_succ]
  refine wpAnyH_ready (rs := [12]) (by kernel_rfl) (by simp) ?_
  refine AllReadyH.cons (o := { dst := Option.some 35, op := Go.Op.call { callee := Go.Callee.value (Go.Operand.func 53), args := #[Go.Operand.tmp 32, Go.Operand.tmp 34], argTypes := #[37, 34] }, type := 4, pos := "ref.go:180", after := #[{ on := 9, ground := Go.Ground.data }, { on := 11, ground := Go.Ground.data }, { on := 11, ground := Go.Ground.chain }, { on := 8, ground := Go.Ground.guard }], guard := Option.some (8, Bool.false) }) rfl (fun K hK => ?_) AllReadyH.nil
  go_simp
  go_wp2_with (first | (go_at_call 53; have hh := G1; clear G1; refine (has_1 k _ x (some ⟨bv, ov, none⟩) fa ia vc fc ic _ _ (cells_at (heap_alloc_new _ _) 0) HD.out).mono ?_; rintro e w2 ⟨rfl, hb2⟩; have HT1 := hid (after (after HT0.out (below1 _ _) HT0.out.size) hb2.out (after HT0.out (below1 _ _) HT0.out.size).size)) | (go_at_call 54; refine (reads_none ⟨1, k, a, b, tt, el, f, n, l, c, sg, xs, ms⟩ ao mo ac mc _ rfl rfl (show ¬ (1 : Int) = 15 by decide)).mono ?_; rintro e w3 ⟨rfl, hb3⟩; have HT2 := hid (after HT1.out hb3.out HT1.out.size)) | (go_at_call 53; refine (has_nil x (some ⟨bv, ov, none⟩) fa ia vc fc ic _).mono ?_; rintro e w4 ⟨rfl, hb4⟩; have HT3 := hid (after HT2.out hb4.out HT2.out.size)))
  refine hK.out _ _ ?_ (fun hHeld12 => ?_)
  · (try dsimp only) <;> (first | exact HKp.out _ HT3.out | exact HKp.out _ HT2.out | exact HKp.out _ HT1.out | exact HKp.out _ HT0.out | exact HKp.out _ (after HT0.out (below1 _ _) HT0.out.size))
  clear hK K hHeld9
  try simp only [Act.put, List.setIfInBounds_toArray, List.set_cons_zero, List.set_cons_succ]
  refine wpAnyH_take (i := 13) (oi := { dst := Option.some 36, op := Go.Op.unOp Go.UnOp.not 4 (Go.Operand.tmp 35), type := 4, pos := "ref.go:180", after := #[{ on := 12, ground := Go.Ground.data }, { on := 8, ground := Go.Ground.guard }], guard := Option.some (8, Bool.false) }) (v := ?_) rfl (by kernel_rfl) (by kernel_rfl) (by kernel_rfl) (fun _ _ _ h => h) (Or.inl ⟨by rfl, ?_⟩) (by assumption) ?_
  rotate_left
  · intro w5x hSwx
    try dsimp only at hSwx
    go_simp
    try with_reducible rfl
  try simp only [Act.put, List.setIfInBounds_toArray, List.set_cons_zero, List.set_cons_succ]
  refine wpAnyH_take (i := 14) (oi := { dst := Option.some 37, op := Go.Op.pick (Go.Operand.tmp 31) (Go.Operand.const (Go.Value.bool Bool.true)) (Go.Operand.tmp 36), type := 4, pos := "ref.go:180", after := #[{ on := 8, ground := Go.Ground.data }, { on := 13, ground := Go.Ground.data }], guard := Option.none }) (v := ?_) rfl (by kernel_rfl) (by kernel_rfl) (by kernel_rfl) (fun _ _ _ h => h) (Or.inl ⟨by rfl, ?_⟩) (by assumption) ?_
  rotate_left
  · intro w5x hSwx
    try dsimp only at hSwx
    go_simp
    try with_reducible rfl
  try simp only [Act.put, List.setIfInBounds_toArray, List.set_cons_zero, List.set_cons_succ]
  refine wpAnyH_done (by kernel_rfl) ?_ _
  have hy := (HKp.out _ HT3.out).2.1
  have hx := (HKp.out _ HT3.out).2.2
  have hvv := cell_keep (HKp.out _ HT3.out).1.out (cell_lt HV0.out) HV0.out
  go_wp2_with (first
    | (go_at_call 40; refine (one_i _ _ _).mono ?_; rintro e w' ⟨rfl, rfl⟩))
  all_goals go_ret
  all_goals exact ⟨rfl, (HKp.out _ HT3.out).1⟩
end Go.Proofs.Ytfhdiahjfnphkaa
