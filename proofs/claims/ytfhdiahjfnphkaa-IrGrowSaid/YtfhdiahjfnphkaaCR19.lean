/- What a load and a store ask. No conditions. -/
import Derived.Test.YtfhdiahjfnphkaaCR18
namespace Go.Proofs.Ytfhdiahjfnphkaa
open Go.RowKit Go.Maps
set_option linter.unusedVariables false
set_option linter.unusedSimpArgs false
def fitsF (ss : List StD) (x : CoD) (r : InD) (v : Int) (ptr : Bool) : Int :=
  if (fieldF ss x r v).2 = 0 then (if (fieldF ss x r v).1.p == ptr && tyEq (tyOf x v) (fieldF ss x r v).1 then 0 else 7) else (fieldF ss x r v).2
set_option maxRecDepth 100000 in
set_option maxHeartbeats 4000000 in
theorem fits_no (p : JP) (J : Nat) (op d a b tt el f n l c : Int) (sg : ByteArray) (xs ms : List Int) (v g : Int) (tp : Bool) (tn : ByteArray) (ptr : Bool) (ao mo : Option Addr) (ac mc : Nat) (w : World) (hg : ¬ g = 0)
    (hF : ∀ W, Below w.heap.size w W → Calls Try.prog 83 #[.pointer (some ⟨J, 0, none⟩), .agg (InV ⟨op, d, a, b, tt, el, f, n, l, c, sg, xs, ms⟩ ao ac mo mc), .int .i64 v] W fun e w' => e = .returned (.tuple #[.agg #[.bool tp, .string tn], .int .i64 g]) ∧ Hid (Below W.heap.size W w')) :
    Calls Try.prog 80 #[.pointer (some ⟨J, 0, none⟩), .agg (InV ⟨op, d, a, b, tt, el, f, n, l, c, sg, xs, ms⟩ ao ac mo mc), .int .i64 v, .bool ptr] w fun e w' => e = .returned (.int .i64 g) ∧ Hid (Below w.heap.size w w') := by
  have HF := hid hF
  have HB := hid (below1 w (.cells (InV ⟨op, d, a, b, tt, el, f, n, l, c, sg, xs, ms⟩ ao ac mo mc) 49))
  have HX := hid (heap_alloc_new w (.cells (InV ⟨op, d, a, b, tt, el, f, n, l, c, sg, xs, ms⟩ ao ac mo mc) 49))
  have hne : (g != 0) = true := by simpa using hg
  clear hF
  go_enter Try.func80, Try.ntmps80
  go_wp2_with (first
    | (go_at_call 83; refine (HF.out _ HB.out).mono ?_; rintro e w1 ⟨rfl, hb1⟩; have HB1 := hid (after HB.out hb1.out HB.out.size)))
  go_ret
  exact ⟨rfl, hid (after HB1.out (below1 _ _) HB1.out.size)⟩
set_option maxRecDepth 100000 in
set_option maxHeartbeats 8000000 in
theorem fits_yes (p : JP) (J : Nat) (op d a b tt el f n l c : Int) (sg : ByteArray) (xs ms : List Int) (k : Nat) (p2 : Bool) (nm2 : ByteArray) (tp : Bool) (tn : ByteArray) (ptr : Bool) (ao mo : Option Addr) (ac mc : Nat) (w : World) (hj : JG w J p) (hv : KindIs p.x k p2 nm2)
    (hF : ∀ W, Below w.heap.size w W → Calls Try.prog 83 #[.pointer (some ⟨J, 0, none⟩), .agg (InV ⟨op, d, a, b, tt, el, f, n, l, c, sg, xs, ms⟩ ao ac mo mc), .int .i64 k] W fun e w' => e = .returned (.tuple #[.agg #[.bool tp, .string tn], .int .i64 0]) ∧ Hid (Below W.heap.size W w')) :
    Calls Try.prog 80 #[.pointer (some ⟨J, 0, none⟩), .agg (InV ⟨op, d, a, b, tt, el, f, n, l, c, sg, xs, ms⟩ ao ac mo mc), .int .i64 k, .bool ptr] w fun e w' => e = .returned (.int .i64 (if tp == ptr && tyEq ⟨p2, nm2⟩ ⟨tp, tn⟩ then 0 else 7)) ∧ Hid (Below w.heap.size w w') := by
  have HF := hid hF
  have HJ := hid (fun W (hb : Below w.heap.size w W) => hj.later hb)
  have HV := hid hv
  have HB := hid (below1 w (.cells (InV ⟨op, d, a, b, tt, el, f, n, l, c, sg, xs, ms⟩ ao ac mo mc) 49))
  have HX := hid (heap_alloc_new w (.cells (InV ⟨op, d, a, b, tt, el, f, n, l, c, sg, xs, ms⟩ ao ac mo mc) 49))
  obtain ⟨q2, hq2⟩ : ∃ q, (nm2.toList == tn.toList) = q := ⟨_, rfl⟩
  have hf : (if tp == ptr && tyEq ⟨p2, nm2⟩ ⟨tp, tn⟩ then (0 : Int) else 7) = if tp == ptr && ((p2 == tp) && q2) then 0 else 7 := by simp only [tyEq, sEq, hq2]
  rw [hf]
  have hk1 : ∀ W, Below w.heap.size w W → Calls Try.prog 76 #[.pointer (some ⟨J, 0, none⟩), .int .i64 k] W fun e w' => e = .returned (.agg #[.bool p2, .string nm2]) ∧ Hid (Below W.heap.size W w') := fun W hW => kind_j p k _ _ J W (HJ.out _ hW) HV.out
  have HK1 := hid hk1
  clear hF hf hj hv hk1
  cases tp
  · cases ptr
    all_goals cases p2
    all_goals cases q2
    all_goals
      go_enter Try.func80, Try.ntmps80
      go_wp2_with (first
        | (go_at_call 83; refine (HF.out _ HB.out).mono ?_; rintro e w1 ⟨rfl, hb1⟩; have HB1 := hid (after HB.out hb1.out HB.out.size)))
      have HD0 := hid ((after HB1.out (below1 w1 (.cells #[.bool false, .string tn] 31)) HB1.out.size).drew)
      have HT : Hid ((w1.alloc (.cells #[.bool false, .string tn] 31)).drew.heap[w1.heap.size]? = some (.cells #[.bool false, .string tn] 31 (0, 0))) := hid (heap_alloc_new w1 _)
      have HDc := hid (Below.refl (w1.alloc (.cells #[.bool false, .string tn] 31)).drew.heap.size (w1.alloc (.cells #[.bool false, .string tn] 31)).drew)
      first
        | refine wp_region_held_drew (S := fun W => Hid (Below w.heap.size w W) ∧ (∀ i, W.cell? ⟨w1.heap.size, i, none⟩ = (#[.bool false, .string tn] : Array Value)[i]?)) (by kernel_rfl) ?_ (fun hHeld0 => ?_)
          · (try dsimp only) <;> (first | exact ⟨hid (after HD0.out HDc.out HD0.out.size), cells_at (lay HDc.out HT.out)⟩)
          refine wpAnyH_take (i := 0) (oi := { dst := Option.some 21, op := Go.Op.fieldAddr 31 (Go.Operand.tmp 9) 0, type := 0, pos := "ir.go:351", after := #[], guard := Option.none }) (v := ?_) rfl (by kernel_rfl) (by kernel_rfl) (by kernel_rfl) (fun _ _ _ h => h) (Or.inl ⟨by rfl, ?_⟩) (by assumption) ?_
          rotate_left
          · intro w5x hSwx
            try dsimp only at hSwx
            go_simp
            try with_reducible rfl
          try simp only [Act.put, List.setIfInBounds_toArray, List.set_cons_zero, List.set_cons_succ]
          refine wpAnyH_take (i := 1) (oi := { dst := Option.some 22, op := Go.Op.load 4 (Go.Operand.tmp 21), type := 4, pos := "ir.go:351", after := #[{ on := 0, ground := Go.Ground.data }], guard := Option.none }) (v := ?_) rfl (by kernel_rfl) (by kernel_rfl) (by kernel_rfl) (fun _ _ _ h => h) (Or.inl ⟨by rfl, ?_⟩) (by assumption) ?_
          rotate_left
          · intro w5x hSwx
            try dsimp only at hSwx
            go_simp
            try with_reducible rfl
          try simp only [Act.put, List.setIfInBounds_toArray, List.set_cons_zero, List.set_cons_succ]
          refine wpAnyH_take (i := 2) (oi := { dst := Option.some 23, op := Go.Op.move (Go.Operand.tmp 3), type := 4, pos := "ir.go:351", after := #[], guard := Option.none }) (v := ?_) rfl (by kernel_rfl) (by kernel_rfl) (by kernel_rfl) (fun _ _ _ h => h) (Or.inl ⟨by rfl, ?_⟩) (by assumption) ?_
          rotate_left
          · intro w5x hSwx
            try dsimp only at hSwx
            go_simp
            try with_reducible rfl
          try simp only [Act.put, List.setIfInBounds_toArray, List.set_cons_zero, List.set_cons_succ]
          refine wpAnyH_take (i := 3) (oi := { dst := Option.some 24, op := Go.Op.binOp Go.BinOp.neq 4 (Go.Operand.tmp 22) (Go.Operand.tmp 23) 4, type := 4, pos := "ir.go:351", after := #[{ on := 1, ground := Go.Ground.data }, { on := 2, ground := Go.Ground.data }], guard := Option.none }) (v := ?_) rfl (by kernel_rfl) (by kernel_rfl) (by kernel_rfl) (fun _ _ _ h => h) (Or.inl ⟨by rfl, ?_⟩) (by assumption) ?_
          rotate_left
          · intro w5x hSwx
            try dsimp only at hSwx
            go_simp
            try with_reducible rfl
          try simp only [Act.put, List.setIfInBounds_toArray, List.set_cons_zero, List.set_cons_succ]
          refine wpAnyH_take (i := 4) (oi := { dst := Option.some 25, op := Go.Op.move (Go.Operand.tmp 24), type := 4, pos := "ir.go:351", after := #[{ on := 3, ground := Go.Ground.data }], guard := Option.none }) (v := ?_) rfl (by kernel_rfl) (by kernel_rfl) (by kernel_rfl) (fun _ _ _ h => h) (Or.inl ⟨by rfl, ?_⟩) (by assumption) ?_
          rotate_left
          · intro w5x hSwx
            try dsimp only at hSwx
            go_simp
            try with_reducible rfl
          try simp only [Act.put, List.setIfInBounds_toArray, List.set_cons_zero, List.set_cons_succ]
          refine wpAnyH_take (i := 5) (oi := { dst := Option.some 26, op := Go.Op.move (Go.Operand.tmp 0), type := 67, pos := "ir.go:351", after := #[{ on := 4, ground := Go.Ground.guard }], guard := Option.some (4, Bool.false) }) (v := ?_) rfl (by kernel_rfl) (by kernel_rfl) (by kernel_rfl) (fun _ _ _ h => h) (Or.inl ⟨by rfl, ?_⟩) (by assumption) ?_
          rotate_left
          · intro w5x hSwx
            try dsimp only at hSwx
            go_simp
            try with_reducible rfl
          try simp only [Act.put, List.setIfInBounds_toArray, List.set_cons_zero, List.set_cons_succ]
          refine wpAnyH_take (i := 6) (oi := { dst := Option.some 27, op := Go.Op.move (Go.Operand.tmp 2), type := 3, pos := "ir.go:351", after := #[{ on := 4, ground := Go.Ground.guard }], guard := Option.some (4, Bool.false) }) (v := ?_) rfl (by kernel_rfl) (by kernel_rfl) (by kernel_rfl) (fun _ _ _ h => h) (Or.inl ⟨by rfl, ?_⟩) (by assumption) ?_
          rotate_left
          · intro w5x hSwx
            try dsimp only at hSwx
            go_simp
            try with_reducible rfl
          try simp only [Act.put, List.setIfInBounds_toArray, List.set_cons_zero, List.set_cons_succ]
          refine wpAnyH_take (i := 8) (oi := { dst := Option.some 29, op := Go.Op.load 31 (Go.Operand.tmp 9), type := 31, pos := "ir.go:351", after := #[{ on := 4, ground := Go.Ground.guard }], guard := Option.some (4, Bool.false) }) (v := ?_) rfl (by kernel_rfl) (by kernel_rfl) (by kernel_rfl) (fun _ _ _ h => h) (Or.inl ⟨by rfl, ?_⟩) (by assumption) ?_
          rotate_left
          · intro w5x hSwx
            try dsimp only at hSwx
            go_simp
            try with_reducible rfl
          try simp only [Act.put, List.setIfInBounds_toArray, List.set_cons_zero, List.set_cons_succ]
          refine wpAnyH_ready (rs := [7]) (by kernel_rfl) (by simp) ?_
          refine AllReadyH.cons (o := { dst := Option.some 28, op := Go.Op.call { callee := Go.Callee.value (Go.Operand.func 76), args := #[Go.Operand.tmp 26, Go.Operand.tmp 27], argTypes := #[67, 3] }, type := 31, pos := "ir.go:351", after := #[{ on := 5, ground := Go.Ground.data }, { on := 6, ground := Go.Ground.data }, { on := 4, ground := Go.Ground.chain }, { on := 4, ground := Go.Ground.guard }], guard := Option.some (4, Bool.false) }) rfl (fun K hK => ?_) AllReadyH.nil
          go_simp
          go_wp2_with (first | (go_at_call 76; have tok := HDc; with_reducible (refine (HK1.out _ HD0.out).mono ?_); rintro e v ⟨rfl, hv⟩; have HDc := hid (after tok.out hv.out tok.out.size); clear tok hv) | (go_at_call 75; refine (mist_i _ _).mono ?_; rintro e w' ⟨rfl, rfl⟩))
          refine hK.out _ _ ?_ (fun hHeld3 => ?_)
          · (try dsimp only) <;> (first | exact ⟨hid (after HD0.out HDc.out HD0.out.size), cells_at (lay HDc.out HT.out)⟩)
          clear hK K hHeld0
          try simp only [Act.put, List.setIfInBounds_toArray, List.set_cons_zero, List.set_cons_succ]
          refine wpAnyH_take (i := 9) (oi := { dst := Option.some 30, op := Go.Op.binOp Go.BinOp.neq 31 (Go.Operand.tmp 28) (Go.Operand.tmp 29) 31, type := 4, pos := "ir.go:351", after := #[{ on := 7, ground := Go.Ground.data }, { on := 8, ground := Go.Ground.data }, { on := 4, ground := Go.Ground.guard }], guard := Option.some (4, Bool.false) }) (v := ?_) rfl (by kernel_rfl) (by kernel_rfl) (by kernel_rfl) (fun _ _ _ h => h) (Or.inl ⟨by rfl, ?_⟩) (by assumption) ?_
          rotate_left
          · intro w5x hSwx
            try dsimp only at hSwx
            go_simp
            try with_reducible rfl
          try simp only [Act.put, List.setIfInBounds_toArray, List.set_cons_zero, List.set_cons_succ]
          refine wpAnyH_take (i := 10) (oi := { dst := Option.some 31, op := Go.Op.pick (Go.Operand.tmp 25) (Go.Operand.const (Go.Value.bool Bool.true)) (Go.Operand.tmp 30), type := 4, pos := "ir.go:351", after := #[{ on := 4, ground := Go.Ground.data }, { on := 9, ground := Go.Ground.data }], guard := Option.none }) (v := ?_) rfl (by kernel_rfl) (by kernel_rfl) (by kernel_rfl) (fun _ _ _ h => h) (Or.inl ⟨by rfl, ?_⟩) (by assumption) ?_
          rotate_left
          · intro w5x hSwx
            try dsimp only at hSwx
            go_simp
            try with_reducible rfl
          try simp only [Act.put, List.setIfInBounds_toArray, List.set_cons_zero, List.set_cons_succ]
          refine wpAnyH_ready (rs := [11]) (by kernel_rfl) (by simp) ?_
          refine AllReadyH.cons (o := { dst := Option.some 32, op := Go.Op.call { callee := Go.Callee.value (Go.Operand.func 75), args := #[Go.Operand.tmp 31], argTypes := #[4] }, type := 41, pos := "ir.go:351", after := #[{ on := 10, ground := Go.Ground.data }, { on := 7, ground := Go.Ground.chain }], guard := Option.none }) rfl (fun K hK => ?_) AllReadyH.nil
          go_simp
          go_wp2_with (first | (go_at_call 76; have tok := HDc; with_reducible (refine (HK1.out _ HD0.out).mono ?_); rintro e v ⟨rfl, hv⟩; have HDc := hid (after tok.out hv.out tok.out.size); clear tok hv) | (go_at_call 75; refine (mist_i _ _).mono ?_; rintro e w' ⟨rfl, rfl⟩))
          refine hK.out _ _ ?_ (fun hHeld6 => ?_)
          · (try dsimp only) <;> (first | exact ⟨hid (after HD0.out HDc.out HD0.out.size), cells_at (lay HDc.out HT.out)⟩)
          clear hK K hHeld3
          try simp only [Act.put, List.setIfInBounds_toArray, List.set_cons_zero, List.set_cons_succ]
          refine wpAnyH_take (i := 12) (oi := { dst := Option.some 8, op := Go.Op.assign (Go.Operand.tmp 32), type := 41, pos := "ir.go:351", after := #[{ on := 11, ground := Go.Ground.data }, { on := 11, ground := Go.Ground.chain }, { on := 0, ground := Go.Ground.phase }, { on := 1, ground := Go.Ground.phase }, { on := 2, ground := Go.Ground.phase }, { on := 3, ground := Go.Ground.phase }, { on := 4, ground := Go.Ground.phase }, { on := 5, ground := Go.Ground.phase }, { on := 6, ground := Go.Ground.phase }, { on := 7, ground := Go.Ground.phase }, { on := 8, ground := Go.Ground.phase }, { on := 9, ground := Go.Ground.phase }, { on := 10, ground := Go.Ground.phase }, { on := 11, ground := Go.Ground.phase }], guard := Option.none }) (v := ?_) rfl (by kernel_rfl) (by kernel_rfl) (by kernel_rfl) (fun _ _ _ h => h) (Or.inl ⟨by rfl, ?_⟩) (by assumption) ?_
          rotate_left
          · intro w5x hSwx
            try dsimp only at hSwx
            go_simp
            try with_reducible rfl
          try simp only [Act.put, List.setIfInBounds_toArray, List.set_cons_zero, List.set_cons_succ]
          refine wpAnyH_done (by kernel_rfl) ?_ _
        | refine wp_region_held_drew (S := fun W => Hid (Below w.heap.size w W) ∧ (∀ i, W.cell? ⟨w1.heap.size, i, none⟩ = (#[.bool false, .string tn] : Array Value)[i]?)) (by kernel_rfl) ?_ (fun hHeld0 => ?_)
          · (try dsimp only) <;> (first | exact ⟨hid (after HD0.out HDc.out HD0.out.size), cells_at (lay HDc.out HT.out)⟩)
          refine wpAnyH_take (i := 0) (oi := { dst := Option.some 21, op := Go.Op.fieldAddr 31 (Go.Operand.tmp 9) 0, type := 0, pos := "ir.go:351", after := #[], guard := Option.none }) (v := ?_) rfl (by kernel_rfl) (by kernel_rfl) (by kernel_rfl) (fun _ _ _ h => h) (Or.inl ⟨by rfl, ?_⟩) (by assumption) ?_
          rotate_left
          · intro w5x hSwx
            try dsimp only at hSwx
            go_simp
            try with_reducible rfl
          try simp only [Act.put, List.setIfInBounds_toArray, List.set_cons_zero, List.set_cons_succ]
          refine wpAnyH_take (i := 1) (oi := { dst := Option.some 22, op := Go.Op.load 4 (Go.Operand.tmp 21), type := 4, pos := "ir.go:351", after := #[{ on := 0, ground := Go.Ground.data }], guard := Option.none }) (v := ?_) rfl (by kernel_rfl) (by kernel_rfl) (by kernel_rfl) (fun _ _ _ h => h) (Or.inl ⟨by rfl, ?_⟩) (by assumption) ?_
          rotate_left
          · intro w5x hSwx
            try dsimp only at hSwx
            go_simp
            try with_reducible rfl
          try simp only [Act.put, List.setIfInBounds_toArray, List.set_cons_zero, List.set_cons_succ]
          refine wpAnyH_take (i := 2) (oi := { dst := Option.some 23, op := Go.Op.move (Go.Operand.tmp 3), type := 4, pos := "ir.go:351", after := #[], guard := Option.none }) (v := ?_) rfl (by kernel_rfl) (by kernel_rfl) (by kernel_rfl) (fun _ _ _ h => h) (Or.inl ⟨by rfl, ?_⟩) (by assumption) ?_
          rotate_left
          · intro w5x hSwx
            try dsimp only at hSwx
            go_simp
            try with_reducible rfl
          try simp only [Act.put, List.setIfInBounds_toArray, List.set_cons_zero, List.set_cons_succ]
          refine wpAnyH_take (i := 3) (oi := { dst := Option.some 24, op := Go.Op.binOp Go.BinOp.neq 4 (Go.Operand.tmp 22) (Go.Operand.tmp 23) 4, type := 4, pos := "ir.go:351", after := #[{ on := 1, ground := Go.Ground.data }, { on := 2, ground := Go.Ground.data }], guard := Option.none }) (v := ?_) rfl (by kernel_rfl) (by kernel_rfl) (by kernel_rfl) (fun _ _ _ h => h) (Or.inl ⟨by rfl, ?_⟩) (by assumption) ?_
          rotate_left
          · intro w5x hSwx
            try dsimp only at hSwx
            go_simp
            try with_reducible rfl
          try simp only [Act.put, List.setIfInBounds_toArray, List.set_cons_zero, List.set_cons_succ]
          refine wpAnyH_take (i := 4) (oi := { dst := Option.some 25, op := Go.Op.move (Go.Operand.tmp 24), type := 4, pos := "ir.go:351", after := #[{ on := 3, ground := Go.Ground.data }], guard := Option.none }) (v := ?_) rfl (by kernel_rfl) (by kernel_rfl) (by kernel_rfl) (fun _ _ _ h => h) (Or.inl ⟨by rfl, ?_⟩) (by assumption) ?_
          rotate_left
          · intro w5x hSwx
            try dsimp only at hSwx
            go_simp
            try with_reducible rfl
          try simp only [Act.put, List.setIfInBounds_toArray, List.set_cons_zero, List.set_cons_succ]
          refine wpAnyH_take (i := 5) (oi := { dst := Option.some 26, op := Go.Op.move (Go.Operand.tmp 0), type := 67, pos := "ir.go:351", after := #[{ on := 4, ground := Go.Ground.guard }], guard := Option.some (4, Bool.false) }) (v := undef) rfl (by kernel_rfl) (by kernel_rfl) (by kernel_rfl) (fun _ _ _ h => h) (Or.inr ⟨by rfl, rfl⟩) (by assumption) ?_
          try simp only [Act.put, List.setIfInBounds_toArray, List.set_cons_zero, List.set_cons_succ]
          refine wpAnyH_take (i := 6) (oi := { dst := Option.some 27, op := Go.Op.move (Go.Operand.tmp 2), type := 3, pos := "ir.go:351", after := #[{ on := 4, ground := Go.Ground.guard }], guard := Option.some (4, Bool.false) }) (v := undef) rfl (by kernel_rfl) (by kernel_rfl) (by kernel_rfl) (fun _ _ _ h => h) (Or.inr ⟨by rfl, rfl⟩) (by assumption) ?_
          try simp only [Act.put, List.setIfInBounds_toArray, List.set_cons_zero, List.set_cons_succ]
          refine wpAnyH_take (i := 7) (oi := { dst := Option.some 28, op := Go.Op.call { callee := Go.Callee.value (Go.Operand.func 76), args := #[Go.Operand.tmp 26, Go.Operand.tmp 27], argTypes := #[67, 3] }, type := 31, pos := "ir.go:351", after := #[{ on := 5, ground := Go.Ground.data }, { on := 6, ground := Go.Ground.data }, { on := 4, ground := Go.Ground.chain }, { on := 4, ground := Go.Ground.guard }], guard := Option.some (4, Bool.false) }) (v := undef) rfl (by kernel_rfl) (by kernel_rfl) (by kernel_rfl) (fun _ _ _ h => h) (Or.inr ⟨by rfl, rfl⟩) (by assumption) ?_
          try simp only [Act.put, List.setIfInBounds_toArray, List.set_cons_zero, List.set_cons_succ]
          refine wpAnyH_take (i := 8) (oi := { dst := Option.some 29, op := Go.Op.load 31 (Go.Operand.tmp 9), type := 31, pos := "ir.go:351", after := #[{ on := 4, ground := Go.Ground.guard }], guard := Option.some (4, Bool.false) }) (v := undef) rfl (by kernel_rfl) (by kernel_rfl) (by kernel_rfl) (fun _ _ _ h => h) (Or.inr ⟨by rfl, rfl⟩) (by assumption) ?_
          try simp only [Act.put, List.setIfInBounds_toArray, List.set_cons_zero, List.set_cons_succ]
          refine wpAnyH_take (i := 9) (oi := { dst := Option.some 30, op := Go.Op.binOp Go.BinOp.neq 31 (Go.Operand.tmp 28) (Go.Operand.tmp 29) 31, type := 4, pos := "ir.go:351", after := #[{ on := 7, ground := Go.Ground.data }, { on := 8, ground := Go.Ground.data }, { on := 4, ground := Go.Ground.guard }], guard := Option.some (4, Bool.false) }) (v := undef) rfl (by kernel_rfl) (by kernel_rfl) (by kernel_rfl) (fun _ _ _ h => h) (Or.inr ⟨by rfl, rfl⟩) (by assumption) ?_
          try simp only [Act.put, List.setIfInBounds_toArray, List.set_cons_zero, List.set_cons_succ]
          refine wpAnyH_take (i := 10) (oi := { dst := Option.some 31, op := Go.Op.pick (Go.Operand.tmp 25) (Go.Operand.const (Go.Value.bool Bool.true)) (Go.Operand.tmp 30), type := 4, pos := "ir.go:351", after := #[{ on := 4, ground := Go.Ground.data }, { on := 9, ground := Go.Ground.data }], guard := Option.none }) (v := ?_) rfl (by kernel_rfl) (by kernel_rfl) (by kernel_rfl) (fun _ _ _ h => h) (Or.inl ⟨by rfl, ?_⟩) (by assumption) ?_
          rotate_left
          · intro w5x hSwx
            try dsimp only at hSwx
            go_simp
            try with_reducible rfl
          try simp only [Act.put, List.setIfInBounds_toArray, List.set_cons_zero, List.set_cons_succ]
          refine wpAnyH_ready (rs := [11]) (by kernel_rfl) (by simp) ?_
          refine AllReadyH.cons (o := { dst := Option.some 32, op := Go.Op.call { callee := Go.Callee.value (Go.Operand.func 75), args := #[Go.Operand.tmp 31], argTypes := #[4] }, type := 41, pos := "ir.go:351", after := #[{ on := 10, ground := Go.Ground.data }, { on := 7, ground := Go.Ground.chain }], guard := Option.none }) rfl (fun K hK => ?_) AllReadyH.nil
          go_simp
          go_wp2_with (first | (go_at_call 76; have tok := HDc; with_reducible (refine (HK1.out _ HD0.out).mono ?_); rintro e v ⟨rfl, hv⟩; have HDc := hid (after tok.out hv.out tok.out.size); clear tok hv) | (go_at_call 75; refine (mist_i _ _).mono ?_; rintro e w' ⟨rfl, rfl⟩))
          refine hK.out _ _ ?_ (fun hHeld3 => ?_)
          · (try dsimp only) <;> (first | exact ⟨hid (after HD0.out HDc.out HD0.out.size), cells_at (lay HDc.out HT.out)⟩)
          clear hK K hHeld0
          try simp only [Act.put, List.setIfInBounds_toArray, List.set_cons_zero, List.set_cons_succ]
          refine wpAnyH_take (i := 12) (oi := { dst := Option.some 8, op := Go.Op.assign (Go.Operand.tmp 32), type := 41, pos := "ir.go:351", after := #[{ on := 11, ground := Go.Ground.data }, { on := 11, ground := Go.Ground.chain }, { on := 0, ground := Go.Ground.phase }, { on := 1, ground := Go.Ground.phase }, { on := 2, ground := Go.Ground.phase }, { on := 3, ground := Go.Ground.phase }, { on := 4, ground := Go.Ground.phase }, { on := 5, ground := Go.Ground.phase }, { on := 6, ground := Go.Ground.phase }, { on := 7, ground := Go.Ground.phase }, { on := 8, ground := Go.Ground.phase }, { on := 9, ground := Go.Ground.phase }, { on := 10, ground := Go.Ground.phase }, { on := 11, ground := Go.Ground.phase }], guard := Option.none }) (v := ?_) rfl (by kernel_rfl) (by kernel_rfl) (by kernel_rfl) (fun _ _ _ h => h) (Or.inl ⟨by rfl, ?_⟩) (by assumption) ?_
          rotate_left
          · intro w5x hSwx
            try dsimp only at hSwx
            go_simp
            try with_reducible rfl
          try simp only [Act.put, List.setIfInBounds_toArray, List.set_cons_zero, List.set_cons_succ]
          refine wpAnyH_done (by kernel_rfl) ?_ _
      all_goals go_wp2
      all_goals go_ret
      all_goals exact ⟨rfl, hid (after HD0.out HDc.out HD0.out.size)⟩
  · cases ptr
    all_goals cases p2
    all_goals cases q2
    all_goals
      go_enter Try.func80, Try.ntmps80
      go_wp2_with (first
        | (go_at_call 83; refine (HF.out _ HB.out).mono ?_; rintro e w1 ⟨rfl, hb1⟩; have HB1 := hid (after HB.out hb1.out HB.out.size)))
      have HD0 := hid ((after HB1.out (below1 w1 (.cells #[.bool true, .string tn] 31)) HB1.out.size).drew)
      have HT : Hid ((w1.alloc (.cells #[.bool true, .string tn] 31)).drew.heap[w1.heap.size]? = some (.cells #[.bool true, .string tn] 31 (0, 0))) := hid (heap_alloc_new w1 _)
      have HDc := hid (Below.refl (w1.alloc (.cells #[.bool true, .string tn] 31)).drew.heap.size (w1.alloc (.cells #[.bool true, .string tn] 31)).drew)
      first
        | refine wp_region_held_drew (S := fun W => Hid (Below w.heap.size w W) ∧ (∀ i, W.cell? ⟨w1.heap.size, i, none⟩ = (#[.bool true, .string tn] : Array Value)[i]?)) (by kernel_rfl) ?_ (fun hHeld0 => ?_)
          · (try dsimp only) <;> (first | exact ⟨hid (after HD0.out HDc.out HD0.out.size), cells_at (lay HDc.out HT.out)⟩)
          refine wpAnyH_take (i := 0) (oi := { dst := Option.some 21, op := Go.Op.fieldAddr 31 (Go.Operand.tmp 9) 0, type := 0, pos := "ir.go:351", after := #[], guard := Option.none }) (v := ?_) rfl (by kernel_rfl) (by kernel_rfl) (by kernel_rfl) (fun _ _ _ h => h) (Or.inl ⟨by rfl, ?_⟩) (by assumption) ?_
          rotate_left
          · intro w5x hSwx
            try dsimp only at hSwx
            go_simp
            try with_reducible rfl
          try simp only [Act.put, List.setIfInBounds_toArray, List.set_cons_zero, List.set_cons_succ]
          refine wpAnyH_take (i := 1) (oi := { dst := Option.some 22, op := Go.Op.load 4 (Go.Operand.tmp 21), type := 4, pos := "ir.go:351", after := #[{ on := 0, ground := Go.Ground.data }], guard := Option.none }) (v := ?_) rfl (by kernel_rfl) (by kernel_rfl) (by kernel_rfl) (fun _ _ _ h => h) (Or.inl ⟨by rfl, ?_⟩) (by assumption) ?_
          rotate_left
          · intro w5x hSwx
            try dsimp only at hSwx
            go_simp
            try with_reducible rfl
          try simp only [Act.put, List.setIfInBounds_toArray, List.set_cons_zero, List.set_cons_succ]
          refine wpAnyH_take (i := 2) (oi := { dst := Option.some 23, op := Go.Op.move (Go.Operand.tmp 3), type := 4, pos := "ir.go:351", after := #[], guard := Option.none }) (v := ?_) rfl (by kernel_rfl) (by kernel_rfl) (by kernel_rfl) (fun _ _ _ h => h) (Or.inl ⟨by rfl, ?_⟩) (by assumption) ?_
          rotate_left
          · intro w5x hSwx
            try dsimp only at hSwx
            go_simp
            try with_reducible rfl
          try simp only [Act.put, List.setIfInBounds_toArray, List.set_cons_zero, List.set_cons_succ]
          refine wpAnyH_take (i := 3) (oi := { dst := Option.some 24, op := Go.Op.binOp Go.BinOp.neq 4 (Go.Operand.tmp 22) (Go.Operand.tmp 23) 4, type := 4, pos := "ir.go:351", after := #[{ on := 1, ground := Go.Ground.data }, { on := 2, ground := Go.Ground.data }], guard := Option.none }) (v := ?_) rfl (by kernel_rfl) (by kernel_rfl) (by kernel_rfl) (fun _ _ _ h => h) (Or.inl ⟨by rfl, ?_⟩) (by assumption) ?_
          rotate_left
          · intro w5x hSwx
            try dsimp only at hSwx
            go_simp
            try with_reducible rfl
          try simp only [Act.put, List.setIfInBounds_toArray, List.set_cons_zero, List.set_cons_succ]
          refine wpAnyH_take (i := 4) (oi := { dst := Option.some 25, op := Go.Op.move (Go.Operand.tmp 24), type := 4, pos := "ir.go:351", after := #[{ on := 3, ground := Go.Ground.data }], guard := Option.none }) (v := ?_) rfl (by kernel_rfl) (by kernel_rfl) (by kernel_rfl) (fun _ _ _ h => h) (Or.inl ⟨by rfl, ?_⟩) (by assumption) ?_
          rotate_left
          · intro w5x hSwx
            try dsimp only at hSwx
            go_simp
            try with_reducible rfl
          try simp only [Act.put, List.setIfInBounds_toArray, List.set_cons_zero, List.set_cons_succ]
          refine wpAnyH_take (i := 5) (oi := { dst := Option.some 26, op := Go.Op.move (Go.Operand.tmp 0), type := 67, pos := "ir.go:351", after := #[{ on := 4, ground := Go.Ground.guard }], guard := Option.some (4, Bool.false) }) (v := undef) rfl (by kernel_rfl) (by kernel_rfl) (by kernel_rfl) (fun _ _ _ h => h) (Or.inr ⟨by rfl, rfl⟩) (by assumption) ?_
          try simp only [Act.put, List.setIfInBounds_toArray, List.set_cons_zero, List.set_cons_succ]
          refine wpAnyH_take (i := 6) (oi := { dst := Option.some 27, op := Go.Op.move (Go.Operand.tmp 2), type := 3, pos := "ir.go:351", after := #[{ on := 4, ground := Go.Ground.guard }], guard := Option.some (4, Bool.false) }) (v := undef) rfl (by kernel_rfl) (by kernel_rfl) (by kernel_rfl) (fun _ _ _ h => h) (Or.inr ⟨by rfl, rfl⟩) (by assumption) ?_
          try simp only [Act.put, List.setIfInBounds_toArray, List.set_cons_zero, List.set_cons_succ]
          refine wpAnyH_take (i := 7) (oi := { dst := Option.some 28, op := Go.Op.call { callee := Go.Callee.value (Go.Operand.func 76), args := #[Go.Operand.tmp 26, Go.Operand.tmp 27], argTypes := #[67, 3] }, type := 31, pos := "ir.go:351", after := #[{ on := 5, ground := Go.Ground.data }, { on := 6, ground := Go.Ground.data }, { on := 4, ground := Go.Ground.chain }, { on := 4, ground := Go.Ground.guard }], guard := Option.some (4, Bool.false) }) (v := undef) rfl (by kernel_rfl) (by kernel_rfl) (by kernel_rfl) (fun _ _ _ h => h) (Or.inr ⟨by rfl, rfl⟩) (by assumption) ?_
          try simp only [Act.put, List.setIfInBounds_toArray, List.set_cons_zero, List.set_cons_succ]
          refine wpAnyH_take (i := 8) (oi := { dst := Option.some 29, op := Go.Op.load 31 (Go.Operand.tmp 9), type := 31, pos := "ir.go:351", after := #[{ on := 4, ground := Go.Ground.guard }], guard := Option.some (4, Bool.false) }) (v := undef) rfl (by kernel_rfl) (by kernel_rfl) (by kernel_rfl) (fun _ _ _ h => h) (Or.inr ⟨by rfl, rfl⟩) (by assumption) ?_
          try simp only [Act.put, List.setIfInBounds_toArray, List.set_cons_zero, List.set_cons_succ]
          refine wpAnyH_take (i := 9) (oi := { dst := Option.some 30, op := Go.Op.binOp Go.BinOp.neq 31 (Go.Operand.tmp 28) (Go.Operand.tmp 29) 31, type := 4, pos := "ir.go:351", after := #[{ on := 7, ground := Go.Ground.data }, { on := 8, ground := Go.Ground.data }, { on := 4, ground := Go.Ground.guard }], guard := Option.some (4, Bool.false) }) (v := undef) rfl (by kernel_rfl) (by kernel_rfl) (by kernel_rfl) (fun _ _ _ h => h) (Or.inr ⟨by rfl, rfl⟩) (by assumption) ?_
          try simp only [Act.put, List.setIfInBounds_toArray, List.set_cons_zero, List.set_cons_succ]
          refine wpAnyH_take (i := 10) (oi := { dst := Option.some 31, op := Go.Op.pick (Go.Operand.tmp 25) (Go.Operand.const (Go.Value.bool Bool.true)) (Go.Operand.tmp 30), type := 4, pos := "ir.go:351", after := #[{ on := 4, ground := Go.Ground.data }, { on := 9, ground := Go.Ground.data }], guard := Option.none }) (v := ?_) rfl (by kernel_rfl) (by kernel_rfl) (by kernel_rfl) (fun _ _ _ h => h) (Or.inl ⟨by rfl, ?_⟩) (by assumption) ?_
          rotate_left
          · intro w5x hSwx
            try dsimp only at hSwx
            go_simp
            try with_reducible rfl
          try simp only [Act.put, List.setIfInBounds_toArray, List.set_cons_zero, List.set_cons_succ]
          refine wpAnyH_ready (rs := [11]) (by kernel_rfl) (by simp) ?_
          refine AllReadyH.cons (o := { dst := Option.some 32, op := Go.Op.call { callee := Go.Callee.value (Go.Operand.func 75), args := #[Go.Operand.tmp 31], argTypes := #[4] }, type := 41, pos := "ir.go:351", after := #[{ on := 10, ground := Go.Ground.data }, { on := 7, ground := Go.Ground.chain }], guard := Option.none }) rfl (fun K hK => ?_) AllReadyH.nil
          go_simp
          go_wp2_with (first | (go_at_call 76; have tok := HDc; with_reducible (refine (HK1.out _ HD0.out).mono ?_); rintro e v ⟨rfl, hv⟩; have HDc := hid (after tok.out hv.out tok.out.size); clear tok hv) | (go_at_call 75; refine (mist_i _ _).mono ?_; rintro e w' ⟨rfl, rfl⟩))
          refine hK.out _ _ ?_ (fun hHeld3 => ?_)
          · (try dsimp only) <;> (first | exact ⟨hid (after HD0.out HDc.out HD0.out.size), cells_at (lay HDc.out HT.out)⟩)
          clear hK K hHeld0
          try simp only [Act.put, List.setIfInBounds_toArray, List.set_cons_zero, List.set_cons_succ]
          refine wpAnyH_take (i := 12) (oi := { dst := Option.some 8, op := Go.Op.assign (Go.Operand.tmp 32), type := 41, pos := "ir.go:351", after := #[{ on := 11, ground := Go.Ground.data }, { on := 11, ground := Go.Ground.chain }, { on := 0, ground := Go.Ground.phase }, { on := 1, ground := Go.Ground.phase }, { on := 2, ground := Go.Ground.phase }, { on := 3, ground := Go.Ground.phase }, { on := 4, ground := Go.Ground.phase }, { on := 5, ground := Go.Ground.phase }, { on := 6, ground := Go.Ground.phase }, { on := 7, ground := Go.Ground.phase }, { on := 8, ground := Go.Ground.phase }, { on := 9, ground := Go.Ground.phase }, { on := 10, ground := Go.Ground.phase }, { on := 11, ground := Go.Ground.phase }], guard := Option.none }) (v := ?_) rfl (by kernel_rfl) (by kernel_rfl) (by kernel_rfl) (fun _ _ _ h => h) (Or.inl ⟨by rfl, ?_⟩) (by assumption) ?_
          rotate_left
          · intro w5x hSwx
            try dsimp only at hSwx
            go_simp
            try with_reducible rfl
          try simp only [Act.put, List.setIfInBounds_toArray, List.set_cons_zero, List.set_cons_succ]
          refine wpAnyH_done (by kernel_rfl) ?_ _
        | refine wp_region_held_drew (S := fun W => Hid (Below w.heap.size w W) ∧ (∀ i, W.cell? ⟨w1.heap.size, i, none⟩ = (#[.bool true, .string tn] : Array Value)[i]?)) (by kernel_rfl) ?_ (fun hHeld0 => ?_)
          · (try dsimp only) <;> (first | exact ⟨hid (after HD0.out HDc.out HD0.out.size), cells_at (lay HDc.out HT.out)⟩)
          refine wpAnyH_take (i := 0) (oi := { dst := Option.some 21, op := Go.Op.fieldAddr 31 (Go.Operand.tmp 9) 0, type := 0, pos := "ir.go:351", after := #[], guard := Option.none }) (v := ?_) rfl (by kernel_rfl) (by kernel_rfl) (by kernel_rfl) (fun _ _ _ h => h) (Or.inl ⟨by rfl, ?_⟩) (by assumption) ?_
          rotate_left
          · intro w5x hSwx
            try dsimp only at hSwx
            go_simp
            try with_reducible rfl
          try simp only [Act.put, List.setIfInBounds_toArray, List.set_cons_zero, List.set_cons_succ]
          refine wpAnyH_take (i := 1) (oi := { dst := Option.some 22, op := Go.Op.load 4 (Go.Operand.tmp 21), type := 4, pos := "ir.go:351", after := #[{ on := 0, ground := Go.Ground.data }], guard := Option.none }) (v := ?_) rfl (by kernel_rfl) (by kernel_rfl) (by kernel_rfl) (fun _ _ _ h => h) (Or.inl ⟨by rfl, ?_⟩) (by assumption) ?_
          rotate_left
          · intro w5x hSwx
            try dsimp only at hSwx
            go_simp
            try with_reducible rfl
          try simp only [Act.put, List.setIfInBounds_toArray, List.set_cons_zero, List.set_cons_succ]
          refine wpAnyH_take (i := 2) (oi := { dst := Option.some 23, op := Go.Op.move (Go.Operand.tmp 3), type := 4, pos := "ir.go:351", after := #[], guard := Option.none }) (v := ?_) rfl (by kernel_rfl) (by kernel_rfl) (by kernel_rfl) (fun _ _ _ h => h) (Or.inl ⟨by rfl, ?_⟩) (by assumption) ?_
          rotate_left
          · intro w5x hSwx
            try dsimp only at hSwx
            go_simp
            try with_reducible rfl
          try simp only [Act.put, List.setIfInBounds_toArray, List.set_cons_zero, List.set_cons_succ]
          refine wpAnyH_take (i := 3) (oi := { dst := Option.some 24, op := Go.Op.binOp Go.BinOp.neq 4 (Go.Operand.tmp 22) (Go.Operand.tmp 23) 4, type := 4, pos := "ir.go:351", after := #[{ on := 1, ground := Go.Ground.data }, { on := 2, ground := Go.Ground.data }], guard := Option.none }) (v := ?_) rfl (by kernel_rfl) (by kernel_rfl) (by kernel_rfl) (fun _ _ _ h => h) (Or.inl ⟨by rfl, ?_⟩) (by assumption) ?_
          rotate_left
          · intro w5x hSwx
            try dsimp only at hSwx
            go_simp
            try with_reducible rfl
          try simp only [Act.put, List.setIfInBounds_toArray, List.set_cons_zero, List.set_cons_succ]
          refine wpAnyH_take (i := 4) (oi := { dst := Option.some 25, op := Go.Op.move (Go.Operand.tmp 24), type := 4, pos := "ir.go:351", after := #[{ on := 3, ground := Go.Ground.data }], guard := Option.none }) (v := ?_) rfl (by kernel_rfl) (by kernel_rfl) (by kernel_rfl) (fun _ _ _ h => h) (Or.inl ⟨by rfl, ?_⟩) (by assumption) ?_
          rotate_left
          · intro w5x hSwx
            try dsimp only at hSwx
            go_simp
            try with_reducible rfl
          try simp only [Act.put, List.setIfInBounds_toArray, List.set_cons_zero, List.set_cons_succ]
          refine wpAnyH_take (i := 5) (oi := { dst := Option.some 26, op := Go.Op.move (Go.Operand.tmp 0), type := 67, pos := "ir.go:351", after := #[{ on := 4, ground := Go.Ground.guard }], guard := Option.some (4, Bool.false) }) (v := ?_) rfl (by kernel_rfl) (by kernel_rfl) (by kernel_rfl) (fun _ _ _ h => h) (Or.inl ⟨by rfl, ?_⟩) (by assumption) ?_
          rotate_left
          · intro w5x hSwx
            try dsimp only at hSwx
            go_simp
            try with_reducible rfl
          try simp only [Act.put, List.setIfInBounds_toArray, List.set_cons_zero, List.set_cons_succ]
          refine wpAnyH_take (i := 6) (oi := { dst := Option.some 27, op := Go.Op.move (Go.Operand.tmp 2), type := 3, pos := "ir.go:351", after := #[{ on := 4, ground := Go.Ground.guard }], guard := Option.some (4, Bool.false) }) (v := ?_) rfl (by kernel_rfl) (by kernel_rfl) (by kernel_rfl) (fun _ _ _ h => h) (Or.inl ⟨by rfl, ?_⟩) (by assumption) ?_
          rotate_left
          · intro w5x hSwx
            try dsimp only at hSwx
            go_simp
            try with_reducible rfl
          try simp only [Act.put, List.setIfInBounds_toArray, List.set_cons_zero, List.set_cons_succ]
          refine wpAnyH_take (i := 8) (oi := { dst := Option.some 29, op := Go.Op.load 31 (Go.Operand.tmp 9), type := 31, pos := "ir.go:351", after := #[{ on := 4, ground := Go.Ground.guard }], guard := Option.some (4, Bool.false) }) (v := ?_) rfl (by kernel_rfl) (by kernel_rfl) (by kernel_rfl) (fun _ _ _ h => h) (Or.inl ⟨by rfl, ?_⟩) (by assumption) ?_
          rotate_left
          · intro w5x hSwx
            try dsimp only at hSwx
            go_simp
            try with_reducible rfl
          try simp only [Act.put, List.setIfInBounds_toArray, List.set_cons_zero, List.set_cons_succ]
          refine wpAnyH_ready (rs := [7]) (by kernel_rfl) (by simp) ?_
          refine AllReadyH.cons (o := { dst := Option.some 28, op := Go.Op.call { callee := Go.Callee.value (Go.Operand.func 76), args := #[Go.Operand.tmp 26, Go.Operand.tmp 27], argTypes := #[67, 3] }, type := 31, pos := "ir.go:351", after := #[{ on := 5, ground := Go.Ground.data }, { on := 6, ground := Go.Ground.data }, { on := 4, ground := Go.Ground.chain }, { on := 4, ground := Go.Ground.guard }], guard := Option.some (4, Bool.false) }) rfl (fun K hK => ?_) AllReadyH.nil
          go_simp
          go_wp2_with (first | (go_at_call 76; have tok := HDc; with_reducible (refine (HK1.out _ HD0.out).mono ?_); rintro e v ⟨rfl, hv⟩; have HDc := hid (after tok.out hv.out tok.out.size); clear tok hv) | (go_at_call 75; refine (mist_i _ _).mono ?_; rintro e w' ⟨rfl, rfl⟩))
          refine hK.out _ _ ?_ (fun hHeld3 => ?_)
          · (try dsimp only) <;> (first | exact ⟨hid (after HD0.out HDc.out HD0.out.size), cells_at (lay HDc.out HT.out)⟩)
          clear hK K hHeld0
          try simp only [Act.put, List.setIfInBounds_toArray, List.set_cons_zero, List.set_cons_succ]
          refine wpAnyH_take (i := 9) (oi := { dst := Option.some 30, op := Go.Op.binOp Go.BinOp.neq 31 (Go.Operand.tmp 28) (Go.Operand.tmp 29) 31, type := 4, pos := "ir.go:351", after := #[{ on := 7, ground := Go.Ground.data }, { on := 8, ground := Go.Ground.data }, { on := 4, ground := Go.Ground.guard }], guard := Option.some (4, Bool.false) }) (v := ?_) rfl (by kernel_rfl) (by kernel_rfl) (by kernel_rfl) (fun _ _ _ h => h) (Or.inl ⟨by rfl, ?_⟩) (by assumption) ?_
          rotate_left
          · intro w5x hSwx
            try dsimp only at hSwx
            go_simp
            try with_reducible rfl
          try simp only [Act.put, List.setIfInBounds_toArray, List.set_cons_zero, List.set_cons_succ]
          refine wpAnyH_take (i := 10) (oi := { dst := Option.some 31, op := Go.Op.pick (Go.Operand.tmp 25) (Go.Operand.const (Go.Value.bool Bool.true)) (Go.Operand.tmp 30), type := 4, pos := "ir.go:351", after := #[{ on := 4, ground := Go.Ground.data }, { on := 9, ground := Go.Ground.data }], guard := Option.none }) (v := ?_) rfl (by kernel_rfl) (by kernel_rfl) (by kernel_rfl) (fun _ _ _ h => h) (Or.inl ⟨by rfl, ?_⟩) (by assumption) ?_
          rotate_left
          · intro w5x hSwx
            try dsimp only at hSwx
            go_simp
            try with_reducible rfl
          try simp only [Act.put, List.setIfInBounds_toArray, List.set_cons_zero, List.set_cons_succ]
          refine wpAnyH_ready (rs := [11]) (by kernel_rfl) (by simp) ?_
          refine AllReadyH.cons (o := { dst := Option.some 32, op := Go.Op.call { callee := Go.Callee.value (Go.Operand.func 75), args := #[Go.Operand.tmp 31], argTypes := #[4] }, type := 41, pos := "ir.go:351", after := #[{ on := 10, ground := Go.Ground.data }, { on := 7, ground := Go.Ground.chain }], guard := Option.none }) rfl (fun K hK => ?_) AllReadyH.nil
          go_simp
          go_wp2_with (first | (go_at_call 76; have tok := HDc; with_reducible (refine (HK1.out _ HD0.out).mono ?_); rintro e v ⟨rfl, hv⟩; have HDc := hid (after tok.out hv.out tok.out.size); clear tok hv) | (go_at_call 75; refine (mist_i _ _).mono ?_; rintro e w' ⟨rfl, rfl⟩))
          refine hK.out _ _ ?_ (fun hHeld6 => ?_)
          · (try dsimp only) <;> (first | exact ⟨hid (after HD0.out HDc.out HD0.out.size), cells_at (lay HDc.out HT.out)⟩)
          clear hK K hHeld3
          try simp only [Act.put, List.setIfInBounds_toArray, List.set_cons_zero, List.set_cons_succ]
          refine wpAnyH_take (i := 12) (oi := { dst := Option.some 8, op := Go.Op.assign (Go.Operand.tmp 32), type := 41, pos := "ir.go:351", after := #[{ on := 11, ground := Go.Ground.data }, { on := 11, ground := Go.Ground.chain }, { on := 0, ground := Go.Ground.phase }, { on := 1, ground := Go.Ground.phase }, { on := 2, ground := Go.Ground.phase }, { on := 3, ground := Go.Ground.phase }, { on := 4, ground := Go.Ground.phase }, { on := 5, ground := Go.Ground.phase }, { on := 6, ground := Go.Ground.phase }, { on := 7, ground := Go.Ground.phase }, { on := 8, ground := Go.Ground.phase }, { on := 9, ground := Go.Ground.phase }, { on := 10, ground := Go.Ground.phase }, { on := 11, ground := Go.Ground.phase }], guard := Option.none }) (v := ?_) rfl (by kernel_rfl) (by kernel_rfl) (by kernel_rfl) (fun _ _ _ h => h) (Or.inl ⟨by rfl, ?_⟩) (by assumption) ?_
          rotate_left
          · intro w5x hSwx
            try dsimp only at hSwx
            go_simp
            try with_reducible rfl
          try simp only [Act.put, List.setIfInBounds_toArray, List.set_cons_zero, List.set_cons_succ]
          refine wpAnyH_done (by kernel_rfl) ?_ _
      all_goals go_wp2
      all_goals go_ret
      all_goals exact ⟨rfl, hid (after HD0.out HDc.out HD0.out.size)⟩
theorem fits_g (p : JP) (J : Nat) (r : InD) (v : Int) (ptr : Bool) (ao mo : Option Addr) (ac mc : Nat) (w : World) (hj : JG w J p) (hk : KO p) :
    Calls Try.prog 80 #[.pointer (some ⟨J, 0, none⟩), .agg (InV r ao ac mo mc), .int .i64 v, .bool ptr] w fun e w' => e = .returned (.int .i64 (fitsF p.ss p.x r v ptr)) ∧ Hid (Below w.heap.size w w') := by
  have hF := fun W (hW : Below w.heap.size w W) => field_g p J r v ao mo ac mc W (hj.later hW) hk
  by_cases e0 : (fieldF p.ss p.x r v).2 = 0
  · have e1 : (inN p.x.vs.length r.a && inN p.x.vs.length v) = true := by
      cases e : (inN p.x.vs.length r.a && inN p.x.vs.length v)
      · simp only [fieldF, e] at e0
        cases e0
      · rfl
    rw [Bool.and_eq_true] at e1
    obtain ⟨k, p2, nm2, rfl, hv, ht⟩ := inN_get e1.2
    rw [fitsF, if_pos e0, ht]
    rw [e0] at hF
    obtain ⟨op, d, a, b, tt, el, f, n, l, c, sg, xs, ms⟩ := r
    exact fits_yes p J op d a b tt el f n l c sg xs ms k p2 nm2 _ _ ptr ao mo ac mc w hj hv hF
  · rw [fitsF, if_neg e0]
    obtain ⟨op, d, a, b, tt, el, f, n, l, c, sg, xs, ms⟩ := r
    exact fits_no p J op d a b tt el f n l c sg xs ms v _ _ _ ptr ao mo ac mc w e0 hF
theorem load_g (p : JP) (J : Nat) (r : InD) (ao mo : Option Addr) (ac mc : Nat) (w : World) (hj : JG w J p) (hk : KO p) :
    Calls Try.prog 62 #[.pointer (some ⟨J, 0, none⟩), .agg (InV r ao ac mo mc)] w fun e w' => e = .returned (.int .i64 (fitsF p.ss p.x r r.d (r.op == 10))) ∧ Hid (Below w.heap.size w w') := by
  obtain ⟨op, d, a, b, tt, el, f, n, l, c, sg, xs, ms⟩ := r
  have HF := hid (fun W (hW : Below w.heap.size w W) => fits_g p J ⟨op, d, a, b, tt, el, f, n, l, c, sg, xs, ms⟩ d (op == 10) ao mo ac mc W (hj.later hW) hk)
  have HB := hid (below1 w (.cells (InV ⟨op, d, a, b, tt, el, f, n, l, c, sg, xs, ms⟩ ao ac mo mc) 49))
  clear hj hk
  go_enter Try.func62, Try.ntmps62
  go_wp2_with (first
    | (go_at_call 80; refine (HF.out _ HB.out).mono ?_; rintro e w1 ⟨rfl, hb1⟩; have HB1 := hid (after HB.out hb1.out HB.out.size)))
  go_ret
  exact ⟨rfl, HB1⟩
theorem store_g (p : JP) (J : Nat) (r : InD) (ao mo : Option Addr) (ac mc : Nat) (w : World) (hj : JG w J p) (hk : KO p) :
    Calls Try.prog 63 #[.pointer (some ⟨J, 0, none⟩), .agg (InV r ao ac mo mc)] w fun e w' => e = .returned (.int .i64 (fitsF p.ss p.x r r.b (r.op == 11))) ∧ Hid (Below w.heap.size w w') := by
  obtain ⟨op, d, a, b, tt, el, f, n, l, c, sg, xs, ms⟩ := r
  have HF := hid (fun W (hW : Below w.heap.size w W) => fits_g p J ⟨op, d, a, b, tt, el, f, n, l, c, sg, xs, ms⟩ b (op == 11) ao mo ac mc W (hj.later hW) hk)
  have HB := hid (below1 w (.cells (InV ⟨op, d, a, b, tt, el, f, n, l, c, sg, xs, ms⟩ ao ac mo mc) 49))
  clear hj hk
  go_enter Try.func63, Try.ntmps63
  go_wp2_with (first
    | (go_at_call 80; refine (HF.out _ HB.out).mono ?_; rintro e w1 ⟨rfl, hb1⟩; have HB1 := hid (after HB.out hb1.out HB.out.size)))
  go_ret
  exact ⟨rfl, HB1⟩
end Go.Proofs.Ytfhdiahjfnphkaa
