/- What a move, and a new cell, ask. No conditions. -/
import Derived.Test.YtfhdiahjfnphkaaCR13
namespace Go.Proofs.Ytfhdiahjfnphkaa
open Go.RowKit Go.Maps
set_option linter.unusedVariables false
set_option linter.unusedSimpArgs false
def giveF (x : CoD) (r : InD) : Int := if inN x.vs.length r.d && inN x.vs.length r.a then (if (tyOf x r.a).p && tyEq (tyOf x r.d) (tyOf x r.a) then 0 else 7) else 15
set_option maxRecDepth 100000 in
set_option maxHeartbeats 4000000 in
theorem give_g (p : JP) (J : Nat) (r : InD) (ao mo : Option Addr) (ac mc : Nat) (w : World) (hj : JG w J p) :
    Calls Try.prog 64 #[.pointer (some ⟨J, 0, none⟩), .agg (InV r ao ac mo mc)] w fun e w' => e = .returned (.int .i64 (giveF p.x r)) ∧ Hid (Below w.heap.size w w') := by
  obtain ⟨op, d, a, b, tt, el, f, n, l, c, sg, xs, ms⟩ := r
  have HJ := hid (fun W (hb : Below w.heap.size w W) => hj.later hb)
  have HB := hid (below2 w)
  clear hj
  cases e : (inN p.x.vs.length d && inN p.x.vs.length a)
  case false =>
    have hf : giveF p.x ⟨op, d, a, b, tt, el, f, n, l, c, sg, xs, ms⟩ = 15 := by simp only [giveF, e]; rfl
    rw [hf]
    clear hf
    go_enter Try.func64, Try.ntmps64
    go_wp2_with (first
      | (go_at_call 74; refine (there_2 p d a _ _ _ _ (new_cell2a _ _ _ _ _) (new_cell2b _ _ _ _ _) (HJ.out _ (HB.out _ _)) e).mono ?_; rintro e w' ⟨rfl, rfl⟩))
    go_ret
    exact ⟨rfl, hid (HB.out _ _)⟩
  case true =>
    have e' := e
    rw [Bool.and_eq_true] at e'
    obtain ⟨k, pp, nm, rfl, hv, ht⟩ := inN_get e'.1
    obtain ⟨k2, p2, nm2, rfl, hv2, ht2⟩ := inN_get e'.2
    clear e'
    have HV := hid hv
    have HV2 := hid hv2
    clear hv hv2
    obtain ⟨q, hq⟩ : ∃ q, (pp == p2) = q := ⟨_, rfl⟩
    obtain ⟨q2, hq2⟩ : ∃ q, (nm.toList == nm2.toList) = q := ⟨_, rfl⟩
    have hf : giveF p.x ⟨op, k, k2, b, tt, el, f, n, l, c, sg, xs, ms⟩ = if p2 && (q && q2) then 0 else 7 := by simp only [giveF, e, ht, ht2, tyEq, sEq, hq, hq2]; rfl
    rw [hf]
    clear hf ht ht2
    have HD0 := hid ((HB.out (.cells (InV ⟨op, k, k2, b, tt, el, f, n, l, c, sg, xs, ms⟩ ao ac mo mc) 49) (.cells #[.int .i64 k, .int .i64 k2] 3)).drew)
    have HX0 : Hid (((w.alloc (.cells (InV ⟨op, k, k2, b, tt, el, f, n, l, c, sg, xs, ms⟩ ao ac mo mc) 49)).alloc (.cells #[.int .i64 k, .int .i64 k2] 3)).drew.heap[w.heap.size]? = some (.cells (InV ⟨op, k, k2, b, tt, el, f, n, l, c, sg, xs, ms⟩ ao ac mo mc) 49 (0, 0))) := hid (boxA w (InV ⟨op, k, k2, b, tt, el, f, n, l, c, sg, xs, ms⟩ ao ac mo mc) 49 (.cells #[.int .i64 k, .int .i64 k2] 3))
    have HDc := hid (Below.refl ((w.alloc (.cells (InV ⟨op, k, k2, b, tt, el, f, n, l, c, sg, xs, ms⟩ ao ac mo mc) 49)).alloc (.cells #[.int .i64 k, .int .i64 k2] 3)).drew.heap.size ((w.alloc (.cells (InV ⟨op, k, k2, b, tt, el, f, n, l, c, sg, xs, ms⟩ ao ac mo mc) 49)).alloc (.cells #[.int .i64 k, .int .i64 k2] 3)).drew)
    have hfd : ∀ b n (w : World), (Instr.field 31 (.agg #[.bool b, .string n]) 0).run Try.prog w = .ok (.bool b) w := fun _ _ _ => by kernel_rfl
    have hk1 : ∀ W, Below w.heap.size w W → Calls Try.prog 76 #[.pointer (some ⟨J, 0, none⟩), .int .i64 k] W fun e w' => e = .returned (.agg #[.bool pp, .string nm]) ∧ Hid (Below W.heap.size W w') := fun W hW => kind_j p k _ _ J W (HJ.out _ hW) HV.out
    have hk2 : ∀ W, Below w.heap.size w W → Calls Try.prog 76 #[.pointer (some ⟨J, 0, none⟩), .int .i64 k2] W fun e w' => e = .returned (.agg #[.bool p2, .string nm2]) ∧ Hid (Below W.heap.size W w') := fun W hW => kind_j p k2 _ _ J W (HJ.out _ hW) HV2.out
    have HK1 := hid hk1
    have HK2 := hid hk2
    clear hk1 hk2
    cases p2
    all_goals cases q
    all_goals cases q2
    all_goals
      go_enter Try.func64, Try.ntmps64
      go_wp2_with (first
        | (go_at_call 74; refine (there_2 p k k2 _ _ _ _ (new_cell2a _ _ _ _ _) (new_cell2b _ _ _ _ _) (HJ.out _ (HB.out _ _)) e).mono ?_; rintro e w' ⟨rfl, rfl⟩))
      first
        | refine wp_region_held_drew (S := fun W => Hid (Below w.heap.size w W) ∧ (∀ i, W.cell? ⟨w.heap.size, i, none⟩ = (InV ⟨op, k, k2, b, tt, el, f, n, l, c, sg, xs, ms⟩ ao ac mo mc)[i]?)) (by kernel_rfl) ?_ (fun hHeld0 => ?_)
          · (try dsimp only) <;> (first | exact ⟨hid (after HD0.out HDc.out HD0.out.size), cells_at (lay HDc.out HX0.out)⟩)
          refine wpAnyH_take (i := 0) (oi := { dst := Option.some 13, op := Go.Op.move (Go.Operand.tmp 0), type := 67, pos := "ir.go:358", after := #[], guard := Option.none }) (v := ?_) rfl (by kernel_rfl) (by kernel_rfl) (by kernel_rfl) (fun _ _ _ h => h) (Or.inl ⟨by rfl, ?_⟩) (by assumption) ?_
          rotate_left
          · intro w5x hSwx
            try dsimp only at hSwx
            go_simp
            try with_reducible rfl
          try simp only [Act.put, List.setIfInBounds_toArray, List.set_cons_zero, List.set_cons_succ]
          refine wpAnyH_take (i := 1) (oi := { dst := Option.some 14, op := Go.Op.fieldAddr 49 (Go.Operand.tmp 3) 2, type := 0, pos := "ir.go:358", after := #[], guard := Option.none }) (v := ?_) rfl (by kernel_rfl) (by kernel_rfl) (by kernel_rfl) (fun _ _ _ h => h) (Or.inl ⟨by rfl, ?_⟩) (by assumption) ?_
          rotate_left
          · intro w5x hSwx
            try dsimp only at hSwx
            go_simp
            try with_reducible rfl
          try simp only [Act.put, List.setIfInBounds_toArray, List.set_cons_zero, List.set_cons_succ]
          refine wpAnyH_take (i := 2) (oi := { dst := Option.some 15, op := Go.Op.load 3 (Go.Operand.tmp 14), type := 3, pos := "ir.go:358", after := #[{ on := 1, ground := Go.Ground.data }], guard := Option.none }) (v := ?_) rfl (by kernel_rfl) (by kernel_rfl) (by kernel_rfl) (fun _ _ _ h => h) (Or.inl ⟨by rfl, ?_⟩) (by assumption) ?_
          rotate_left
          · intro w5x hSwx
            try dsimp only at hSwx
            go_simp
            try with_reducible rfl
          try simp only [Act.put, List.setIfInBounds_toArray, List.set_cons_zero, List.set_cons_succ]
          refine wpAnyH_ready (rs := [3]) (by kernel_rfl) (by simp) ?_
          refine AllReadyH.cons (o := { dst := Option.some 16, op := Go.Op.call { callee := Go.Callee.value (Go.Operand.func 76), args := #[Go.Operand.tmp 13, Go.Operand.tmp 15], argTypes := #[67, 3] }, type := 31, pos := "ir.go:358", after := #[{ on := 0, ground := Go.Ground.data }, { on := 2, ground := Go.Ground.data }], guard := Option.none }) rfl (fun K hK => ?_) AllReadyH.nil
          go_simp
          go_wp2_with (first | (go_at_call 76; have tok := HDc; with_reducible (refine (HK2.out _ (after HD0.out tok.out HD0.out.size)).mono ?_); rintro e v ⟨rfl, hv⟩; have HDc := hid (after tok.out hv.out tok.out.size); clear tok hv) | (go_at_call 76; have tok := HDc; with_reducible (refine (HK1.out _ (after HD0.out tok.out HD0.out.size)).mono ?_); rintro e v ⟨rfl, hv⟩; have HDc := hid (after tok.out hv.out tok.out.size); clear tok hv) | (go_at_call 75; refine (mist_i _ _).mono ?_; rintro e w' ⟨rfl, rfl⟩))
          refine hK.out _ _ ?_ (fun hHeld3 => ?_)
          · (try dsimp only) <;> (first | exact ⟨hid (after HD0.out HDc.out HD0.out.size), cells_at (lay HDc.out HX0.out)⟩)
          clear hK K hHeld0
          try simp only [Act.put, List.setIfInBounds_toArray, List.set_cons_zero, List.set_cons_succ]
          refine wpAnyH_take (i := 4) (oi := { dst := Option.some 17, op := Go.Op.field 31 (Go.Operand.tmp 16) 0, type := 4, pos := "ir.go:358", after := #[{ on := 3, ground := Go.Ground.data }], guard := Option.none }) (v := ?_) rfl (by kernel_rfl) (by kernel_rfl) (by kernel_rfl) (fun _ _ _ h => h) (Or.inl ⟨by rfl, ?_⟩) (by assumption) ?_
          rotate_left
          · intro w5x hSwx
            try dsimp only at hSwx
            go_simp
            try with_reducible rfl
          try simp only [Act.put, List.setIfInBounds_toArray, List.set_cons_zero, List.set_cons_succ]
          refine wpAnyH_take (i := 5) (oi := { dst := Option.some 18, op := Go.Op.unOp Go.UnOp.not 4 (Go.Operand.tmp 17), type := 4, pos := "ir.go:358", after := #[{ on := 4, ground := Go.Ground.data }], guard := Option.none }) (v := ?_) rfl (by kernel_rfl) (by kernel_rfl) (by kernel_rfl) (fun _ _ _ h => h) (Or.inl ⟨by rfl, ?_⟩) (by assumption) ?_
          rotate_left
          · intro w5x hSwx
            try dsimp only at hSwx
            go_simp
            try with_reducible rfl
          try simp only [Act.put, List.setIfInBounds_toArray, List.set_cons_zero, List.set_cons_succ]
          refine wpAnyH_take (i := 6) (oi := { dst := Option.some 19, op := Go.Op.move (Go.Operand.tmp 18), type := 4, pos := "ir.go:358", after := #[{ on := 5, ground := Go.Ground.data }, { on := 3, ground := Go.Ground.chain }], guard := Option.none }) (v := ?_) rfl (by kernel_rfl) (by kernel_rfl) (by kernel_rfl) (fun _ _ _ h => h) (Or.inl ⟨by rfl, ?_⟩) (by assumption) ?_
          rotate_left
          · intro w5x hSwx
            try dsimp only at hSwx
            go_simp
            try with_reducible rfl
          try simp only [Act.put, List.setIfInBounds_toArray, List.set_cons_zero, List.set_cons_succ]
          refine wpAnyH_take (i := 7) (oi := { dst := Option.some 20, op := Go.Op.move (Go.Operand.tmp 0), type := 67, pos := "ir.go:358", after := #[{ on := 6, ground := Go.Ground.guard }], guard := Option.some (6, Bool.false) }) (v := undef) rfl (by kernel_rfl) (by kernel_rfl) (by kernel_rfl) (fun _ _ _ h => h) (Or.inr ⟨by rfl, rfl⟩) (by assumption) ?_
          try simp only [Act.put, List.setIfInBounds_toArray, List.set_cons_zero, List.set_cons_succ]
          refine wpAnyH_take (i := 8) (oi := { dst := Option.some 21, op := Go.Op.fieldAddr 49 (Go.Operand.tmp 3) 1, type := 0, pos := "ir.go:358", after := #[{ on := 6, ground := Go.Ground.guard }], guard := Option.some (6, Bool.false) }) (v := undef) rfl (by kernel_rfl) (by kernel_rfl) (by kernel_rfl) (fun _ _ _ h => h) (Or.inr ⟨by rfl, rfl⟩) (by assumption) ?_
          try simp only [Act.put, List.setIfInBounds_toArray, List.set_cons_zero, List.set_cons_succ]
          refine wpAnyH_take (i := 9) (oi := { dst := Option.some 22, op := Go.Op.load 3 (Go.Operand.tmp 21), type := 3, pos := "ir.go:358", after := #[{ on := 8, ground := Go.Ground.data }, { on := 6, ground := Go.Ground.guard }], guard := Option.some (6, Bool.false) }) (v := undef) rfl (by kernel_rfl) (by kernel_rfl) (by kernel_rfl) (fun _ _ _ h => h) (Or.inr ⟨by rfl, rfl⟩) (by assumption) ?_
          try simp only [Act.put, List.setIfInBounds_toArray, List.set_cons_zero, List.set_cons_succ]
          refine wpAnyH_take (i := 10) (oi := { dst := Option.some 23, op := Go.Op.call { callee := Go.Callee.value (Go.Operand.func 76), args := #[Go.Operand.tmp 20, Go.Operand.tmp 22], argTypes := #[67, 3] }, type := 31, pos := "ir.go:358", after := #[{ on := 7, ground := Go.Ground.data }, { on := 9, ground := Go.Ground.data }, { on := 6, ground := Go.Ground.chain }, { on := 6, ground := Go.Ground.guard }], guard := Option.some (6, Bool.false) }) (v := undef) rfl (by kernel_rfl) (by kernel_rfl) (by kernel_rfl) (fun _ _ _ h => h) (Or.inr ⟨by rfl, rfl⟩) (by assumption) ?_
          try simp only [Act.put, List.setIfInBounds_toArray, List.set_cons_zero, List.set_cons_succ]
          refine wpAnyH_take (i := 11) (oi := { dst := Option.some 24, op := Go.Op.move (Go.Operand.tmp 0), type := 67, pos := "ir.go:358", after := #[{ on := 6, ground := Go.Ground.guard }], guard := Option.some (6, Bool.false) }) (v := undef) rfl (by kernel_rfl) (by kernel_rfl) (by kernel_rfl) (fun _ _ _ h => h) (Or.inr ⟨by rfl, rfl⟩) (by assumption) ?_
          try simp only [Act.put, List.setIfInBounds_toArray, List.set_cons_zero, List.set_cons_succ]
          refine wpAnyH_take (i := 12) (oi := { dst := Option.some 25, op := Go.Op.fieldAddr 49 (Go.Operand.tmp 3) 2, type := 0, pos := "ir.go:358", after := #[{ on := 6, ground := Go.Ground.guard }], guard := Option.some (6, Bool.false) }) (v := undef) rfl (by kernel_rfl) (by kernel_rfl) (by kernel_rfl) (fun _ _ _ h => h) (Or.inr ⟨by rfl, rfl⟩) (by assumption) ?_
          try simp only [Act.put, List.setIfInBounds_toArray, List.set_cons_zero, List.set_cons_succ]
          refine wpAnyH_take (i := 13) (oi := { dst := Option.some 26, op := Go.Op.load 3 (Go.Operand.tmp 25), type := 3, pos := "ir.go:358", after := #[{ on := 12, ground := Go.Ground.data }, { on := 6, ground := Go.Ground.guard }], guard := Option.some (6, Bool.false) }) (v := undef) rfl (by kernel_rfl) (by kernel_rfl) (by kernel_rfl) (fun _ _ _ h => h) (Or.inr ⟨by rfl, rfl⟩) (by assumption) ?_
          try simp only [Act.put, List.setIfInBounds_toArray, List.set_cons_zero, List.set_cons_succ]
          refine wpAnyH_take (i := 14) (oi := { dst := Option.some 27, op := Go.Op.call { callee := Go.Callee.value (Go.Operand.func 76), args := #[Go.Operand.tmp 24, Go.Operand.tmp 26], argTypes := #[67, 3] }, type := 31, pos := "ir.go:358", after := #[{ on := 11, ground := Go.Ground.data }, { on := 13, ground := Go.Ground.data }, { on := 10, ground := Go.Ground.chain }, { on := 6, ground := Go.Ground.guard }], guard := Option.some (6, Bool.false) }) (v := undef) rfl (by kernel_rfl) (by kernel_rfl) (by kernel_rfl) (fun _ _ _ h => h) (Or.inr ⟨by rfl, rfl⟩) (by assumption) ?_
          try simp only [Act.put, List.setIfInBounds_toArray, List.set_cons_zero, List.set_cons_succ]
          refine wpAnyH_take (i := 15) (oi := { dst := Option.some 28, op := Go.Op.binOp Go.BinOp.neq 31 (Go.Operand.tmp 23) (Go.Operand.tmp 27) 31, type := 4, pos := "ir.go:358", after := #[{ on := 10, ground := Go.Ground.data }, { on := 14, ground := Go.Ground.data }, { on := 6, ground := Go.Ground.guard }], guard := Option.some (6, Bool.false) }) (v := undef) rfl (by kernel_rfl) (by kernel_rfl) (by kernel_rfl) (fun _ _ _ h => h) (Or.inr ⟨by rfl, rfl⟩) (by assumption) ?_
          try simp only [Act.put, List.setIfInBounds_toArray, List.set_cons_zero, List.set_cons_succ]
          refine wpAnyH_take (i := 16) (oi := { dst := Option.some 29, op := Go.Op.pick (Go.Operand.tmp 19) (Go.Operand.const (Go.Value.bool Bool.true)) (Go.Operand.tmp 28), type := 4, pos := "ir.go:358", after := #[{ on := 6, ground := Go.Ground.data }, { on := 15, ground := Go.Ground.data }], guard := Option.none }) (v := ?_) rfl (by kernel_rfl) (by kernel_rfl) (by kernel_rfl) (fun _ _ _ h => h) (Or.inl ⟨by rfl, ?_⟩) (by assumption) ?_
          rotate_left
          · intro w5x hSwx
            try dsimp only at hSwx
            go_simp
            try with_reducible rfl
          try simp only [Act.put, List.setIfInBounds_toArray, List.set_cons_zero, List.set_cons_succ]
          refine wpAnyH_ready (rs := [17]) (by kernel_rfl) (by simp) ?_
          refine AllReadyH.cons (o := { dst := Option.some 30, op := Go.Op.call { callee := Go.Callee.value (Go.Operand.func 75), args := #[Go.Operand.tmp 29], argTypes := #[4] }, type := 41, pos := "ir.go:358", after := #[{ on := 16, ground := Go.Ground.data }, { on := 14, ground := Go.Ground.chain }], guard := Option.none }) rfl (fun K hK => ?_) AllReadyH.nil
          go_simp
          go_wp2_with (first | (go_at_call 76; have tok := HDc; with_reducible (refine (HK2.out _ (after HD0.out tok.out HD0.out.size)).mono ?_); rintro e v ⟨rfl, hv⟩; have HDc := hid (after tok.out hv.out tok.out.size); clear tok hv) | (go_at_call 76; have tok := HDc; with_reducible (refine (HK1.out _ (after HD0.out tok.out HD0.out.size)).mono ?_); rintro e v ⟨rfl, hv⟩; have HDc := hid (after tok.out hv.out tok.out.size); clear tok hv) | (go_at_call 75; refine (mist_i _ _).mono ?_; rintro e w' ⟨rfl, rfl⟩))
          refine hK.out _ _ ?_ (fun hHeld6 => ?_)
          · (try dsimp only) <;> (first | exact ⟨hid (after HD0.out HDc.out HD0.out.size), cells_at (lay HDc.out HX0.out)⟩)
          clear hK K hHeld3
          try simp only [Act.put, List.setIfInBounds_toArray, List.set_cons_zero, List.set_cons_succ]
          refine wpAnyH_take (i := 18) (oi := { dst := Option.some 4, op := Go.Op.assign (Go.Operand.tmp 30), type := 41, pos := "ir.go:358", after := #[{ on := 17, ground := Go.Ground.data }, { on := 17, ground := Go.Ground.chain }, { on := 0, ground := Go.Ground.phase }, { on := 1, ground := Go.Ground.phase }, { on := 2, ground := Go.Ground.phase }, { on := 3, ground := Go.Ground.phase }, { on := 4, ground := Go.Ground.phase }, { on := 5, ground := Go.Ground.phase }, { on := 6, ground := Go.Ground.phase }, { on := 7, ground := Go.Ground.phase }, { on := 8, ground := Go.Ground.phase }, { on := 9, ground := Go.Ground.phase }, { on := 10, ground := Go.Ground.phase }, { on := 11, ground := Go.Ground.phase }, { on := 12, ground := Go.Ground.phase }, { on := 13, ground := Go.Ground.phase }, { on := 14, ground := Go.Ground.phase }, { on := 15, ground := Go.Ground.phase }, { on := 16, ground := Go.Ground.phase }, { on := 17, ground := Go.Ground.phase }], guard := Option.none }) (v := ?_) rfl (by kernel_rfl) (by kernel_rfl) (by kernel_rfl) (fun _ _ _ h => h) (Or.inl ⟨by rfl, ?_⟩) (by assumption) ?_
          rotate_left
          · intro w5x hSwx
            try dsimp only at hSwx
            go_simp
            try with_reducible rfl
          try simp only [Act.put, List.setIfInBounds_toArray, List.set_cons_zero, List.set_cons_succ]
          refine wpAnyH_done (by kernel_rfl) ?_ _
        | refine wp_region_held_drew (S := fun W => Hid (Below w.heap.size w W) ∧ (∀ i, W.cell? ⟨w.heap.size, i, none⟩ = (InV ⟨op, k, k2, b, tt, el, f, n, l, c, sg, xs, ms⟩ ao ac mo mc)[i]?)) (by kernel_rfl) ?_ (fun hHeld0 => ?_)
          · (try dsimp only) <;> (first | exact ⟨hid (after HD0.out HDc.out HD0.out.size), cells_at (lay HDc.out HX0.out)⟩)
          refine wpAnyH_take (i := 0) (oi := { dst := Option.some 13, op := Go.Op.move (Go.Operand.tmp 0), type := 67, pos := "ir.go:358", after := #[], guard := Option.none }) (v := ?_) rfl (by kernel_rfl) (by kernel_rfl) (by kernel_rfl) (fun _ _ _ h => h) (Or.inl ⟨by rfl, ?_⟩) (by assumption) ?_
          rotate_left
          · intro w5x hSwx
            try dsimp only at hSwx
            go_simp
            try with_reducible rfl
          try simp only [Act.put, List.setIfInBounds_toArray, List.set_cons_zero, List.set_cons_succ]
          refine wpAnyH_take (i := 1) (oi := { dst := Option.some 14, op := Go.Op.fieldAddr 49 (Go.Operand.tmp 3) 2, type := 0, pos := "ir.go:358", after := #[], guard := Option.none }) (v := ?_) rfl (by kernel_rfl) (by kernel_rfl) (by kernel_rfl) (fun _ _ _ h => h) (Or.inl ⟨by rfl, ?_⟩) (by assumption) ?_
          rotate_left
          · intro w5x hSwx
            try dsimp only at hSwx
            go_simp
            try with_reducible rfl
          try simp only [Act.put, List.setIfInBounds_toArray, List.set_cons_zero, List.set_cons_succ]
          refine wpAnyH_take (i := 2) (oi := { dst := Option.some 15, op := Go.Op.load 3 (Go.Operand.tmp 14), type := 3, pos := "ir.go:358", after := #[{ on := 1, ground := Go.Ground.data }], guard := Option.none }) (v := ?_) rfl (by kernel_rfl) (by kernel_rfl) (by kernel_rfl) (fun _ _ _ h => h) (Or.inl ⟨by rfl, ?_⟩) (by assumption) ?_
          rotate_left
          · intro w5x hSwx
            try dsimp only at hSwx
            go_simp
            try with_reducible rfl
          try simp only [Act.put, List.setIfInBounds_toArray, List.set_cons_zero, List.set_cons_succ]
          refine wpAnyH_ready (rs := [3]) (by kernel_rfl) (by simp) ?_
          refine AllReadyH.cons (o := { dst := Option.some 16, op := Go.Op.call { callee := Go.Callee.value (Go.Operand.func 76), args := #[Go.Operand.tmp 13, Go.Operand.tmp 15], argTypes := #[67, 3] }, type := 31, pos := "ir.go:358", after := #[{ on := 0, ground := Go.Ground.data }, { on := 2, ground := Go.Ground.data }], guard := Option.none }) rfl (fun K hK => ?_) AllReadyH.nil
          go_simp
          go_wp2_with (first | (go_at_call 76; have tok := HDc; with_reducible (refine (HK2.out _ (after HD0.out tok.out HD0.out.size)).mono ?_); rintro e v ⟨rfl, hv⟩; have HDc := hid (after tok.out hv.out tok.out.size); clear tok hv) | (go_at_call 76; have tok := HDc; with_reducible (refine (HK1.out _ (after HD0.out tok.out HD0.out.size)).mono ?_); rintro e v ⟨rfl, hv⟩; have HDc := hid (after tok.out hv.out tok.out.size); clear tok hv) | (go_at_call 75; refine (mist_i _ _).mono ?_; rintro e w' ⟨rfl, rfl⟩))
          refine hK.out _ _ ?_ (fun hHeld3 => ?_)
          · (try dsimp only) <;> (first | exact ⟨hid (after HD0.out HDc.out HD0.out.size), cells_at (lay HDc.out HX0.out)⟩)
          clear hK K hHeld0
          try simp only [Act.put, List.setIfInBounds_toArray, List.set_cons_zero, List.set_cons_succ]
          refine wpAnyH_take (i := 4) (oi := { dst := Option.some 17, op := Go.Op.field 31 (Go.Operand.tmp 16) 0, type := 4, pos := "ir.go:358", after := #[{ on := 3, ground := Go.Ground.data }], guard := Option.none }) (v := ?_) rfl (by kernel_rfl) (by kernel_rfl) (by kernel_rfl) (fun _ _ _ h => h) (Or.inl ⟨by rfl, ?_⟩) (by assumption) ?_
          rotate_left
          · intro w5x hSwx
            try dsimp only at hSwx
            go_simp
            try with_reducible rfl
          try simp only [Act.put, List.setIfInBounds_toArray, List.set_cons_zero, List.set_cons_succ]
          refine wpAnyH_take (i := 5) (oi := { dst := Option.some 18, op := Go.Op.unOp Go.UnOp.not 4 (Go.Operand.tmp 17), type := 4, pos := "ir.go:358", after := #[{ on := 4, ground := Go.Ground.data }], guard := Option.none }) (v := ?_) rfl (by kernel_rfl) (by kernel_rfl) (by kernel_rfl) (fun _ _ _ h => h) (Or.inl ⟨by rfl, ?_⟩) (by assumption) ?_
          rotate_left
          · intro w5x hSwx
            try dsimp only at hSwx
            go_simp
            try with_reducible rfl
          try simp only [Act.put, List.setIfInBounds_toArray, List.set_cons_zero, List.set_cons_succ]
          refine wpAnyH_take (i := 6) (oi := { dst := Option.some 19, op := Go.Op.move (Go.Operand.tmp 18), type := 4, pos := "ir.go:358", after := #[{ on := 5, ground := Go.Ground.data }, { on := 3, ground := Go.Ground.chain }], guard := Option.none }) (v := ?_) rfl (by kernel_rfl) (by kernel_rfl) (by kernel_rfl) (fun _ _ _ h => h) (Or.inl ⟨by rfl, ?_⟩) (by assumption) ?_
          rotate_left
          · intro w5x hSwx
            try dsimp only at hSwx
            go_simp
            try with_reducible rfl
          try simp only [Act.put, List.setIfInBounds_toArray, List.set_cons_zero, List.set_cons_succ]
          refine wpAnyH_take (i := 7) (oi := { dst := Option.some 20, op := Go.Op.move (Go.Operand.tmp 0), type := 67, pos := "ir.go:358", after := #[{ on := 6, ground := Go.Ground.guard }], guard := Option.some (6, Bool.false) }) (v := ?_) rfl (by kernel_rfl) (by kernel_rfl) (by kernel_rfl) (fun _ _ _ h => h) (Or.inl ⟨by rfl, ?_⟩) (by assumption) ?_
          rotate_left
          · intro w5x hSwx
            try dsimp only at hSwx
            go_simp
            try with_reducible rfl
          try simp only [Act.put, List.setIfInBounds_toArray, List.set_cons_zero, List.set_cons_succ]
          refine wpAnyH_take (i := 8) (oi := { dst := Option.some 21, op := Go.Op.fieldAddr 49 (Go.Operand.tmp 3) 1, type := 0, pos := "ir.go:358", after := #[{ on := 6, ground := Go.Ground.guard }], guard := Option.some (6, Bool.false) }) (v := ?_) rfl (by kernel_rfl) (by kernel_rfl) (by kernel_rfl) (fun _ _ _ h => h) (Or.inl ⟨by rfl, ?_⟩) (by assumption) ?_
          rotate_left
          · intro w5x hSwx
            try dsimp only at hSwx
            go_simp
            try with_reducible rfl
          try simp only [Act.put, List.setIfInBounds_toArray, List.set_cons_zero, List.set_cons_succ]
          refine wpAnyH_take (i := 9) (oi := { dst := Option.some 22, op := Go.Op.load 3 (Go.Operand.tmp 21), type := 3, pos := "ir.go:358", after := #[{ on := 8, ground := Go.Ground.data }, { on := 6, ground := Go.Ground.guard }], guard := Option.some (6, Bool.false) }) (v := ?_) rfl (by kernel_rfl) (by kernel_rfl) (by kernel_rfl) (fun _ _ _ h => h) (Or.inl ⟨by rfl, ?_⟩) (by assumption) ?_
          rotate_left
          · intro w5x hSwx
            try dsimp only at hSwx
            go_simp
            try with_reducible rfl
          try simp only [Act.put, List.setIfInBounds_toArray, List.set_cons_zero, List.set_cons_succ]
          refine wpAnyH_take (i := 11) (oi := { dst := Option.some 24, op := Go.Op.move (Go.Operand.tmp 0), type := 67, pos := "ir.go:358", after := #[{ on := 6, ground := Go.Ground.guard }], guard := Option.some (6, Bool.false) }) (v := ?_) rfl (by kernel_rfl) (by kernel_rfl) (by kernel_rfl) (fun _ _ _ h => h) (Or.inl ⟨by rfl, ?_⟩) (by assumption) ?_
          rotate_left
          · intro w5x hSwx
            try dsimp only at hSwx
            go_simp
            try with_reducible rfl
          try simp only [Act.put, List.setIfInBounds_toArray, List.set_cons_zero, List.set_cons_succ]
          refine wpAnyH_take (i := 12) (oi := { dst := Option.some 25, op := Go.Op.fieldAddr 49 (Go.Operand.tmp 3) 2, type := 0, pos := "ir.go:358", after := #[{ on := 6, ground := Go.Ground.guard }], guard := Option.some (6, Bool.false) }) (v := ?_) rfl (by kernel_rfl) (by kernel_rfl) (by kernel_rfl) (fun _ _ _ h => h) (Or.inl ⟨by rfl, ?_⟩) (by assumption) ?_
          rotate_left
          · intro w5x hSwx
            try dsimp only at hSwx
            go_simp
            try with_reducible rfl
          try simp only [Act.put, List.setIfInBounds_toArray, List.set_cons_zero, List.set_cons_succ]
          refine wpAnyH_take (i := 13) (oi := { dst := Option.some 26, op := Go.Op.load 3 (Go.Operand.tmp 25), type := 3, pos := "ir.go:358", after := #[{ on := 12, ground := Go.Ground.data }, { on := 6, ground := Go.Ground.guard }], guard := Option.some (6, Bool.false) }) (v := ?_) rfl (by kernel_rfl) (by kernel_rfl) (by kernel_rfl) (fun _ _ _ h => h) (Or.inl ⟨by rfl, ?_⟩) (by assumption) ?_
          rotate_left
          · intro w5x hSwx
            try dsimp only at hSwx
            go_simp
            try with_reducible rfl
          try simp only [Act.put, List.setIfInBounds_toArray, List.set_cons_zero, List.set_cons_succ]
          refine wpAnyH_ready (rs := [10]) (by kernel_rfl) (by simp) ?_
          refine AllReadyH.cons (o := { dst := Option.some 23, op := Go.Op.call { callee := Go.Callee.value (Go.Operand.func 76), args := #[Go.Operand.tmp 20, Go.Operand.tmp 22], argTypes := #[67, 3] }, type := 31, pos := "ir.go:358", after := #[{ on := 7, ground := Go.Ground.data }, { on := 9, ground := Go.Ground.data }, { on := 6, ground := Go.Ground.chain }, { on := 6, ground := Go.Ground.guard }], guard := Option.some (6, Bool.false) }) rfl (fun K hK => ?_) AllReadyH.nil
          go_simp
          go_wp2_with (first | (go_at_call 76; have tok := HDc; with_reducible (refine (HK2.out _ (after HD0.out tok.out HD0.out.size)).mono ?_); rintro e v ⟨rfl, hv⟩; have HDc := hid (after tok.out hv.out tok.out.size); clear tok hv) | (go_at_call 76; have tok := HDc; with_reducible (refine (HK1.out _ (after HD0.out tok.out HD0.out.size)).mono ?_); rintro e v ⟨rfl, hv⟩; have HDc := hid (after tok.out hv.out tok.out.size); clear tok hv) | (go_at_call 75; refine (mist_i _ _).mono ?_; rintro e w' ⟨rfl, rfl⟩))
          refine hK.out _ _ ?_ (fun hHeld6 => ?_)
          · (try dsimp only) <;> (first | exact ⟨hid (after HD0.out HDc.out HD0.out.size), cells_at (lay HDc.out HX0.out)⟩)
          clear hK K hHeld3
          try simp only [Act.put, List.setIfInBounds_toArray, List.set_cons_zero, List.set_cons_succ]
          refine wpAnyH_ready (rs := [14]) (by kernel_rfl) (by simp) ?_
          refine AllReadyH.cons (o := { dst := Option.some 27, op := Go.Op.call { callee := Go.Callee.value (Go.Operand.func 76), args := #[Go.Operand.tmp 24, Go.Operand.tmp 26], argTypes := #[67, 3] }, type := 31, pos := "ir.go:358", after := #[{ on := 11, ground := Go.Ground.data }, { on := 13, ground := Go.Ground.data }, { on := 10, ground := Go.Ground.chain }, { on := 6, ground := Go.Ground.guard }], guard := Option.some (6, Bool.false) }) rfl (fun K hK => ?_) AllReadyH.nil
          go_simp
          go_wp2_with (first | (go_at_call 76; have tok := HDc; with_reducible (refine (HK2.out _ (after HD0.out tok.out HD0.out.size)).mono ?_); rintro e v ⟨rfl, hv⟩; have HDc := hid (after tok.out hv.out tok.out.size); clear tok hv) | (go_at_call 76; have tok := HDc; with_reducible (refine (HK1.out _ (after HD0.out tok.out HD0.out.size)).mono ?_); rintro e v ⟨rfl, hv⟩; have HDc := hid (after tok.out hv.out tok.out.size); clear tok hv) | (go_at_call 75; refine (mist_i _ _).mono ?_; rintro e w' ⟨rfl, rfl⟩))
          refine hK.out _ _ ?_ (fun hHeld9 => ?_)
          · (try dsimp only) <;> (first | exact ⟨hid (after HD0.out HDc.out HD0.out.size), cells_at (lay HDc.out HX0.out)⟩)
          clear hK K hHeld6
          try simp only [Act.put, List.setIfInBounds_toArray, List.set_cons_zero, List.set_cons_succ]
          refine wpAnyH_take (i := 15) (oi := { dst := Option.some 28, op := Go.Op.binOp Go.BinOp.neq 31 (Go.Operand.tmp 23) (Go.Operand.tmp 27) 31, type := 4, pos := "ir.go:358", after := #[{ on := 10, ground := Go.Ground.data }, { on := 14, ground := Go.Ground.data }, { on := 6, ground := Go.Ground.guard }], guard := Option.some (6, Bool.false) }) (v := ?_) rfl (by kernel_rfl) (by kernel_rfl) (by kernel_rfl) (fun _ _ _ h => h) (Or.inl ⟨by rfl, ?_⟩) (by assumption) ?_
          rotate_left
          · intro w5x hSwx
            try dsimp only at hSwx
            go_simp
            try with_reducible rfl
          try simp only [Act.put, List.setIfInBounds_toArray, List.set_cons_zero, List.set_cons_succ]
          refine wpAnyH_take (i := 16) (oi := { dst := Option.some 29, op := Go.Op.pick (Go.Operand.tmp 19) (Go.Operand.const (Go.Value.bool Bool.true)) (Go.Operand.tmp 28), type := 4, pos := "ir.go:358", after := #[{ on := 6, ground := Go.Ground.data }, { on := 15, ground := Go.Ground.data }], guard := Option.none }) (v := ?_) rfl (by kernel_rfl) (by kernel_rfl) (by kernel_rfl) (fun _ _ _ h => h) (Or.inl ⟨by rfl, ?_⟩) (by assumption) ?_
          rotate_left
          · intro w5x hSwx
            try dsimp only at hSwx
            go_simp
            try with_reducible rfl
          try simp only [Act.put, List.setIfInBounds_toArray, List.set_cons_zero, List.set_cons_succ]
          refine wpAnyH_ready (rs := [17]) (by kernel_rfl) (by simp) ?_
          refine AllReadyH.cons (o := { dst := Option.some 30, op := Go.Op.call { callee := Go.Callee.value (Go.Operand.func 75), args := #[Go.Operand.tmp 29], argTypes := #[4] }, type := 41, pos := "ir.go:358", after := #[{ on := 16, ground := Go.Ground.data }, { on := 14, ground := Go.Ground.chain }], guard := Option.none }) rfl (fun K hK => ?_) AllReadyH.nil
          go_simp
          go_wp2_with (first | (go_at_call 76; have tok := HDc; with_reducible (refine (HK2.out _ (after HD0.out tok.out HD0.out.size)).mono ?_); rintro e v ⟨rfl, hv⟩; have HDc := hid (after tok.out hv.out tok.out.size); clear tok hv) | (go_at_call 76; have tok := HDc; with_reducible (refine (HK1.out _ (after HD0.out tok.out HD0.out.size)).mono ?_); rintro e v ⟨rfl, hv⟩; have HDc := hid (after tok.out hv.out tok.out.size); clear tok hv) | (go_at_call 75; refine (mist_i _ _).mono ?_; rintro e w' ⟨rfl, rfl⟩))
          refine hK.out _ _ ?_ (fun hHeld12 => ?_)
          · (try dsimp only) <;> (first | exact ⟨hid (after HD0.out HDc.out HD0.out.size), cells_at (lay HDc.out HX0.out)⟩)
          clear hK K hHeld9
          try simp only [Act.put, List.setIfInBounds_toArray, List.set_cons_zero, List.set_cons_succ]
          refine wpAnyH_take (i := 18) (oi := { dst := Option.some 4, op := Go.Op.assign (Go.Operand.tmp 30), type := 41, pos := "ir.go:358", after := #[{ on := 17, ground := Go.Ground.data }, { on := 17, ground := Go.Ground.chain }, { on := 0, ground := Go.Ground.phase }, { on := 1, ground := Go.Ground.phase }, { on := 2, ground := Go.Ground.phase }, { on := 3, ground := Go.Ground.phase }, { on := 4, ground := Go.Ground.phase }, { on := 5, ground := Go.Ground.phase }, { on := 6, ground := Go.Ground.phase }, { on := 7, ground := Go.Ground.phase }, { on := 8, ground := Go.Ground.phase }, { on := 9, ground := Go.Ground.phase }, { on := 10, ground := Go.Ground.phase }, { on := 11, ground := Go.Ground.phase }, { on := 12, ground := Go.Ground.phase }, { on := 13, ground := Go.Ground.phase }, { on := 14, ground := Go.Ground.phase }, { on := 15, ground := Go.Ground.phase }, { on := 16, ground := Go.Ground.phase }, { on := 17, ground := Go.Ground.phase }], guard := Option.none }) (v := ?_) rfl (by kernel_rfl) (by kernel_rfl) (by kernel_rfl) (fun _ _ _ h => h) (Or.inl ⟨by rfl, ?_⟩) (by assumption) ?_
          rotate_left
          · intro w5x hSwx
            try dsimp only at hSwx
            go_simp
            try with_reducible rfl
          try simp only [Act.put, List.setIfInBounds_toArray, List.set_cons_zero, List.set_cons_succ]
          refine wpAnyH_done (by kernel_rfl) ?_ _
      all_goals go_wp2
      all_goals go_ret
      all_goals exact ⟨rfl, hid (after HD0.out HDc.out HD0.out.size)⟩
end Go.Proofs.Ytfhdiahjfnphkaa
