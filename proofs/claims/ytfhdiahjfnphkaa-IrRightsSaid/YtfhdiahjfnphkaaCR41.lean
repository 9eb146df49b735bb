/- IrRights, as a call: it returns true, and leaves what was as it was. Condition: strings no longer than the greatest length. -/
import Derived.Test.YtfhdiahjfnphkaaCR38
import Derived.Test.YtfhdiahjfnphkaaCR39
import Derived.Test.YtfhdiahjfnphkaaCR40
namespace Go.Proofs.Ytfhdiahjfnphkaa
open Go.RowKit Go.Maps
set_option linter.unusedVariables false
set_option linter.unusedSimpArgs false
set_option maxRecDepth 100000 in
set_option maxHeartbeats 16000000 in
theorem rights_law (ss : List StD) (cs : List CoD) (sa ca : Option Addr) (sc cc : Nat) (w : World) (h1 : RowM 4 StAt w sa ss) (h2 : RowM 8 CoAt w ca cs) (hok : OkM ss cs) :
    Calls Try.prog 4 #[.agg #[.slice sa ss.length sc, .slice ca cs.length cc]] w fun e w' => e = .returned (.bool true) ∧ Hid (Below w.heap.size w w') := by
  obtain ⟨Z, hZ⟩ : ∃ Z, rightF ss cs = Z := ⟨_, rfl⟩
  have HL := hid (fun W (hb : Below w.heap.size w W) => light_r ss cs sa ca sc cc W (h1.later st_stays hb) (h2.later co_stays hb))
  have HR := hid (fun W (hb : Below w.heap.size w W) => right_g ss cs sa ca sc cc W (h1.later st_stays hb) (h2.later co_stays hb) hok)
  have HRR := hid (fun W (hb : Below w.heap.size w W) (h40 : ∀ c ∈ cs, ∀ r ∈ c.ins, r.xs.length ≤ 40) => rright_g ss cs sa ca sc cc W (h1.later st_stays hb) (h2.later co_stays hb) h40)
  rw [hZ] at HR HRR
  obtain ⟨n, hn⟩ : ∃ n, ss.length = n := ⟨_, rfl⟩
  obtain ⟨m, hm⟩ : ∃ m, cs.length = m := ⟨_, rfl⟩
  rw [hn, hm] at HL HR HRR ⊢
  have HD0 := hid (below1 w (.cells #[.slice sa n sc, .slice ca m cc] 25)).drew
  have HX0 : Hid ((w.alloc (.cells #[.slice sa n sc, .slice ca m cc] 25)).drew.heap[w.heap.size]? = some (.cells #[.slice sa n sc, .slice ca m cc] 25 (0, 0))) := hid (heap_alloc_new w _)
  have HKp := hid (fun W (hb : Below (w.alloc (.cells #[.slice sa n sc, .slice ca m cc] 25)).drew.heap.size (w.alloc (.cells #[.slice sa n sc, .slice ca m cc] 25)).drew W) => And.intro (hid (after HD0.out hb HD0.out.size)) (cells_at (lay hb HX0.out)))
  clear h1 h2 hok hZ hn hm
  go_enter Try.func4, Try.ntmps4
  go_wp2
  refine wp_region_held_drew (S := (fun W => Hid (Below w.heap.size w W) ∧ (∀ i, W.cell? ⟨w.heap.size, i, none⟩ = (#[.slice sa n sc, .slice ca m cc] : Array Value)[i]?))) (by kernel_rfl) ?_ (fun hHeld8 => ?_)
  · exact HKp.out _ (Below.refl _ _)
  refine wpAnyH_take (i := 0) (oi := { dst := Option.some 3, op := Go.Op.load 25 (Go.Operand.tmp 1), type := 25, pos := "law.go:52", after := #[], guard := Option.none }) (v := ?_) rfl (by kernel_rfl) (by kernel_rfl) (by kernel_rfl) (fun _ _ _ h => h) (Or.inl ⟨by rfl, ?_⟩) (by assumption) ?_
  rotate_left
  · intro w5x hSwx
    try dsimp only at hSwx
    go_simp
    try with_reducible rfl
  try simp only [Act.put, List.setIfInBounds_toArray, List.set_cons_zero, List.set_cons_succ]
  refine wpAnyH_ready (rs := [1]) (by kernel_rfl) (by simp) ?_
  refine AllReadyH.cons (o := { dst := Option.some 4, op := Go.Op.call { callee := Go.Callee.value (Go.Operand.func 6), args := #[Go.Operand.tmp 3], argTypes := #[25] }, type := 4, pos := "law.go:52", after := #[{ on := 0, ground := Go.Ground.data }], guard := Option.none }) rfl (fun K hK => ?_) AllReadyH.nil
  go_simp
  refine (HL.out _ HD0.out).mono ?_
  rintro e w1 ⟨⟨l, rfl, hl⟩, hb1⟩
  have HT1 := hid hb1.out
  have HLL := hid hl
  clear hl hb1
  cases l
  all_goals
    go_simp
    refine hK.out _ _ ?_ (fun hHeld9 => ?_)
    · exact HKp.out _ HT1.out
    clear hK K hHeld8
    try simp only [Act.put, List.setIfInBounds_toArray, List.set_cons_zero, List.set_cons_succ]
    first
      | refine wpAnyH_take (i := 2) (oi := { dst := Option.some 5, op := Go.Op.unOp Go.UnOp.not 4 (Go.Operand.tmp 4), type := 4, pos := "law.go:52", after := #[{ on := 1, ground := Go.Ground.data }], guard := Option.none }) (v := ?_) rfl (by kernel_rfl) (by kernel_rfl) (by kernel_rfl) (fun _ _ _ h => h) (Or.inl ⟨by rfl, ?_⟩) (by assumption) ?_
        rotate_left
        · intro w5x hSwx
          try dsimp only at hSwx
          go_simp
          try with_reducible rfl
        try simp only [Act.put, List.setIfInBounds_toArray, List.set_cons_zero, List.set_cons_succ]
        refine wpAnyH_take (i := 3) (oi := { dst := Option.some 6, op := Go.Op.move (Go.Operand.tmp 5), type := 4, pos := "law.go:52", after := #[{ on := 2, ground := Go.Ground.data }, { on := 1, ground := Go.Ground.chain }], guard := Option.none }) (v := ?_) rfl (by kernel_rfl) (by kernel_rfl) (by kernel_rfl) (fun _ _ _ h => h) (Or.inl ⟨by rfl, ?_⟩) (by assumption) ?_
        rotate_left
        · intro w5x hSwx
          try dsimp only at hSwx
          go_simp
          try with_reducible rfl
        try simp only [Act.put, List.setIfInBounds_toArray, List.set_cons_zero, List.set_cons_succ]
        refine wpAnyH_ready (rs := [4]) (by kernel_rfl) (by simp) ?_
        refine AllReadyH.cons (o := { dst := Option.some 7, op := Go.Op.call { callee := Go.Callee.value (Go.Operand.func 7), args := #[], argTypes := #[] }, type := 4, pos := "law.go:52", after := #[{ on := 3, ground := Go.Ground.chain }, { on := 3, ground := Go.Ground.guard }], guard := Option.some (3, Bool.true) }) rfl (fun K hK => ?_) AllReadyH.nil
        go_simp
        go_wp2_with (first | (go_at_call 16; refine (HR.out _ (after HD0.out HT1.out HD0.out.size)).mono ?_; rintro e w5 ⟨rfl, hb5⟩; have HTa := hid (after HT1.out hb5.out HT1.out.size); clear hb5) | (go_at_call 17; refine (HRR.out _ (after HD0.out HTa.out HD0.out.size) (HLL.out (by first | trivial | rfl))).mono ?_; rintro e w6 ⟨rfl, hb6⟩; have HTb := hid (after HTa.out hb6.out HTa.out.size); clear hb6) | (go_at_call 7; have HTp := HTb; refine (alive_i _).mono ?_; rintro e w7 ⟨rfl, hb7⟩; have HTc := hid (after HTp.out hb7.out HTp.out.size); clear hb7) | (go_at_call 7; have HTp := HT1; refine (alive_i _).mono ?_; rintro e w7 ⟨rfl, hb7⟩; have HTc := hid (after HTp.out hb7.out HTp.out.size); clear hb7))
        refine hK.out _ _ ?_ (fun hHeld12 => ?_)
        · (try dsimp only) <;> (first | exact HKp.out _ HTc.out | exact HKp.out _ HTb.out | exact HKp.out _ HTa.out | exact HKp.out _ HT1.out)
        clear hK K hHeld9
        try simp only [Act.put, List.setIfInBounds_toArray, List.set_cons_zero, List.set_cons_succ]
        refine wpAnyH_take (i := 5) (oi := { dst := Option.some 8, op := Go.Op.pick (Go.Operand.tmp 6) (Go.Operand.tmp 7) (Go.Operand.const (Go.Value.bool Bool.false)), type := 4, pos := "law.go:52", after := #[{ on := 3, ground := Go.Ground.data }, { on := 4, ground := Go.Ground.data }], guard := Option.none }) (v := ?_) rfl (by kernel_rfl) (by kernel_rfl) (by kernel_rfl) (fun _ _ _ h => h) (Or.inl ⟨by rfl, ?_⟩) (by assumption) ?_
        rotate_left
        · intro w5x hSwx
          try dsimp only at hSwx
          go_simp
          try with_reducible rfl
        try simp only [Act.put, List.setIfInBounds_toArray, List.set_cons_zero, List.set_cons_succ]
        refine wpAnyH_take (i := 6) (oi := { dst := Option.some 9, op := Go.Op.move (Go.Operand.tmp 8), type := 4, pos := "law.go:52", after := #[{ on := 5, ground := Go.Ground.data }, { on := 4, ground := Go.Ground.chain }], guard := Option.none }) (v := ?_) rfl (by kernel_rfl) (by kernel_rfl) (by kernel_rfl) (fun _ _ _ h => h) (Or.inl ⟨by rfl, ?_⟩) (by assumption) ?_
        rotate_left
        · intro w5x hSwx
          try dsimp only at hSwx
          go_simp
          try with_reducible rfl
        try simp only [Act.put, List.setIfInBounds_toArray, List.set_cons_zero, List.set_cons_succ]
        refine wpAnyH_take (i := 7) (oi := { dst := Option.some 10, op := Go.Op.load 25 (Go.Operand.tmp 1), type := 25, pos := "law.go:52", after := #[{ on := 6, ground := Go.Ground.guard }], guard := Option.some (6, Bool.false) }) (v := undef) rfl (by kernel_rfl) (by kernel_rfl) (by kernel_rfl) (fun _ _ _ h => h) (Or.inr ⟨by rfl, rfl⟩) (by assumption) ?_
        try simp only [Act.put, List.setIfInBounds_toArray, List.set_cons_zero, List.set_cons_succ]
        refine wpAnyH_take (i := 8) (oi := { dst := Option.some 11, op := Go.Op.call { callee := Go.Callee.value (Go.Operand.func 16), args := #[Go.Operand.tmp 10], argTypes := #[25] }, type := 41, pos := "law.go:52", after := #[{ on := 7, ground := Go.Ground.data }, { on := 6, ground := Go.Ground.chain }, { on := 6, ground := Go.Ground.guard }], guard := Option.some (6, Bool.false) }) (v := undef) rfl (by kernel_rfl) (by kernel_rfl) (by kernel_rfl) (fun _ _ _ h => h) (Or.inr ⟨by rfl, rfl⟩) (by assumption) ?_
        try simp only [Act.put, List.setIfInBounds_toArray, List.set_cons_zero, List.set_cons_succ]
        refine wpAnyH_take (i := 9) (oi := { dst := Option.some 12, op := Go.Op.load 25 (Go.Operand.tmp 1), type := 25, pos := "law.go:52", after := #[{ on := 6, ground := Go.Ground.guard }], guard := Option.some (6, Bool.false) }) (v := undef) rfl (by kernel_rfl) (by kernel_rfl) (by kernel_rfl) (fun _ _ _ h => h) (Or.inr ⟨by rfl, rfl⟩) (by assumption) ?_
        try simp only [Act.put, List.setIfInBounds_toArray, List.set_cons_zero, List.set_cons_succ]
        refine wpAnyH_take (i := 10) (oi := { dst := Option.some 13, op := Go.Op.call { callee := Go.Callee.value (Go.Operand.func 17), args := #[Go.Operand.tmp 12], argTypes := #[25] }, type := 41, pos := "law.go:52", after := #[{ on := 9, ground := Go.Ground.data }, { on := 8, ground := Go.Ground.chain }, { on := 6, ground := Go.Ground.guard }], guard := Option.some (6, Bool.false) }) (v := undef) rfl (by kernel_rfl) (by kernel_rfl) (by kernel_rfl) (fun _ _ _ h => h) (Or.inr ⟨by rfl, rfl⟩) (by assumption) ?_
        try simp only [Act.put, List.setIfInBounds_toArray, List.set_cons_zero, List.set_cons_succ]
        refine wpAnyH_take (i := 11) (oi := { dst := Option.some 14, op := Go.Op.binOp Go.BinOp.eql 41 (Go.Operand.tmp 11) (Go.Operand.tmp 13) 41, type := 4, pos := "law.go:52", after := #[{ on := 8, ground := Go.Ground.data }, { on := 10, ground := Go.Ground.data }, { on := 6, ground := Go.Ground.guard }], guard := Option.some (6, Bool.false) }) (v := undef) rfl (by kernel_rfl) (by kernel_rfl) (by kernel_rfl) (fun _ _ _ h => h) (Or.inr ⟨by rfl, rfl⟩) (by assumption) ?_
        try simp only [Act.put, List.setIfInBounds_toArray, List.set_cons_zero, List.set_cons_succ]
        refine wpAnyH_take (i := 12) (oi := { dst := Option.some 15, op := Go.Op.move (Go.Operand.tmp 14), type := 4, pos := "law.go:52", after := #[{ on := 11, ground := Go.Ground.data }, { on := 10, ground := Go.Ground.chain }, { on := 6, ground := Go.Ground.guard }], guard := Option.some (6, Bool.false) }) (v := undef) rfl (by kernel_rfl) (by kernel_rfl) (by kernel_rfl) (fun _ _ _ h => h) (Or.inr ⟨by rfl, rfl⟩) (by assumption) ?_
        try simp only [Act.put, List.setIfInBounds_toArray, List.set_cons_zero, List.set_cons_succ]
        refine wpAnyH_take (i := 13) (oi := { dst := Option.some 16, op := Go.Op.call { callee := Go.Callee.value (Go.Operand.func 7), args := #[], argTypes := #[] }, type := 4, pos := "law.go:52", after := #[{ on := 12, ground := Go.Ground.chain }, { on := 12, ground := Go.Ground.guard }], guard := Option.some (12, Bool.true) }) (v := undef) rfl (by kernel_rfl) (by kernel_rfl) (by kernel_rfl) (fun _ _ _ h => h) (Or.inr ⟨by rfl, rfl⟩) (by assumption) ?_
        try simp only [Act.put, List.setIfInBounds_toArray, List.set_cons_zero, List.set_cons_succ]
        refine wpAnyH_take (i := 14) (oi := { dst := Option.some 17, op := Go.Op.pick (Go.Operand.tmp 15) (Go.Operand.tmp 16) (Go.Operand.const (Go.Value.bool Bool.false)), type := 4, pos := "law.go:52", after := #[{ on := 12, ground := Go.Ground.data }, { on := 13, ground := Go.Ground.data }, { on := 6, ground := Go.Ground.guard }], guard := Option.some (6, Bool.false) }) (v := undef) rfl (by kernel_rfl) (by kernel_rfl) (by kernel_rfl) (fun _ _ _ h => h) (Or.inr ⟨by rfl, rfl⟩) (by assumption) ?_
        try simp only [Act.put, List.setIfInBounds_toArray, List.set_cons_zero, List.set_cons_succ]
        refine wpAnyH_take (i := 15) (oi := { dst := Option.some 18, op := Go.Op.pick (Go.Operand.tmp 9) (Go.Operand.const (Go.Value.bool Bool.true)) (Go.Operand.tmp 17), type := 4, pos := "law.go:52", after := #[{ on := 6, ground := Go.Ground.data }, { on := 14, ground := Go.Ground.data }], guard := Option.none }) (v := ?_) rfl (by kernel_rfl) (by kernel_rfl) (by kernel_rfl) (fun _ _ _ h => h) (Or.inl ⟨by rfl, ?_⟩) (by assumption) ?_
        rotate_left
        · intro w5x hSwx
          try dsimp only at hSwx
          go_simp
          try with_reducible rfl
        try simp only [Act.put, List.setIfInBounds_toArray, List.set_cons_zero, List.set_cons_succ]
        refine wpAnyH_take (i := 16) (oi := { dst := Option.some 2, op := Go.Op.assign (Go.Operand.tmp 18), type := 4, pos := "law.go:52", after := #[{ on := 15, ground := Go.Ground.data }, { on := 13, ground := Go.Ground.chain }, { on := 0, ground := Go.Ground.phase }, { on := 1, ground := Go.Ground.phase }, { on := 2, ground := Go.Ground.phase }, { on := 3, ground := Go.Ground.phase }, { on := 4, ground := Go.Ground.phase }, { on := 5, ground := Go.Ground.phase }, { on := 6, ground := Go.Ground.phase }, { on := 7, ground := Go.Ground.phase }, { on := 8, ground := Go.Ground.phase }, { on := 9, ground := Go.Ground.phase }, { on := 10, ground := Go.Ground.phase }, { on := 11, ground := Go.Ground.phase }, { on := 12, ground := Go.Ground.phase }, { on := 13, ground := Go.Ground.phase }, { on := 14, ground := Go.Ground.phase }, { on := 15, ground := Go.Ground.phase }], guard := Option.none }) (v := ?_) rfl (by kernel_rfl) (by kernel_rfl) (by kernel_rfl) (fun _ _ _ h => h) (Or.inl ⟨by rfl, ?_⟩) (by assumption) ?_
        rotate_left
        · intro w5x hSwx
          try dsimp only at hSwx
          go_simp
          try with_reducible rfl
        try simp only [Act.put, List.setIfInBounds_toArray, List.set_cons_zero, List.set_cons_succ]
        refine wpAnyH_done (by kernel_rfl) ?_ _
      | refine wpAnyH_take (i := 2) (oi := { dst := Option.some 5, op := Go.Op.unOp Go.UnOp.not 4 (Go.Operand.tmp 4), type := 4, pos := "law.go:52", after := #[{ on := 1, ground := Go.Ground.data }], guard := Option.none }) (v := ?_) rfl (by kernel_rfl) (by kernel_rfl) (by kernel_rfl) (fun _ _ _ h => h) (Or.inl ⟨by rfl, ?_⟩) (by assumption) ?_
        rotate_left
        · intro w5x hSwx
          try dsimp only at hSwx
          go_simp
          try with_reducible rfl
        try simp only [Act.put, List.setIfInBounds_toArray, List.set_cons_zero, List.set_cons_succ]
        refine wpAnyH_take (i := 3) (oi := { dst := Option.some 6, op := Go.Op.move (Go.Operand.tmp 5), type := 4, pos := "law.go:52", after := #[{ on := 2, ground := Go.Ground.data }, { on := 1, ground := Go.Ground.chain }], guard := Option.none }) (v := ?_) rfl (by kernel_rfl) (by kernel_rfl) (by kernel_rfl) (fun _ _ _ h => h) (Or.inl ⟨by rfl, ?_⟩) (by assumption) ?_
        rotate_left
        · intro w5x hSwx
          try dsimp only at hSwx
          go_simp
          try with_reducible rfl
        try simp only [Act.put, List.setIfInBounds_toArray, List.set_cons_zero, List.set_cons_succ]
        refine wpAnyH_take (i := 4) (oi := { dst := Option.some 7, op := Go.Op.call { callee := Go.Callee.value (Go.Operand.func 7), args := #[], argTypes := #[] }, type := 4, pos := "law.go:52", after := #[{ on := 3, ground := Go.Ground.chain }, { on := 3, ground := Go.Ground.guard }], guard := Option.some (3, Bool.true) }) (v := undef) rfl (by kernel_rfl) (by kernel_rfl) (by kernel_rfl) (fun _ _ _ h => h) (Or.inr ⟨by rfl, rfl⟩) (by assumption) ?_
        try simp only [Act.put, List.setIfInBounds_toArray, List.set_cons_zero, List.set_cons_succ]
        refine wpAnyH_take (i := 5) (oi := { dst := Option.some 8, op := Go.Op.pick (Go.Operand.tmp 6) (Go.Operand.tmp 7) (Go.Operand.const (Go.Value.bool Bool.false)), type := 4, pos := "law.go:52", after := #[{ on := 3, ground := Go.Ground.data }, { on := 4, ground := Go.Ground.data }], guard := Option.none }) (v := ?_) rfl (by kernel_rfl) (by kernel_rfl) (by kernel_rfl) (fun _ _ _ h => h) (Or.inl ⟨by rfl, ?_⟩) (by assumption) ?_
        rotate_left
        · intro w5x hSwx
          try dsimp only at hSwx
          go_simp
          try with_reducible rfl
        try simp only [Act.put, List.setIfInBounds_toArray, List.set_cons_zero, List.set_cons_succ]
        refine wpAnyH_take (i := 6) (oi := { dst := Option.some 9, op := Go.Op.move (Go.Operand.tmp 8), type := 4, pos := "law.go:52", after := #[{ on := 5, ground := Go.Ground.data }, { on := 4, ground := Go.Ground.chain }], guard := Option.none }) (v := ?_) rfl (by kernel_rfl) (by kernel_rfl) (by kernel_rfl) (fun _ _ _ h => h) (Or.inl ⟨by rfl, ?_⟩) (by assumption) ?_
        rotate_left
        · intro w5x hSwx
          try dsimp only at hSwx
          go_simp
          try with_reducible rfl
        try simp only [Act.put, List.setIfInBounds_toArray, List.set_cons_zero, List.set_cons_succ]
        refine wpAnyH_take (i := 7) (oi := { dst := Option.some 10, op := Go.Op.load 25 (Go.Operand.tmp 1), type := 25, pos := "law.go:52", after := #[{ on := 6, ground := Go.Ground.guard }], guard := Option.some (6, Bool.false) }) (v := ?_) rfl (by kernel_rfl) (by kernel_rfl) (by kernel_rfl) (fun _ _ _ h => h) (Or.inl ⟨by rfl, ?_⟩) (by assumption) ?_
        rotate_left
        · intro w5x hSwx
          try dsimp only at hSwx
          go_simp
          try with_reducible rfl
        try simp only [Act.put, List.setIfInBounds_toArray, List.set_cons_zero, List.set_cons_succ]
        refine wpAnyH_take (i := 9) (oi := { dst := Option.some 12, op := Go.Op.load 25 (Go.Operand.tmp 1), type := 25, pos := "law.go:52", after := #[{ on := 6, ground := Go.Ground.guard }], guard := Option.some (6, Bool.false) }) (v := ?_) rfl (by kernel_rfl) (by kernel_rfl) (by kernel_rfl) (fun _ _ _ h => h) (Or.inl ⟨by rfl, ?_⟩) (by assumption) ?_
        rotate_left
        · intro w5x hSwx
          try dsimp only at hSwx
          go_simp
          try with_reducible rfl
        try simp only [Act.put, List.setIfInBounds_toArray, List.set_cons_zero, List.set_cons_succ]
        refine wpAnyH_ready (rs := [8]) (by kernel_rfl) (by simp) ?_
        refine AllReadyH.cons (o := { dst := Option.some 11, op := Go.Op.call { callee := Go.Callee.value (Go.Operand.func 16), args := #[Go.Operand.tmp 10], argTypes := #[25] }, type := 41, pos := "law.go:52", after := #[{ on := 7, ground := Go.Ground.data }, { on := 6, ground := Go.Ground.chain }, { on := 6, ground := Go.Ground.guard }], guard := Option.some (6, Bool.false) }) rfl (fun K hK => ?_) AllReadyH.nil
        go_simp
        go_wp2_with (first | (go_at_call 16; refine (HR.out _ (after HD0.out HT1.out HD0.out.size)).mono ?_; rintro e w5 ⟨rfl, hb5⟩; have HTa := hid (after HT1.out hb5.out HT1.out.size); clear hb5) | (go_at_call 17; refine (HRR.out _ (after HD0.out HTa.out HD0.out.size) (HLL.out (by first | trivial | rfl))).mono ?_; rintro e w6 ⟨rfl, hb6⟩; have HTb := hid (after HTa.out hb6.out HTa.out.size); clear hb6) | (go_at_call 7; have HTp := HTb; refine (alive_i _).mono ?_; rintro e w7 ⟨rfl, hb7⟩; have HTc := hid (after HTp.out hb7.out HTp.out.size); clear hb7) | (go_at_call 7; have HTp := HT1; refine (alive_i _).mono ?_; rintro e w7 ⟨rfl, hb7⟩; have HTc := hid (after HTp.out hb7.out HTp.out.size); clear hb7))
        refine hK.out _ _ ?_ (fun hHeld12 => ?_)
        · (try dsimp only) <;> (first | exact HKp.out _ HTc.out | exact HKp.out _ HTb.out | exact HKp.out _ HTa.out | exact HKp.out _ HT1.out)
        clear hK K hHeld9
        try simp only [Act.put, List.setIfInBounds_toArray, List.set_cons_zero, List.set_cons_succ]
        refine wpAnyH_ready (rs := [10]) (by kernel_rfl) (by simp) ?_
        refine AllReadyH.cons (o := { dst := Option.some 13, op := Go.Op.call { callee := Go.Callee.value (Go.Operand.func 17), args := #[Go.Operand.tmp 12], argTypes := #[25] }, type := 41, pos := "law.go:52", after := #[{ on := 9, ground := Go.Ground.data }, { on := 8, ground := Go.Ground.chain }, { on := 6, ground := Go.Ground.guard }], guard := Option.some (6, Bool.false) }) rfl (fun K hK => ?_) AllReadyH.nil
        go_simp
        go_wp2_with (first | (go_at_call 16; refine (HR.out _ (after HD0.out HT1.out HD0.out.size)).mono ?_; rintro e w5 ⟨rfl, hb5⟩; have HTa := hid (after HT1.out hb5.out HT1.out.size); clear hb5) | (go_at_call 17; refine (HRR.out _ (after HD0.out HTa.out HD0.out.size) (HLL.out (by first | trivial | rfl))).mono ?_; rintro e w6 ⟨rfl, hb6⟩; have HTb := hid (after HTa.out hb6.out HTa.out.size); clear hb6) | (go_at_call 7; have HTp := HTb; refine (alive_i _).mono ?_; rintro e w7 ⟨rfl, hb7⟩; have HTc := hid (after HTp.out hb7.out HTp.out.size); clear hb7) | (go_at_call 7; have HTp := HT1; refine (alive_i _).mono ?_; rintro e w7 ⟨rfl, hb7⟩; have HTc := hid (after HTp.out hb7.out HTp.out.size); clear hb7))
        refine hK.out _ _ ?_ (fun hHeld15 => ?_)
        · (try dsimp only) <;> (first | exact HKp.out _ HTc.out | exact HKp.out _ HTb.out | exact HKp.out _ HTa.out | exact HKp.out _ HT1.out)
        clear hK K hHeld12
        try simp only [Act.put, List.setIfInBounds_toArray, List.set_cons_zero, List.set_cons_succ]
        refine wpAnyH_take (i := 11) (oi := { dst := Option.some 14, op := Go.Op.binOp Go.BinOp.eql 41 (Go.Operand.tmp 11) (Go.Operand.tmp 13) 41, type := 4, pos := "law.go:52", after := #[{ on := 8, ground := Go.Ground.data }, { on := 10, ground := Go.Ground.data }, { on := 6, ground := Go.Ground.guard }], guard := Option.some (6, Bool.false) }) (v := Value.bool true) rfl (by kernel_rfl) (by kernel_rfl) (by kernel_rfl) (fun _ _ _ h => h) (Or.inl ⟨by rfl, ?_⟩) (by assumption) ?_
        · intro w5x hSwx
          try dsimp only at hSwx
          go_simp
          all_goals first | with_reducible rfl | ((try simp only [Value.bool.injEq, decide_eq_true_eq, decide_eq_false_iff_not]); omega)
        try simp only [Act.put, List.setIfInBounds_toArray, List.set_cons_zero, List.set_cons_succ]
        refine wpAnyH_take (i := 12) (oi := { dst := Option.some 15, op := Go.Op.move (Go.Operand.tmp 14), type := 4, pos := "law.go:52", after := #[{ on := 11, ground := Go.Ground.data }, { on := 10, ground := Go.Ground.chain }, { on := 6, ground := Go.Ground.guard }], guard := Option.some (6, Bool.false) }) (v := ?_) rfl (by kernel_rfl) (by kernel_rfl) (by kernel_rfl) (fun _ _ _ h => h) (Or.inl ⟨by rfl, ?_⟩) (by assumption) ?_
        rotate_left
        · intro w5x hSwx
          try dsimp only at hSwx
          go_simp
          try with_reducible rfl
        try simp only [Act.put, List.setIfInBounds_toArray, List.set_cons_zero, List.set_cons_succ]
        refine wpAnyH_ready (rs := [13]) (by kernel_rfl) (by simp) ?_
        refine AllReadyH.cons (o := { dst := Option.some 16, op := Go.Op.call { callee := Go.Callee.value (Go.Operand.func 7), args := #[], argTypes := #[] }, type := 4, pos := "law.go:52", after := #[{ on := 12, ground := Go.Ground.chain }, { on := 12, ground := Go.Ground.guard }], guard := Option.some (12, Bool.true) }) rfl (fun K hK => ?_) AllReadyH.nil
        go_simp
        go_wp2_with (first | (go_at_call 16; refine (HR.out _ (after HD0.out HT1.out HD0.out.size)).mono ?_; rintro e w5 ⟨rfl, hb5⟩; have HTa := hid (after HT1.out hb5.out HT1.out.size); clear hb5) | (go_at_call 17; refine (HRR.out _ (after HD0.out HTa.out HD0.out.size) (HLL.out (by first | trivial | rfl))).mono ?_; rintro e w6 ⟨rfl, hb6⟩; have HTb := hid (after HTa.out hb6.out HTa.out.size); clear hb6) | (go_at_call 7; have HTp := HTb; refine (alive_i _).mono ?_; rintro e w7 ⟨rfl, hb7⟩; have HTc := hid (after HTp.out hb7.out HTp.out.size); clear hb7) | (go_at_call 7; have HTp := HT1; refine (alive_i _).mono ?_; rintro e w7 ⟨rfl, hb7⟩; have HTc := hid (after HTp.out hb7.out HTp.out.size); clear hb7))
        refine hK.out _ _ ?_ (fun hHeld18 => ?_)
        · (try dsimp only) <;> (first | exact HKp.out _ HTc.out | exact HKp.out _ HTb.out | exact HKp.out _ HTa.out | exact HKp.out _ HT1.out)
        clear hK K hHeld15
        try simp only [Act.put, List.setIfInBounds_toArray, List.set_cons_zero, List.set_cons_succ]
        refine wpAnyH_take (i := 14) (oi := { dst := Option.some 17, op := Go.Op.pick (Go.Operand.tmp 15) (Go.Operand.tmp 16) (Go.Operand.const (Go.Value.bool Bool.false)), type := 4, pos := "law.go:52", after := #[{ on := 12, ground := Go.Ground.data }, { on := 13, ground := Go.Ground.data }, { on := 6, ground := Go.Ground.guard }], guard := Option.some (6, Bool.false) }) (v := ?_) rfl (by kernel_rfl) (by kernel_rfl) (by kernel_rfl) (fun _ _ _ h => h) (Or.inl ⟨by rfl, ?_⟩) (by assumption) ?_
        rotate_left
        · intro w5x hSwx
          try dsimp only at hSwx
          go_simp
          try with_reducible rfl
        try simp only [Act.put, List.setIfInBounds_toArray, List.set_cons_zero, List.set_cons_succ]
        refine wpAnyH_take (i := 15) (oi := { dst := Option.some 18, op := Go.Op.pick (Go.Operand.tmp 9) (Go.Operand.const (Go.Value.bool Bool.true)) (Go.Operand.tmp 17), type := 4, pos := "law.go:52", after := #[{ on := 6, ground := Go.Ground.data }, { on := 14, ground := Go.Ground.data }], guard := Option.none }) (v := ?_) rfl (by kernel_rfl) (by kernel_rfl) (by kernel_rfl) (fun _ _ _ h => h) (Or.inl ⟨by rfl, ?_⟩) (by assumption) ?_
        rotate_left
        · intro w5x hSwx
          try dsimp only at hSwx
          go_simp
          try with_reducible rfl
        try simp only [Act.put, List.setIfInBounds_toArray, List.set_cons_zero, List.set_cons_succ]
        refine wpAnyH_take (i := 16) (oi := { dst := Option.some 2, op := Go.Op.assign (Go.Operand.tmp 18), type := 4, pos := "law.go:52", after := #[{ on := 15, ground := Go.Ground.data }, { on := 13, ground := Go.Ground.chain }, { on := 0, ground := Go.Ground.phase }, { on := 1, ground := Go.Ground.phase }, { on := 2, ground := Go.Ground.phase }, { on := 3, ground := Go.Ground.phase }, { on := 4, ground := Go.Ground.phase }, { on := 5, ground := Go.Ground.phase }, { on := 6, ground := Go.Ground.phase }, { on := 7, ground := Go.Ground.phase }, { on := 8, ground := Go.Ground.phase }, { on := 9, ground := Go.Ground.phase }, { on := 10, ground := Go.Ground.phase }, { on := 11, ground := Go.Ground.phase }, { on := 12, ground := Go.Ground.phase }, { on := 13, ground := Go.Ground.phase }, { on := 14, ground := Go.Ground.phase }, { on := 15, ground := Go.Ground.phase }], guard := Option.none }) (v := ?_) rfl (by kernel_rfl) (by kernel_rfl) (by kernel_rfl) (fun _ _ _ h => h) (Or.inl ⟨by rfl, ?_⟩) (by assumption) ?_
        rotate_left
        · intro w5x hSwx
          try dsimp only at hSwx
          go_simp
          try with_reducible rfl
        try simp only [Act.put, List.setIfInBounds_toArray, List.set_cons_zero, List.set_cons_succ]
        refine wpAnyH_done (by kernel_rfl) ?_ _
    go_wp2
    go_ret
    exact ⟨rfl, hid (after HD0.out HTc.out HD0.out.size)⟩
end Go.Proofs.Ytfhdiahjfnphkaa
