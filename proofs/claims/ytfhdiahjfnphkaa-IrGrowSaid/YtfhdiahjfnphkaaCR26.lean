/- What a judge's 'numbers' reads: exact worlds. No conditions. -/
import Derived.Test.YtfhdiahjfnphkaaCR12
import Derived.Test.YtfhdiahjfnphkaaCR22
namespace Go.Proofs.Ytfhdiahjfnphkaa
open Go.RowKit Go.Maps
set_option linter.unusedVariables false
set_option linter.unusedSimpArgs false
theorem reads3 (r : InD) (ao mo : Option Addr) (ac mc : Nat) (w : World) (h : r.op = 3) :
    Calls Try.prog 77 #[.agg (InV r ao ac mo mc)] w fun e w' => e = .returned (.slice (some ⟨w.heap.size + 1, 0, none⟩) 1 1) ∧ w' = (w.alloc (.cells (InV r ao ac mo mc) 49)).alloc (.cells #[.int .i64 r.a] 3) := by
  obtain ⟨op, d, a, b, tt, el, f, n, l, c, sg, xs, ms⟩ := r
  simp only at h
  subst h
  go_enter Try.func77, Try.ntmps77
  go_wp2
  go_ret
  exact ⟨rfl, rfl⟩
theorem reads4 (r : InD) (ao mo : Option Addr) (ac mc : Nat) (w : World) (h : r.op = 4) :
    Calls Try.prog 77 #[.agg (InV r ao ac mo mc)] w fun e w' => e = .returned (.slice (some ⟨w.heap.size + 1, 0, none⟩) 2 2) ∧ w' = (w.alloc (.cells (InV r ao ac mo mc) 49)).alloc (.cells #[.int .i64 r.a, .int .i64 r.b] 3) := by
  obtain ⟨op, d, a, b, tt, el, f, n, l, c, sg, xs, ms⟩ := r
  simp only at h
  subst h
  go_enter Try.func77, Try.ntmps77
  go_wp2
  go_ret
  exact ⟨rfl, rfl⟩
end Go.Proofs.Ytfhdiahjfnphkaa
/- What 'num', and the numbers' operations, ask. No conditions. -/
namespace Go.Proofs.Ytfhdiahjfnphkaa
open Go.RowKit Go.Maps
set_option linter.unusedVariables false
set_option linter.unusedSimpArgs false
theorem step_append_at {P : Program} {ops : Array Oper} {o : Oper} {a : Act} {w : World} {K : Act → World → Prop} {Q : Exit → Act → World → Prop} {E : Prop} (hgd : o.guard = none) (s x : Operand) (t : TypeId)
    (ho : o.op = .call { callee := .builtin .append, args := #[s, x], argTypes := #[t, t] })
    (base : Nat) (e : TypeId) (i : TypeInfo) (z : Value) (size bytes : Nat) (ht : P.underlying t = some (.slice e)) (hi : P.info? e = some i) (hz : i.zero = some z)
    (hsize : i.size = size) (hby : i.bytes = bytes) (hzs : z.cells.size = size) (hsz : 0 < size)
    (v : Value) (n : Nat) (xs : List Value) (hs : a.eval s = v) (hown : w.ownsRow base e size v n xs)
    (ad : Addr) (m c : Nat) (news : List Value) (hx : a.eval x = .slice (some ad) m c) (hl : news.length = m * size) (hnews : ∀ j u, news[j]? = some u → w.cell? (ad.add j) = some u) (h1 : ∀ u ∈ news, u.oneCell' = true)
    (h63 : n + m ≤ maxLen) (hbytes : (n + m) * bytes ≤ 140737488355328) (hbase : base ≤ w.heap.size)
    (h : ∀ v' w', w'.ownsRow base e size v' (n + m) (xs ++ news) → w.grownBy w' v.ownBlock → (v'.ownBlock = v.ownBlock ∨ v'.ownBlock = some w.heap.size) → K (a.put o.dst v') w') :
    if Region.wanted o (yielded ops a.tmps) = true then Oper.wp P o a w K Q else E := by
  have hw : Region.wanted o (yielded ops a.tmps) = true := by simp [Region.wanted, hgd]
  rw [if_pos hw]
  obtain ⟨v', w', hr, h2, h3, h4, h5⟩ := run_append_own_at (P := P) w base t o.type e i z size bytes ht hi hz hsize hby hzs hsz v n xs hown ad m c news hl hnews h1 h63 hbytes hbase
  unfold Oper.wp execOp
  simp only [ho, resolve, invoke, builtin, Sem.run_bind, Sem.run_pure, Result.andThen_ok, List.map_toArray, List.map_cons, List.map_nil, hs, hx, hr]
  exact h v' w' h2 h3 h5
theorem owns_at {W : World} {g base : Nat} (cs : Array Value) (L : List Int) (h : W.heap[g]? = some (.cells cs 3 (0, 0))) (hc : cs.toList = L.map (Value.int .i64)) (hb : base ≤ g) (hl : L.length ≤ 10) :
    W.ownsRow base 3 1 (.slice (some ⟨g, 0, none⟩) L.length L.length) L.length (L.map (Value.int .i64)) := by
  have hs : cs.size = L.length := by rw [← Array.length_toList, hc, List.length_map]
  exact ⟨by simp, .inr ⟨g, L.length, cs, rfl, hb, h, Nat.le_refl _, by unfold maxLen; omega, by omega, by rw [Nat.mul_one, hc, ← List.length_map (f := Value.int .i64), List.take_length]⟩⟩
theorem heap_a (w : World) (B X A D : Obj) : ((((w.alloc B).alloc X).alloc A).alloc D).drew.heap[w.heap.size + 1 + 1]? = some A := by
  show ((((w.alloc B).alloc X).alloc A).alloc D).heap[w.heap.size + 1 + 1]? = some A
  have h := old_block (below1 _ D) (by simp) (heap_alloc_new ((w.alloc B).alloc X) A)
  rwa [World.size_alloc, World.size_alloc] at h
theorem heap_d (w : World) (B X A D : Obj) : ((((w.alloc B).alloc X).alloc A).alloc D).drew.heap[w.heap.size + 1 + 1 + 1]? = some D := by
  show ((((w.alloc B).alloc X).alloc A).alloc D).heap[w.heap.size + 1 + 1 + 1]? = some D
  have h := heap_alloc_new (((w.alloc B).alloc X).alloc A) D
  rwa [World.size_alloc, World.size_alloc, World.size_alloc] at h
theorem heap_b (w : World) (B X A D : Obj) : ((((w.alloc B).alloc X).alloc A).alloc D).drew.heap[w.heap.size + 1]? = some X := by
  show ((((w.alloc B).alloc X).alloc A).alloc D).heap[w.heap.size + 1]? = some X
  have h := old_block (below2 _ A D) (by simp) (heap_alloc_new (w.alloc B) X)
  rwa [World.size_alloc] at h
theorem heap_0 (w : World) (B X A D : Obj) : ((((w.alloc B).alloc X).alloc A).alloc D).drew.heap[w.heap.size]? = some B := by
  show ((((w.alloc B).alloc X).alloc A).alloc D).heap[w.heap.size]? = some B
  exact old_block (below3a _ X A D) (by simp) (heap_alloc_new w B)
theorem cell_of {W : World} {k : Nat} {v : Value} (h : W.heap[k]? = some (.cells #[v] 3 (0, 0))) : ∀ j u, [v][j]? = some u → W.cell? ((⟨k, 0, none⟩ : Addr).add j) = some u := by
  intro j u hj
  cases j with
  | zero => simp at hj; subst hj; exact cells_at h 0
  | succ j => simp at hj
/-- What the numbers' operations ask of a list of variables. -/
def numsG (x : CoD) (op : Int) (sg : ByteArray) (xs : List Int) : Int :=
  if xs.all (inN x.vs.length) then (if xs.any (fun y => (tyOf x y).p) then 7 else if op = 4 ∧ sgF sg = false then 3 else 0) else 15
theorem nums_3 (x : CoD) (d a b tt el f n l c : Int) (sg : ByteArray) (xs ms : List Int) : numsF x ⟨3, d, a, b, tt, el, f, n, l, c, sg, xs, ms⟩ = numsG x 3 sg [a, d] := by
  simp [numsF, numsG]
theorem nums_4 (x : CoD) (d a b tt el f n l c : Int) (sg : ByteArray) (xs ms : List Int) : numsF x ⟨4, d, a, b, tt, el, f, n, l, c, sg, xs, ms⟩ = numsG x 4 sg [a, b, d] := by
  simp only [numsF, numsG, List.all_cons, List.all_nil, List.any_cons, List.any_nil, Bool.and_true, Bool.or_false]
  cases h : sgF sg <;> simp
set_option maxRecDepth 100000 in
set_option maxHeartbeats 8000000 in
theorem numbers_3 (p : JP) (J : Nat) (d a b tt el f nn l c : Int) (sg : ByteArray) (ys ms : List Int) (ao mo : Option Addr) (ac mc : Nat) (w : World) (hj : JG w J p) :
    Calls Try.prog 60 #[.pointer (some ⟨J, 0, none⟩), .agg (InV ⟨3, d, a, b, tt, el, f, nn, l, c, sg, ys, ms⟩ ao ac mo mc)] w fun e w' => e = .returned (.int .i64 (numsF p.x ⟨3, d, a, b, tt, el, f, nn, l, c, sg, ys, ms⟩)) ∧ Hid (Below w.heap.size w w') := by
  rw [nums_3]
  obtain ⟨G, hG⟩ : ∃ G, numsG p.x 3 sg [a, d] = G := ⟨_, rfl⟩
  rw [hG]
  have HG := hid hG
  have HJ := hid (fun W (hb : Below w.heap.size w W) => hj.later hb)
  have HD0 := hid (below1 w (.cells (InV ⟨3, d, a, b, tt, el, f, nn, l, c, sg, ys, ms⟩ ao ac mo mc) 49)).drew
  have HX0 : Hid ((w.alloc (.cells (InV ⟨3, d, a, b, tt, el, f, nn, l, c, sg, ys, ms⟩ ao ac mo mc) 49)).drew.heap[w.heap.size]? = some (.cells (InV ⟨3, d, a, b, tt, el, f, nn, l, c, sg, ys, ms⟩ ao ac mo mc) 49)) := hid (heap_alloc_new w _)
  have HKp := hid (fun W (hb : Below (w.alloc (.cells (InV ⟨3, d, a, b, tt, el, f, nn, l, c, sg, ys, ms⟩ ao ac mo mc) 49)).drew.heap.size (w.alloc (.cells (InV ⟨3, d, a, b, tt, el, f, nn, l, c, sg, ys, ms⟩ ao ac mo mc) 49)).drew W) => And.intro (hid (after HD0.out hb HD0.out.size)) (cells_at (lay hb HX0.out)))
  have HE0 := hid (below1 (w.alloc (.cells (InV ⟨3, d, a, b, tt, el, f, nn, l, c, sg, ys, ms⟩ ao ac mo mc) 49)).drew)
  have HE2 := hid (below2 (w.alloc (.cells (InV ⟨3, d, a, b, tt, el, f, nn, l, c, sg, ys, ms⟩ ao ac mo mc) 49)).drew)
  have HE3 := hid (below3a (w.alloc (.cells (InV ⟨3, d, a, b, tt, el, f, nn, l, c, sg, ys, ms⟩ ao ac mo mc) 49)).drew)
  obtain ⟨i0t, hti, hz0, hz1, hz2⟩ := info_parts info3
  have hfd : ∀ b n (w : World), (Instr.field 31 (.agg #[.bool b, .string n]) 0).run Try.prog w = .ok (.bool b) w := fun _ _ _ => by kernel_rfl
  clear hj hG
  go_enter Try.func60, Try.ntmps60
  go_wp2
  refine wp_region_held_drew (S := fun W => Hid (Below w.heap.size w W) ∧ (∀ i, W.cell? ⟨w.heap.size, i, none⟩ = (InV ⟨3, d, a, b, tt, el, f, nn, l, c, sg, ys, ms⟩ ao ac mo mc)[i]?)) (by kernel_rfl) ?_ (fun hHeld0 => ?_)
  · (try dsimp only) <;> (first | exact HKp.out _ (Below.refl _ _) | exact HKp.out _ (HE0.out _) | exact HKp.out _ (HE2.out _ _) | exact HKp.out _ (HE3.out _ _ _) | exact ⟨HB2, cells_at HX2.out⟩)
  refine wpAnyH_take (i := 0) (oi := { dst := Option.some 8, op := Go.Op.load 49 (Go.Operand.tmp 3), type := 49, pos := "ir.go:290", after := #[], guard := Option.none }) (v := ?_) rfl (by kernel_rfl) (by kernel_rfl) (by kernel_rfl) (fun _ _ _ h => h) (Or.inl ⟨by rfl, ?_⟩) (by assumption) ?_
  rotate_left
  · intro w5x hSwx
    try dsimp only at hSwx
    go_simp
    try with_reducible rfl
  try simp only [Act.put, List.setIfInBounds_toArray, List.set_cons_zero, List.set_cons_succ]
  refine wpAnyH_take (i := 2) (oi := { dst := Option.some 10, op := Go.Op.fieldAddr 49 (Go.Operand.tmp 3) 1, type := 0, pos := "ir.go:290", after := #[], guard := Option.none }) (v := ?_) rfl (by kernel_rfl) (by kernel_rfl) (by kernel_rfl) (fun _ _ _ h => h) (Or.inl ⟨by rfl, ?_⟩) (by assumption) ?_
  rotate_left
  · intro w5x hSwx
    try dsimp only at hSwx
    go_simp
    try with_reducible rfl
  try simp only [Act.put, List.setIfInBounds_toArray, List.set_cons_zero, List.set_cons_succ]
  refine wpAnyH_take (i := 3) (oi := { dst := Option.some 11, op := Go.Op.load 3 (Go.Operand.tmp 10), type := 3, pos := "ir.go:290", after := #[{ on := 2, ground := Go.Ground.data }], guard := Option.none }) (v := ?_) rfl (by kernel_rfl) (by kernel_rfl) (by kernel_rfl) (fun _ _ _ h => h) (Or.inl ⟨by rfl, ?_⟩) (by assumption) ?_
  rotate_left
  · intro w5x hSwx
    try dsimp only at hSwx
    go_simp
    try with_reducible rfl
  try simp only [Act.put, List.setIfInBounds_toArray, List.set_cons_zero, List.set_cons_succ]
  refine wpAnyH_ready (rs := [1, 4]) (by kernel_rfl) (by simp) ?_
  refine AllReadyH.cons (o := { dst := Option.some 9, op := Go.Op.call { callee := Go.Callee.value (Go.Operand.func 77), args := #[Go.Operand.tmp 8], argTypes := #[49] }, type := 34, pos := "ir.go:290", after := #[{ on := 0, ground := Go.Ground.data }], guard := Option.none }) rfl (fun K hK => ?gs1) (AllReadyH.cons (o := { dst := Option.some 12, op := Go.Op.buildSlice 34 1 #[(0, Go.Operand.tmp 11)], type := 34, pos := "ir.go:290", after := #[{ on := 3, ground := Go.Ground.data }], guard := Option.none }) rfl (fun K hK => ?gs2) AllReadyH.nil)
  case' gs1 =>
    go_simp
    go_wp2_with (first | (go_at_call 77; refine (reads3 ⟨3, d, a, b, tt, el, f, nn, l, c, sg, ys, ms⟩ ao mo ac mc _ rfl).mono ?_; rintro e w1 ⟨rfl, rfl⟩) | (refine step_append_at rfl (.tmp 9) (.tmp 12) 34 rfl (w.heap.size + 1) 3 i0t (.int .i64 0) 1 8 Try.underlying34 hti hz0 hz1 hz2 rfl (by decide) _ 1 [.int .i64 a] rfl (owns_at (base := w.heap.size + 1) _ [a] (heap_a w (.cells (InV ⟨3, d, a, b, tt, el, f, nn, l, c, sg, ys, ms⟩ ao ac mo mc) 49) (.cells (InV ⟨3, d, a, b, tt, el, f, nn, l, c, sg, ys, ms⟩ ao ac mo mc) 49) (.cells #[.int .i64 a] 3) (.cells #[.int .i64 d] 3)) rfl (by omega) (by simp)) ⟨w.heap.size + 1 + 1 + 1, 0, none⟩ 1 1 [.int .i64 d] rfl rfl (cell_of (heap_d w (.cells (InV ⟨3, d, a, b, tt, el, f, nn, l, c, sg, ys, ms⟩ ao ac mo mc) 49) (.cells (InV ⟨3, d, a, b, tt, el, f, nn, l, c, sg, ys, ms⟩ ao ac mo mc) 49) (.cells #[.int .i64 a] 3) (.cells #[.int .i64 d] 3))) (by intro u hu; simp at hu; subst hu; rfl) (by unfold maxLen; omega) (by omega) (by simp <;> omega) ?_; intro v2 w2 hown hgrow hblk; have HO2 := hid hown; have HX2 := hid (keep_box (n := w.heap.size) (heap_0 w (.cells (InV ⟨3, d, a, b, tt, el, f, nn, l, c, sg, ys, ms⟩ ao ac mo mc) 49) (.cells (InV ⟨3, d, a, b, tt, el, f, nn, l, c, sg, ys, ms⟩ ao ac mo mc) 49) (.cells #[.int .i64 a] 3) (.cells #[.int .i64 d] 3)) hgrow (by rintro k e; cases e; simp <;> omega)); have HB2 := hid ((((below4a w _ _ _ _).drew) : Below w.heap.size w _).grown hgrow (by simp <;> omega) (by rintro k e; cases e; simp <;> omega)); clear hown hgrow hblk) | (refine step_append_at rfl (.tmp 9) (.tmp 12) 34 rfl (w.heap.size + 1) 3 i0t (.int .i64 0) 1 8 Try.underlying34 hti hz0 hz1 hz2 rfl (by decide) _ 1 [.int .i64 a] rfl (owns_at (base := w.heap.size + 1) _ [a] (heap_d w (.cells (InV ⟨3, d, a, b, tt, el, f, nn, l, c, sg, ys, ms⟩ ao ac mo mc) 49) (.cells #[.int .i64 d] 3) (.cells (InV ⟨3, d, a, b, tt, el, f, nn, l, c, sg, ys, ms⟩ ao ac mo mc) 49) (.cells #[.int .i64 a] 3)) rfl (by omega) (by simp)) ⟨w.heap.size + 1, 0, none⟩ 1 1 [.int .i64 d] rfl rfl (cell_of (heap_b w (.cells (InV ⟨3, d, a, b, tt, el, f, nn, l, c, sg, ys, ms⟩ ao ac mo mc) 49) (.cells #[.int .i64 d] 3) (.cells (InV ⟨3, d, a, b, tt, el, f, nn, l, c, sg, ys, ms⟩ ao ac mo mc) 49) (.cells #[.int .i64 a] 3))) (by intro u hu; simp at hu; subst hu; rfl) (by unfold maxLen; omega) (by omega) (by simp <;> omega) ?_; intro v2 w2 hown hgrow hblk; have HO2 := hid hown; have HX2 := hid (keep_box (n := w.heap.size) (heap_0 w (.cells (InV ⟨3, d, a, b, tt, el, f, nn, l, c, sg, ys, ms⟩ ao ac mo mc) 49) (.cells #[.int .i64 d] 3) (.cells (InV ⟨3, d, a, b, tt, el, f, nn, l, c, sg, ys, ms⟩ ao ac mo mc) 49) (.cells #[.int .i64 a] 3)) hgrow (by rintro k e; cases e; simp <;> omega)); have HB2 := hid ((((below4a w _ _ _ _).drew) : Below w.heap.size w _).grown hgrow (by simp <;> omega) (by rintro k e; cases e; simp <;> omega)); clear hown hgrow hblk))
    refine hK.out _ _ ?_ (fun hHeld4 => ?_)
    · (try dsimp only) <;> (first | exact HKp.out _ (Below.refl _ _) | exact HKp.out _ (HE0.out _) | exact HKp.out _ (HE2.out _ _) | exact HKp.out _ (HE3.out _ _ _) | exact ⟨HB2, cells_at HX2.out⟩)
    clear hK K hHeld0
    try simp only [Act.put, List.setIfInBounds_toArray, List.set_cons_zero, List.set_cons_succ]
    refine wpAnyH_ready (rs := [4]) (by kernel_rfl) (by simp) ?_
    refine AllReadyH.cons (o := { dst := Option.some 12, op := Go.Op.buildSlice 34 1 #[(0, Go.Operand.tmp 11)], type := 34, pos := "ir.go:290", after := #[{ on := 3, ground := Go.Ground.data }], guard := Option.none }) rfl (fun K hK => ?_) AllReadyH.nil
    go_simp
    refine hK.out _ _ ?_ (fun hHeld7 => ?_)
    · (try dsimp only) <;> (first | exact HKp.out _ (Below.refl _ _) | exact HKp.out _ (HE0.out _) | exact HKp.out _ (HE2.out _ _) | exact HKp.out _ (HE3.out _ _ _) | exact ⟨HB2, cells_at HX2.out⟩)
    clear hK K hHeld4
    try simp only [Act.put, List.setIfInBounds_toArray, List.set_cons_zero, List.set_cons_succ]
    refine wpAnyH_ready (rs := [5]) (by kernel_rfl) (by simp) ?_
    refine AllReadyH.cons (o := { dst := Option.some 13, op := Go.Op.call { callee := Go.Callee.builtin Go.Builtin.append, args := #[Go.Operand.tmp 9, Go.Operand.tmp 12], argTypes := #[34, 34] }, type := 34, pos := "ir.go:290", after := #[{ on := 1, ground := Go.Ground.data }, { on := 4, ground := Go.Ground.data }, { on := 1, ground := Go.Ground.chain }], guard := Option.none }) rfl (fun K hK => ?_) AllReadyH.nil
    (first | (go_at_call 77; refine (reads3 ⟨3, d, a, b, tt, el, f, nn, l, c, sg, ys, ms⟩ ao mo ac mc _ rfl).mono ?_; rintro e w1 ⟨rfl, rfl⟩) | (refine step_append_at rfl (.tmp 9) (.tmp 12) 34 rfl (w.heap.size + 1) 3 i0t (.int .i64 0) 1 8 Try.underlying34 hti hz0 hz1 hz2 rfl (by decide) _ 1 [.int .i64 a] rfl (owns_at (base := w.heap.size + 1) _ [a] (heap_a w (.cells (InV ⟨3, d, a, b, tt, el, f, nn, l, c, sg, ys, ms⟩ ao ac mo mc) 49) (.cells (InV ⟨3, d, a, b, tt, el, f, nn, l, c, sg, ys, ms⟩ ao ac mo mc) 49) (.cells #[.int .i64 a] 3) (.cells #[.int .i64 d] 3)) rfl (by omega) (by simp)) ⟨w.heap.size + 1 + 1 + 1, 0, none⟩ 1 1 [.int .i64 d] rfl rfl (cell_of (heap_d w (.cells (InV ⟨3, d, a, b, tt, el, f, nn, l, c, sg, ys, ms⟩ ao ac mo mc) 49) (.cells (InV ⟨3, d, a, b, tt, el, f, nn, l, c, sg, ys, ms⟩ ao ac mo mc) 49) (.cells #[.int .i64 a] 3) (.cells #[.int .i64 d] 3))) (by intro u hu; simp at hu; subst hu; rfl) (by unfold maxLen; omega) (by omega) (by simp <;> omega) ?_; intro v2 w2 hown hgrow hblk; have HO2 := hid hown; have HX2 := hid (keep_box (n := w.heap.size) (heap_0 w (.cells (InV ⟨3, d, a, b, tt, el, f, nn, l, c, sg, ys, ms⟩ ao ac mo mc) 49) (.cells (InV ⟨3, d, a, b, tt, el, f, nn, l, c, sg, ys, ms⟩ ao ac mo mc) 49) (.cells #[.int .i64 a] 3) (.cells #[.int .i64 d] 3)) hgrow (by rintro k e; cases e; simp <;> omega)); have HB2 := hid ((((below4a w _ _ _ _).drew) : Below w.heap.size w _).grown hgrow (by simp <;> omega) (by rintro k e; cases e; simp <;> omega)); clear hown hgrow hblk) | (refine step_append_at rfl (.tmp 9) (.tmp 12) 34 rfl (w.heap.size + 1) 3 i0t (.int .i64 0) 1 8 Try.underlying34 hti hz0 hz1 hz2 rfl (by decide) _ 1 [.int .i64 a] rfl (owns_at (base := w.heap.size + 1) _ [a] (heap_d w (.cells (InV ⟨3, d, a, b, tt, el, f, nn, l, c, sg, ys, ms⟩ ao ac mo mc) 49) (.cells #[.int .i64 d] 3) (.cells (InV ⟨3, d, a, b, tt, el, f, nn, l, c, sg, ys, ms⟩ ao ac mo mc) 49) (.cells #[.int .i64 a] 3)) rfl (by omega) (by simp)) ⟨w.heap.size + 1, 0, none⟩ 1 1 [.int .i64 d] rfl rfl (cell_of (heap_b w (.cells (InV ⟨3, d, a, b, tt, el, f, nn, l, c, sg, ys, ms⟩ ao ac mo mc) 49) (.cells #[.int .i64 d] 3) (.cells (InV ⟨3, d, a, b, tt, el, f, nn, l, c, sg, ys, ms⟩ ao ac mo mc) 49) (.cells #[.int .i64 a] 3))) (by intro u hu; simp at hu; subst hu; rfl) (by unfold maxLen; omega) (by omega) (by simp <;> omega) ?_; intro v2 w2 hown hgrow hblk; have HO2 := hid hown; have HX2 := hid (keep_box (n := w.heap.size) (heap_0 w (.cells (InV ⟨3, d, a, b, tt, el, f, nn, l, c, sg, ys, ms⟩ ao ac mo mc) 49) (.cells #[.int .i64 d] 3) (.cells (InV ⟨3, d, a, b, tt, el, f, nn, l, c, sg, ys, ms⟩ ao ac mo mc) 49) (.cells #[.int .i64 a] 3)) hgrow (by rintro k e; cases e; simp <;> omega)); have HB2 := hid ((((below4a w _ _ _ _).drew) : Below w.heap.size w _).grown hgrow (by simp <;> omega) (by rintro k e; cases e; simp <;> omega)); clear hown hgrow hblk))
    refine hK.out _ _ ?_ (fun hHeld10 => ?_)
    · (try dsimp only) <;> (first | exact HKp.out _ (Below.refl _ _) | exact HKp.out _ (HE0.out _) | exact HKp.out _ (HE2.out _ _) | exact HKp.out _ (HE3.out _ _ _) | exact ⟨HB2, cells_at HX2.out⟩)
    clear hK K hHeld7
    try simp only [Act.put, List.setIfInBounds_toArray, List.set_cons_zero, List.set_cons_succ]
    refine wpAnyH_take (i := 6) (oi := { dst := Option.some 5, op := Go.Op.assign (Go.Operand.tmp 13), type := 34, pos := "ir.go:290", after := #[{ on := 5, ground := Go.Ground.data }, { on := 5, ground := Go.Ground.chain }, { on := 0, ground := Go.Ground.phase }, { on := 1, ground := Go.Ground.phase }, { on := 2, ground := Go.Ground.phase }, { on := 3, ground := Go.Ground.phase }, { on := 4, ground := Go.Ground.phase }, { on := 5, ground := Go.Ground.phase }], guard := Option.none }) (v := ?_) rfl (by kernel_rfl) (by kernel_rfl) (by kernel_rfl) (fun _ _ _ h => h) (Or.inl ⟨by rfl, ?_⟩) (by assumption) ?_
    rotate_left
    · intro w5x hSwx
      try dsimp only at hSwx
      go_simp
      try with_reducible rfl
    try simp only [Act.put, List.setIfInBounds_toArray, List.set_cons_zero, List.set_cons_succ]
    refine wpAnyH_done (by kernel_rfl) ?_ _
  case' gs2 =>
    go_simp
    refine hK.out _ _ ?_ (fun hHeld11 => ?_)
    · (try dsimp only) <;> (first | exact HKp.out _ (Below.refl _ _) | exact HKp.out _ (HE0.out _) | exact HKp.out _ (HE2.out _ _) | exact HKp.out _ (HE3.out _ _ _) | exact ⟨HB2, cells_at HX2.out⟩)
    clear hK K hHeld0
    try simp only [Act.put, List.setIfInBounds_toArray, List.set_cons_zero, List.set_cons_succ]
    refine wpAnyH_ready (rs := [1]) (by kernel_rfl) (by simp) ?_
    refine AllReadyH.cons (o := { dst := Option.some 9, op := Go.Op.call { callee := Go.Callee.value (Go.Operand.func 77), args := #[Go.Operand.tmp 8], argTypes := #[49] }, type := 34, pos := "ir.go:290", after := #[{ on := 0, ground := Go.Ground.data }], guard := Option.none }) rfl (fun K hK => ?_) AllReadyH.nil
    go_simp
    go_wp2_with (first | (go_at_call 77; refine (reads3 ⟨3, d, a, b, tt, el, f, nn, l, c, sg, ys, ms⟩ ao mo ac mc _ rfl).mono ?_; rintro e w1 ⟨rfl, rfl⟩) | (refine step_append_at rfl (.tmp 9) (.tmp 12) 34 rfl (w.heap.size + 1) 3 i0t (.int .i64 0) 1 8 Try.underlying34 hti hz0 hz1 hz2 rfl (by decide) _ 1 [.int .i64 a] rfl (owns_at (base := w.heap.size + 1) _ [a] (heap_a w (.cells (InV ⟨3, d, a, b, tt, el, f, nn, l, c, sg, ys, ms⟩ ao ac mo mc) 49) (.cells (InV ⟨3, d, a, b, tt, el, f, nn, l, c, sg, ys, ms⟩ ao ac mo mc) 49) (.cells #[.int .i64 a] 3) (.cells #[.int .i64 d] 3)) rfl (by omega) (by simp)) ⟨w.heap.size + 1 + 1 + 1, 0, none⟩ 1 1 [.int .i64 d] rfl rfl (cell_of (heap_d w (.cells (InV ⟨3, d, a, b, tt, el, f, nn, l, c, sg, ys, ms⟩ ao ac mo mc) 49) (.cells (InV ⟨3, d, a, b, tt, el, f, nn, l, c, sg, ys, ms⟩ ao ac mo mc) 49) (.cells #[.int .i64 a] 3) (.cells #[.int .i64 d] 3))) (by intro u hu; simp at hu; subst hu; rfl) (by unfold maxLen; omega) (by omega) (by simp <;> omega) ?_; intro v2 w2 hown hgrow hblk; have HO2 := hid hown; have HX2 := hid (keep_box (n := w.heap.size) (heap_0 w (.cells (InV ⟨3, d, a, b, tt, el, f, nn, l, c, sg, ys, ms⟩ ao ac mo mc) 49) (.cells (InV ⟨3, d, a, b, tt, el, f, nn, l, c, sg, ys, ms⟩ ao ac mo mc) 49) (.cells #[.int .i64 a] 3) (.cells #[.int .i64 d] 3)) hgrow (by rintro k e; cases e; simp <;> omega)); have HB2 := hid ((((below4a w _ _ _ _).drew) : Below w.heap.size w _).grown hgrow (by simp <;> omega) (by rintro k e; cases e; simp <;> omega)); clear hown hgrow hblk) | (refine step_append_at rfl (.tmp 9) (.tmp 12) 34 rfl (w.heap.size + 1) 3 i0t (.int .i64 0) 1 8 Try.underlying34 hti hz0 hz1 hz2 rfl (by decide) _ 1 [.int .i64 a] rfl (owns_at (base := w.heap.size + 1) _ [a] (heap_d w (.cells (InV ⟨3, d, a, b, tt, el, f, nn, l, c, sg, ys, ms⟩ ao ac mo mc) 49) (.cells #[.int .i64 d] 3) (.cells (InV ⟨3, d, a, b, tt, el, f, nn, l, c, sg, ys, ms⟩ ao ac mo mc) 49) (.cells #[.int .i64 a] 3)) rfl (by omega) (by simp)) ⟨w.heap.size + 1, 0, none⟩ 1 1 [.int .i64 d] rfl rfl (cell_of (heap_b w (.cells (InV ⟨3, d, a, b, tt, el, f, nn, l, c, sg, ys, ms⟩ ao ac mo mc) 49) (.cells #[.int .i64 d] 3) (.cells (InV ⟨3, d, a, b, tt, el, f, nn, l, c, sg, ys, ms⟩ ao ac mo mc) 49) (.cells #[.int .i64 a] 3))) (by intro u hu; simp at hu; subst hu; rfl) (by unfold maxLen; omega) (by omega) (by simp <;> omega) ?_; intro v2 w2 hown hgrow hblk; have HO2 := hid hown; have HX2 := hid (keep_box (n := w.heap.size) (heap_0 w (.cells (InV ⟨3, d, a, b, tt, el, f, nn, l, c, sg, ys, ms⟩ ao ac mo mc) 49) (.cells #[.int .i64 d] 3) (.cells (InV ⟨3, d, a, b, tt, el, f, nn, l, c, sg, ys, ms⟩ ao ac mo mc) 49) (.cells #[.int .i64 a] 3)) hgrow (by rintro k e; cases e; simp <;> omega)); have HB2 := hid ((((below4a w _ _ _ _).drew) : Below w.heap.size w _).grown hgrow (by simp <;> omega) (by rintro k e; cases e; simp <;> omega)); clear hown hgrow hblk))
    refine hK.out _ _ ?_ (fun hHeld14 => ?_)
    · (try dsimp only) <;> (first | exact HKp.out _ (Below.refl _ _) | exact HKp.out _ (HE0.out _) | exact HKp.out _ (HE2.out _ _) | exact HKp.out _ (HE3.out _ _ _) | exact ⟨HB2, cells_at HX2.out⟩)
    clear hK K hHeld11
    try simp only [Act.put, List.setIfInBounds_toArray, List.set_cons_zero, List.set_cons_succ]
    refine wpAnyH_ready (rs := [5]) (by kernel_rfl) (by simp) ?_
    refine AllReadyH.cons (o := { dst := Option.some 13, op := Go.Op.call { callee := Go.Callee.builtin Go.Builtin.append, args := #[Go.Operand.tmp 9, Go.Operand.tmp 12], argTypes := #[34, 34] }, type := 34, pos := "ir.go:290", after := #[{ on := 1, ground := Go.Ground.data }, { on := 4, ground := Go.Ground.data }, { on := 1, ground := Go.Ground.chain }], guard := Option.none }) rfl (fun K hK => ?_) AllReadyH.nil
    (first | (go_at_call 77; refine (reads3 ⟨3, d, a, b, tt, el, f, nn, l, c, sg, ys, ms⟩ ao mo ac mc _ rfl).mono ?_; rintro e w1 ⟨rfl, rfl⟩) | (refine step_append_at rfl (.tmp 9) (.tmp 12) 34 rfl (w.heap.size + 1) 3 i0t (.int .i64 0) 1 8 Try.underlying34 hti hz0 hz1 hz2 rfl (by decide) _ 1 [.int .i64 a] rfl (owns_at (base := w.heap.size + 1) _ [a] (heap_a w (.cells (InV ⟨3, d, a, b, tt, el, f, nn, l, c, sg, ys, ms⟩ ao ac mo mc) 49) (.cells (InV ⟨3, d, a, b, tt, el, f, nn, l, c, sg, ys, ms⟩ ao ac mo mc) 49) (.cells #[.int .i64 a] 3) (.cells #[.int .i64 d] 3)) rfl (by omega) (by simp)) ⟨w.heap.size + 1 + 1 + 1, 0, none⟩ 1 1 [.int .i64 d] rfl rfl (cell_of (heap_d w (.cells (InV ⟨3, d, a, b, tt, el, f, nn, l, c, sg, ys, ms⟩ ao ac mo mc) 49) (.cells (InV ⟨3, d, a, b, tt, el, f, nn, l, c, sg, ys, ms⟩ ao ac mo mc) 49) (.cells #[.int .i64 a] 3) (.cells #[.int .i64 d] 3))) (by intro u hu; simp at hu; subst hu; rfl) (by unfold maxLen; omega) (by omega) (by simp <;> omega) ?_; intro v2 w2 hown hgrow hblk; have HO2 := hid hown; have HX2 := hid (keep_box (n := w.heap.size) (heap_0 w (.cells (InV ⟨3, d, a, b, tt, el, f, nn, l, c, sg, ys, ms⟩ ao ac mo mc) 49) (.cells (InV ⟨3, d, a, b, tt, el, f, nn, l, c, sg, ys, ms⟩ ao ac mo mc) 49) (.cells #[.int .i64 a] 3) (.cells #[.int .i64 d] 3)) hgrow (by rintro k e; cases e; simp <;> omega)); have HB2 := hid ((((below4a w _ _ _ _).drew) : Below w.heap.size w _).grown hgrow (by simp <;> omega) (by rintro k e; cases e; simp <;> omega)); clear hown hgrow hblk) | (refine step_append_at rfl (.tmp 9) (.tmp 12) 34 rfl (w.heap.size + 1) 3 i0t (.int .i64 0) 1 8 Try.underlying34 hti hz0 hz1 hz2 rfl (by decide) _ 1 [.int .i64 a] rfl (owns_at (base := w.heap.size + 1) _ [a] (heap_d w (.cells (InV ⟨3, d, a, b, tt, el, f, nn, l, c, sg, ys, ms⟩ ao ac mo mc) 49) (.cells #[.int .i64 d] 3) (.cells (InV ⟨3, d, a, b, tt, el, f, nn, l, c, sg, ys, ms⟩ ao ac mo mc) 49) (.cells #[.int .i64 a] 3)) rfl (by omega) (by simp)) ⟨w.heap.size + 1, 0, none⟩ 1 1 [.int .i64 d] rfl rfl (cell_of (heap_b w (.cells (InV ⟨3, d, a, b, tt, el, f, nn, l, c, sg, ys, ms⟩ ao ac mo mc) 49) (.cells #[.int .i64 d] 3) (.cells (InV ⟨3, d, a, b, tt, el, f, nn, l, c, sg, ys, ms⟩ ao ac mo mc) 49) (.cells #[.int .i64 a] 3))) (by intro u hu; simp at hu; subst hu; rfl) (by unfold maxLen; omega) (by omega) (by simp <;> omega) ?_; intro v2 w2 hown hgrow hblk; have HO2 := hid hown; have HX2 := hid (keep_box (n := w.heap.size) (heap_0 w (.cells (InV ⟨3, d, a, b, tt, el, f, nn, l, c, sg, ys, ms⟩ ao ac mo mc) 49) (.cells #[.int .i64 d] 3) (.cells (InV ⟨3, d, a, b, tt, el, f, nn, l, c, sg, ys, ms⟩ ao ac mo mc) 49) (.cells #[.int .i64 a] 3)) hgrow (by rintro k e; cases e; simp <;> omega)); have HB2 := hid ((((below4a w _ _ _ _).drew) : Below w.heap.size w _).grown hgrow (by simp <;> omega) (by rintro k e; cases e; simp <;> omega)); clear hown hgrow hblk))
    refine hK.out _ _ ?_ (fun hHeld17 => ?_)
    · (try dsimp only) <;> (first | exact HKp.out _ (Below.refl _ _) | exact HKp.out _ (HE0.out _) | exact HKp.out _ (HE2.out _ _) | exact HKp.out _ (HE3.out _ _ _) | exact ⟨HB2, cells_at HX2.out⟩)
    clear hK K hHeld14
    try simp only [Act.put, List.setIfInBounds_toArray, List.set_cons_zero, List.set_cons_succ]
    refine wpAnyH_take (i := 6) (oi := { dst := Option.some 5, op := Go.Op.assign (Go.Operand.tmp 13), type := 34, pos := "ir.go:290", after := #[{ on := 5, ground := Go.Ground.data }, { on := 5, ground := Go.Ground.chain }, { on := 0, ground := Go.Ground.phase }, { on := 1, ground := Go.Ground.phase }, { on := 2, ground := Go.Ground.phase }, { on := 3, ground := Go.Ground.phase }, { on := 4, ground := Go.Ground.phase }, { on := 5, ground := Go.Ground.phase }], guard := Option.none }) (v := ?_) rfl (by kernel_rfl) (by kernel_rfl) (by kernel_rfl) (fun _ _ _ h => h) (Or.inl ⟨by rfl, ?_⟩) (by assumption) ?_
    rotate_left
    · intro w5x hSwx
      try dsimp only at hSwx
      go_simp
      try with_reducible rfl
    try simp only [Act.put, List.setIfInBounds_toArray, List.set_cons_zero, List.set_cons_succ]
    refine wpAnyH_done (by kernel_rfl) ?_ _
  all_goals
    obtain ⟨A2, c2, hv2, hA2⟩ := ints_owns (xs := [a, d]) HO2.out (by simp)
    obtain ⟨xs, hxs⟩ : ∃ xs : List Int, [a, d] = xs := ⟨_, rfl⟩
    rw [hxs] at hv2 hA2
    obtain ⟨m, hm⟩ : ∃ m : Nat, xs.length = m := ⟨_, rfl⟩
    rw [hm] at hv2
    subst hv2
    have HXE := hid hxs
    have HM := hid hm
    have HA2 := hid (fun W (hb : Below w2.heap.size w2 W) => hA2.later int_stays hb)
    have HBB := hid (Below.refl w2.heap.size w2)
    have hm9 : (m : Int) ≤ 9223372036854775807 := by have := hA2.1; omega
    have hx2 := cells_at HX2.out
    clear hxs hm hA2 HO2 HKp HE0 HE2 HE3 HD0 HX0
    have hthere : ∀ r, xs.all (inN p.x.vs.length) = r → Calls Try.prog 74 #[.pointer (some ⟨J, 0, none⟩), .slice A2 m c2] w2 fun e w' => e = .returned (.bool r) ∧ w' = w2 := fun r hr => by
      have h := there_g xs A2 c2 J _ _ _ r w2 (HA2.out _ HBB.out) (HJ.out _ HB2.out).vars hr
      rw [HM.out] at h
      exact h
    have HTH := hid hthere
    clear hthere
    cases er : xs.all (inN p.x.vs.length)
    case false =>
      have HR : Hid (G = 15) := hid (by rw [← HG.out, numsG, HXE.out, er]; rfl)
      go_wp2_with (first
        | (go_at_call 74; refine (HTH.out _ er).mono ?_; rintro e w9 ⟨rfl, hw9⟩; obtain rfl := hw9.symm; clear hw9))
      go_ret
      exact ⟨by rw [HR.out]; rfl, HB2⟩
    case true =>
      go_wp2_with (first
        | (go_at_call 74; refine (HTH.out _ er).mono ?_; rintro e w9 ⟨rfl, hw9⟩; obtain rfl := hw9.symm; clear hw9))
      have HER := hid er
      clear er HTH
      go_loopg [20] m (fun gk v20 wr => ∃ k : Nat, k ≤ m ∧ gk = m - k ∧ v20 = .int .i64 k ∧ Hid (Below w.heap.size w wr) ∧ Hid (Below w2.heap.size w2 wr) ∧ Hid (wr.heap[w.heap.size]? = some (.cells (InV ⟨3, d, a, b, tt, el, f, nn, l, c, sg, ys, ms⟩ ao ac mo mc) 49 (0, 0))) ∧ Hid (∀ (i : Nat) y, i < k → xs[i]? = some y → (tyOf p.x y).p = false))
      case atStart => exact ⟨0, by omega, by omega, rfl, HB2, HBB, HX2, hid (fun i y hi => absurd hi (by omega))⟩
      case round =>
        clear HB2 HBB HX2 hx2
        obtain ⟨k, hk, rfl, rfl, HBk, HBm, HXk, HA⟩ := hrel
        have hxk := cells_at HXk.out
        by_cases hlt : k < m
        · have hlt' : (k : Int) < (m : Int) := by omega
          have k0 : (0 : Int) ≤ (k : Int) := by omega
          obtain ⟨y, hy⟩ := get_some HM.out hlt
          have hyn : inN p.x.vs.length y = true := List.all_eq_true.1 HER.out y (List.mem_of_getElem? hy)
          obtain ⟨ky, py, ny, rfl, hky, hty⟩ := inN_get hyn
          obtain ⟨bx, ox, rfl, -, hxc⟩ := (HA2.out _ HBm.out).2 k _ hy
          have e0 : wr.cell? ⟨bx, ox + k * 1, none⟩ = some (.int .i64 ky) := hxc
          simp only [Nat.mul_one] at e0
          have HY := hid hy
          have HTY := hid hty
          have HKY := hid hky
          clear hy hyn hky hty hxc
          cases py
          case true =>
            have HR : Hid (G = 7) := hid (by
              rw [← HG.out, numsG, HXE.out, HER.out, if_pos rfl, if_pos]
              exact List.any_eq_true.2 ⟨_, List.mem_of_getElem? HY.out, by rw [HTY.out]⟩)
            go_wp2_with (first
              | (go_at_call 76; refine (kind_j p ky _ _ J _ (HJ.out _ HBk.out) HKY.out).mono ?_; rintro e w' ⟨rfl, hb⟩; have HBn := hid (after HBk.out hb.out HBk.out.size); clear hb))
            go_ret
            exact ⟨by rw [HR.out]; rfl, HBn⟩
          case false =>
            go_wp2_with (first
              | (go_at_call 76; refine (kind_j p ky _ _ J _ (HJ.out _ HBk.out) HKY.out).mono ?_; rintro e w' ⟨rfl, hb⟩; have HBn := hid (after HBk.out hb.out HBk.out.size); have HBo := hid (after HBm.out hb.out HBm.out.size); have HXn := hid (lay hb.out HXk.out); clear hb))
            go_roundg (m - (k + 1))
            case measure => omega
            case rel => exact ⟨k + 1, by omega, rfl, rfl, HBn, HBo, HXn, hid (fun i y' hi h1 => by
              by_cases hik : i < k
              · exact HA.out i y' hik h1
              · obtain rfl : i = k := by omega
                rw [HY.out] at h1
                cases h1
                rw [HTY.out])⟩
        · have hlt' : ¬ (k : Int) < (m : Int) := by omega
          have HAN := hid (show xs.any (fun y => (tyOf p.x y).p) = false by
            rw [List.any_eq_false]
            intro y hy
            obtain ⟨i, hi, rfl⟩ := List.mem_iff_getElem.1 hy
            have := HA.out i _ (by have := HM.out; omega) (List.getElem?_eq_getElem hi)
            simp [this])
          have HR : Hid (G = 0) := hid (by rw [← HG.out, numsG, HXE.out, HER.out, if_pos rfl, HAN.out]; simp)
          go_wp2
          go_ret
          exact ⟨by simp [HR.out], HBk⟩
set_option maxRecDepth 100000 in
set_option maxHeartbeats 8000000 in
theorem numbers_4 (p : JP) (J : Nat) (d a b tt el f nn l c : Int) (sg : ByteArray) (ys ms : List Int) (ao mo : Option Addr) (ac mc : Nat) (w : World) (hj : JG w J p) :
    Calls Try.prog 60 #[.pointer (some ⟨J, 0, none⟩), .agg (InV ⟨4, d, a, b, tt, el, f, nn, l, c, sg, ys, ms⟩ ao ac mo mc)] w fun e w' => e = .returned (.int .i64 (numsF p.x ⟨4, d, a, b, tt, el, f, nn, l, c, sg, ys, ms⟩)) ∧ Hid (Below w.heap.size w w') := by
  rw [nums_4]
  obtain ⟨G, hG⟩ : ∃ G, numsG p.x 4 sg [a, b, d] = G := ⟨_, rfl⟩
  rw [hG]
  have HG := hid hG
  have HJ := hid (fun W (hb : Below w.heap.size w W) => hj.later hb)
  have HD0 := hid (below1 w (.cells (InV ⟨4, d, a, b, tt, el, f, nn, l, c, sg, ys, ms⟩ ao ac mo mc) 49)).drew
  have HX0 : Hid ((w.alloc (.cells (InV ⟨4, d, a, b, tt, el, f, nn, l, c, sg, ys, ms⟩ ao ac mo mc) 49)).drew.heap[w.heap.size]? = some (.cells (InV ⟨4, d, a, b, tt, el, f, nn, l, c, sg, ys, ms⟩ ao ac mo mc) 49)) := hid (heap_alloc_new w _)
  have HKp := hid (fun W (hb : Below (w.alloc (.cells (InV ⟨4, d, a, b, tt, el, f, nn, l, c, sg, ys, ms⟩ ao ac mo mc) 49)).drew.heap.size (w.alloc (.cells (InV ⟨4, d, a, b, tt, el, f, nn, l, c, sg, ys, ms⟩ ao ac mo mc) 49)).drew W) => And.intro (hid (after HD0.out hb HD0.out.size)) (cells_at (lay hb HX0.out)))
  have HE0 := hid (below1 (w.alloc (.cells (InV ⟨4, d, a, b, tt, el, f, nn, l, c, sg, ys, ms⟩ ao ac mo mc) 49)).drew)
  have HE2 := hid (below2 (w.alloc (.cells (InV ⟨4, d, a, b, tt, el, f, nn, l, c, sg, ys, ms⟩ ao ac mo mc) 49)).drew)
  have HE3 := hid (below3a (w.alloc (.cells (InV ⟨4, d, a, b, tt, el, f, nn, l, c, sg, ys, ms⟩ ao ac mo mc) 49)).drew)
  obtain ⟨i0t, hti, hz0, hz1, hz2⟩ := info_parts info3
  have hfd : ∀ b n (w : World), (Instr.field 31 (.agg #[.bool b, .string n]) 0).run Try.prog w = .ok (.bool b) w := fun _ _ _ => by kernel_rfl
  clear hj hG
  go_enter Try.func60, Try.ntmps60
  go_wp2
  refine wp_region_held_drew (S := fun W => Hid (Below w.heap.size w W) ∧ (∀ i, W.cell? ⟨w.heap.size, i, none⟩ = (InV ⟨4, d, a, b, tt, el, f, nn, l, c, sg, ys, ms⟩ ao ac mo mc)[i]?)) (by kernel_rfl) ?_ (fun hHeld0 => ?_)
  · (try dsimp only) <;> (first | exact HKp.out _ (Below.refl _ _) | exact HKp.out _ (HE0.out _) | exact HKp.out _ (HE2.out _ _) | exact HKp.out _ (HE3.out _ _ _) | exact ⟨HB2, cells_at HX2.out⟩)
  refine wpAnyH_take (i := 0) (oi := { dst := Option.some 8, op := Go.Op.load 49 (Go.Operand.tmp 3), type := 49, pos := "ir.go:290", after := #[], guard := Option.none }) (v := ?_) rfl (by kernel_rfl) (by kernel_rfl) (by kernel_rfl) (fun _ _ _ h => h) (Or.inl ⟨by rfl, ?_⟩) (by assumption) ?_
  rotate_left
  · intro w5x hSwx
    try dsimp only at hSwx
    go_simp
    try with_reducible rfl
  try simp only [Act.put, List.setIfInBounds_toArray, List.set_cons_zero, List.set_cons_succ]
  refine wpAnyH_take (i := 2) (oi := { dst := Option.some 10, op := Go.Op.fieldAddr 49 (Go.Operand.tmp 3) 1, type := 0, pos := "ir.go:290", after := #[], guard := Option.none }) (v := ?_) rfl (by kernel_rfl) (by kernel_rfl) (by kernel_rfl) (fun _ _ _ h => h) (Or.inl ⟨by rfl, ?_⟩) (by assumption) ?_
  rotate_left
  · intro w5x hSwx
    try dsimp only at hSwx
    go_simp
    try with_reducible rfl
  try simp only [Act.put, List.setIfInBounds_toArray, List.set_cons_zero, List.set_cons_succ]
  refine wpAnyH_take (i := 3) (oi := { dst := Option.some 11, op := Go.Op.load 3 (Go.Operand.tmp 10), type := 3, pos := "ir.go:290", after := #[{ on := 2, ground := Go.Ground.data }], guard := Option.none }) (v := ?_) rfl (by kernel_rfl) (by kernel_rfl) (by kernel_rfl) (fun _ _ _ h => h) (Or.inl ⟨by rfl, ?_⟩) (by assumption) ?_
  rotate_left
  · intro w5x hSwx
    try dsimp only at hSwx
    go_simp
    try with_reducible rfl
  try simp only [Act.put, List.setIfInBounds_toArray, List.set_cons_zero, List.set_cons_succ]
  refine wpAnyH_ready (rs := [1, 4]) (by kernel_rfl) (by simp) ?_
  refine AllReadyH.cons (o := { dst := Option.some 9, op := Go.Op.call { callee := Go.Callee.value (Go.Operand.func 77), args := #[Go.Operand.tmp 8], argTypes := #[49] }, type := 34, pos := "ir.go:290", after := #[{ on := 0, ground := Go.Ground.data }], guard := Option.none }) rfl (fun K hK => ?gs1) (AllReadyH.cons (o := { dst := Option.some 12, op := Go.Op.buildSlice 34 1 #[(0, Go.Operand.tmp 11)], type := 34, pos := "ir.go:290", after := #[{ on := 3, ground := Go.Ground.data }], guard := Option.none }) rfl (fun K hK => ?gs2) AllReadyH.nil)
  case' gs1 =>
    go_simp
    go_wp2_with (first | (go_at_call 77; refine (reads4 ⟨4, d, a, b, tt, el, f, nn, l, c, sg, ys, ms⟩ ao mo ac mc _ rfl).mono ?_; rintro e w1 ⟨rfl, rfl⟩) | (refine step_append_at rfl (.tmp 9) (.tmp 12) 34 rfl (w.heap.size + 1) 3 i0t (.int .i64 0) 1 8 Try.underlying34 hti hz0 hz1 hz2 rfl (by decide) _ 2 [.int .i64 a, .int .i64 b] rfl (owns_at (base := w.heap.size + 1) _ [a, b] (heap_a w (.cells (InV ⟨4, d, a, b, tt, el, f, nn, l, c, sg, ys, ms⟩ ao ac mo mc) 49) (.cells (InV ⟨4, d, a, b, tt, el, f, nn, l, c, sg, ys, ms⟩ ao ac mo mc) 49) (.cells #[.int .i64 a, .int .i64 b] 3) (.cells #[.int .i64 d] 3)) rfl (by omega) (by simp)) ⟨w.heap.size + 1 + 1 + 1, 0, none⟩ 1 1 [.int .i64 d] rfl rfl (cell_of (heap_d w (.cells (InV ⟨4, d, a, b, tt, el, f, nn, l, c, sg, ys, ms⟩ ao ac mo mc) 49) (.cells (InV ⟨4, d, a, b, tt, el, f, nn, l, c, sg, ys, ms⟩ ao ac mo mc) 49) (.cells #[.int .i64 a, .int .i64 b] 3) (.cells #[.int .i64 d] 3))) (by intro u hu; simp at hu; subst hu; rfl) (by unfold maxLen; omega) (by omega) (by simp <;> omega) ?_; intro v2 w2 hown hgrow hblk; have HO2 := hid hown; have HX2 := hid (keep_box (n := w.heap.size) (heap_0 w (.cells (InV ⟨4, d, a, b, tt, el, f, nn, l, c, sg, ys, ms⟩ ao ac mo mc) 49) (.cells (InV ⟨4, d, a, b, tt, el, f, nn, l, c, sg, ys, ms⟩ ao ac mo mc) 49) (.cells #[.int .i64 a, .int .i64 b] 3) (.cells #[.int .i64 d] 3)) hgrow (by rintro k e; cases e; simp <;> omega)); have HB2 := hid ((((below4a w _ _ _ _).drew) : Below w.heap.size w _).grown hgrow (by simp <;> omega) (by rintro k e; cases e; simp <;> omega)); clear hown hgrow hblk) | (refine step_append_at rfl (.tmp 9) (.tmp 12) 34 rfl (w.heap.size + 1) 3 i0t (.int .i64 0) 1 8 Try.underlying34 hti hz0 hz1 hz2 rfl (by decide) _ 2 [.int .i64 a, .int .i64 b] rfl (owns_at (base := w.heap.size + 1) _ [a, b] (heap_d w (.cells (InV ⟨4, d, a, b, tt, el, f, nn, l, c, sg, ys, ms⟩ ao ac mo mc) 49) (.cells #[.int .i64 d] 3) (.cells (InV ⟨4, d, a, b, tt, el, f, nn, l, c, sg, ys, ms⟩ ao ac mo mc) 49) (.cells #[.int .i64 a, .int .i64 b] 3)) rfl (by omega) (by simp)) ⟨w.heap.size + 1, 0, none⟩ 1 1 [.int .i64 d] rfl rfl (cell_of (heap_b w (.cells (InV ⟨4, d, a, b, tt, el, f, nn, l, c, sg, ys, ms⟩ ao ac mo mc) 49) (.cells #[.int .i64 d] 3) (.cells (InV ⟨4, d, a, b, tt, el, f, nn, l, c, sg, ys, ms⟩ ao ac mo mc) 49) (.cells #[.int .i64 a, .int .i64 b] 3))) (by intro u hu; simp at hu; subst hu; rfl) (by unfold maxLen; omega) (by omega) (by simp <;> omega) ?_; intro v2 w2 hown hgrow hblk; have HO2 := hid hown; have HX2 := hid (keep_box (n := w.heap.size) (heap_0 w (.cells (InV ⟨4, d, a, b, tt, el, f, nn, l, c, sg, ys, ms⟩ ao ac mo mc) 49) (.cells #[.int .i64 d] 3) (.cells (InV ⟨4, d, a, b, tt, el, f, nn, l, c, sg, ys, ms⟩ ao ac mo mc) 49) (.cells #[.int .i64 a, .int .i64 b] 3)) hgrow (by rintro k e; cases e; simp <;> omega)); have HB2 := hid ((((below4a w _ _ _ _).drew) : Below w.heap.size w _).grown hgrow (by simp <;> omega) (by rintro k e; cases e; simp <;> omega)); clear hown hgrow hblk))
    refine hK.out _ _ ?_ (fun hHeld4 => ?_)
    · (try dsimp only) <;> (first | exact HKp.out _ (Below.refl _ _) | exact HKp.out _ (HE0.out _) | exact HKp.out _ (HE2.out _ _) | exact HKp.out _ (HE3.out _ _ _) | exact ⟨HB2, cells_at HX2.out⟩)
    clear hK K hHeld0
    try simp only [Act.put, List.setIfInBounds_toArray, List.set_cons_zero, List.set_cons_succ]
    refine wpAnyH_ready (rs := [4]) (by kernel_rfl) (by simp) ?_
    refine AllReadyH.cons (o := { dst := Option.some 12, op := Go.Op.buildSlice 34 1 #[(0, Go.Operand.tmp 11)], type := 34, pos := "ir.go:290", after := #[{ on := 3, ground := Go.Ground.data }], guard := Option.none }) rfl (fun K hK => ?_) AllReadyH.nil
    go_simp
    refine hK.out _ _ ?_ (fun hHeld7 => ?_)
    · (try dsimp only) <;> (first | exact HKp.out _ (Below.refl _ _) | exact HKp.out _ (HE0.out _) | exact HKp.out _ (HE2.out _ _) | exact HKp.out _ (HE3.out _ _ _) | exact ⟨HB2, cells_at HX2.out⟩)
    clear hK K hHeld4
    try simp only [Act.put, List.setIfInBounds_toArray, List.set_cons_zero, List.set_cons_succ]
    refine wpAnyH_ready (rs := [5]) (by kernel_rfl) (by simp) ?_
    refine AllReadyH.cons (o := { dst := Option.some 13, op := Go.Op.call { callee := Go.Callee.builtin Go.Builtin.append, args := #[Go.Operand.tmp 9, Go.Operand.tmp 12], argTypes := #[34, 34] }, type := 34, pos := "ir.go:290", after := #[{ on := 1, ground := Go.Ground.data }, { on := 4, ground := Go.Ground.data }, { on := 1, ground := Go.Ground.chain }], guard := Option.none }) rfl (fun K hK => ?_) AllReadyH.nil
    (first | (go_at_call 77; refine (reads4 ⟨4, d, a, b, tt, el, f, nn, l, c, sg, ys, ms⟩ ao mo ac mc _ rfl).mono ?_; rintro e w1 ⟨rfl, rfl⟩) | (refine step_append_at rfl (.tmp 9) (.tmp 12) 34 rfl (w.heap.size + 1) 3 i0t (.int .i64 0) 1 8 Try.underlying34 hti hz0 hz1 hz2 rfl (by decide) _ 2 [.int .i64 a, .int .i64 b] rfl (owns_at (base := w.heap.size + 1) _ [a, b] (heap_a w (.cells (InV ⟨4, d, a, b, tt, el, f, nn, l, c, sg, ys, ms⟩ ao ac mo mc) 49) (.cells (InV ⟨4, d, a, b, tt, el, f, nn, l, c, sg, ys, ms⟩ ao ac mo mc) 49) (.cells #[.int .i64 a, .int .i64 b] 3) (.cells #[.int .i64 d] 3)) rfl (by omega) (by simp)) ⟨w.heap.size + 1 + 1 + 1, 0, none⟩ 1 1 [.int .i64 d] rfl rfl (cell_of (heap_d w (.cells (InV ⟨4, d, a, b, tt, el, f, nn, l, c, sg, ys, ms⟩ ao ac mo mc) 49) (.cells (InV ⟨4, d, a, b, tt, el, f, nn, l, c, sg, ys, ms⟩ ao ac mo mc) 49) (.cells #[.int .i64 a, .int .i64 b] 3) (.cells #[.int .i64 d] 3))) (by intro u hu; simp at hu; subst hu; rfl) (by unfold maxLen; omega) (by omega) (by simp <;> omega) ?_; intro v2 w2 hown hgrow hblk; have HO2 := hid hown; have HX2 := hid (keep_box (n := w.heap.size) (heap_0 w (.cells (InV ⟨4, d, a, b, tt, el, f, nn, l, c, sg, ys, ms⟩ ao ac mo mc) 49) (.cells (InV ⟨4, d, a, b, tt, el, f, nn, l, c, sg, ys, ms⟩ ao ac mo mc) 49) (.cells #[.int .i64 a, .int .i64 b] 3) (.cells #[.int .i64 d] 3)) hgrow (by rintro k e; cases e; simp <;> omega)); have HB2 := hid ((((below4a w _ _ _ _).drew) : Below w.heap.size w _).grown hgrow (by simp <;> omega) (by rintro k e; cases e; simp <;> omega)); clear hown hgrow hblk) | (refine step_append_at rfl (.tmp 9) (.tmp 12) 34 rfl (w.heap.size + 1) 3 i0t (.int .i64 0) 1 8 Try.underlying34 hti hz0 hz1 hz2 rfl (by decide) _ 2 [.int .i64 a, .int .i64 b] rfl (owns_at (base := w.heap.size + 1) _ [a, b] (heap_d w (.cells (InV ⟨4, d, a, b, tt, el, f, nn, l, c, sg, ys, ms⟩ ao ac mo mc) 49) (.cells #[.int .i64 d] 3) (.cells (InV ⟨4, d, a, b, tt, el, f, nn, l, c, sg, ys, ms⟩ ao ac mo mc) 49) (.cells #[.int .i64 a, .int .i64 b] 3)) rfl (by omega) (by simp)) ⟨w.heap.size + 1, 0, none⟩ 1 1 [.int .i64 d] rfl rfl (cell_of (heap_b w (.cells (InV ⟨4, d, a, b, tt, el, f, nn, l, c, sg, ys, ms⟩ ao ac mo mc) 49) (.cells #[.int .i64 d] 3) (.cells (InV ⟨4, d, a, b, tt, el, f, nn, l, c, sg, ys, ms⟩ ao ac mo mc) 49) (.cells #[.int .i64 a, .int .i64 b] 3))) (by intro u hu; simp at hu; subst hu; rfl) (by unfold maxLen; omega) (by omega) (by simp <;> omega) ?_; intro v2 w2 hown hgrow hblk; have HO2 := hid hown; have HX2 := hid (keep_box (n := w.heap.size) (heap_0 w (.cells (InV ⟨4, d, a, b, tt, el, f, nn, l, c, sg, ys, ms⟩ ao ac mo mc) 49) (.cells #[.int .i64 d] 3) (.cells (InV ⟨4, d, a, b, tt, el, f, nn, l, c, sg, ys, ms⟩ ao ac mo mc) 49) (.cells #[.int .i64 a, .int .i64 b] 3)) hgrow (by rintro k e; cases e; simp <;> omega)); have HB2 := hid ((((below4a w _ _ _ _).drew) : Below w.heap.size w _).grown hgrow (by simp <;> omega) (by rintro k e; cases e; simp <;> omega)); clear hown hgrow hblk))
    refine hK.out _ _ ?_ (fun hHeld10 => ?_)
    · (try dsimp only) <;> (first | exact HKp.out _ (Below.refl _ _) | exact HKp.out _ (HE0.out _) | exact HKp.out _ (HE2.out _ _) | exact HKp.out _ (HE3.out _ _ _) | exact ⟨HB2, cells_at HX2.out⟩)
    clear hK K hHeld7
    try simp only [Act.put, List.setIfInBounds_toArray, List.set_cons_zero, List.set_cons_succ]
    refine wpAnyH_take (i := 6) (oi := { dst := Option.some 5, op := Go.Op.assign (Go.Operand.tmp 13), type := 34, pos := "ir.go:290", after := #[{ on := 5, ground := Go.Ground.data }, { on := 5, ground := Go.Ground.chain }, { on := 0, ground := Go.Ground.phase }, { on := 1, ground := Go.Ground.phase }, { on := 2, ground := Go.Ground.phase }, { on := 3, ground := Go.Ground.phase }, { on := 4, ground := Go.Ground.phase }, { on := 5, ground := Go.Ground.phase }], guard := Option.none }) (v := ?_) rfl (by kernel_rfl) (by kernel_rfl) (by kernel_rfl) (fun _ _ _ h => h) (Or.inl ⟨by rfl, ?_⟩) (by assumption) ?_
    rotate_left
    · intro w5x hSwx
      try dsimp only at hSwx
      go_simp
      try with_reducible rfl
    try simp only [Act.put, List.setIfInBounds_toArray, List.set_cons_zero, List.set_cons_succ]
    refine wpAnyH_done (by kernel_rfl) ?_ _
  case' gs2 =>
    go_simp
    refine hK.out _ _ ?_ (fun hHeld11 => ?_)
    · (try dsimp only) <;> (first | exact HKp.out _ (Below.refl _ _) | exact HKp.out _ (HE0.out _) | exact HKp.out _ (HE2.out _ _) | exact HKp.out _ (HE3.out _ _ _) | exact ⟨HB2, cells_at HX2.out⟩)
    clear hK K hHeld0
    try simp only [Act.put, List.setIfInBounds_toArray, List.set_cons_zero, List.set_cons_succ]
    refine wpAnyH_ready (rs := [1]) (by kernel_rfl) (by simp) ?_
    refine AllReadyH.cons (o := { dst := Option.some 9, op := Go.Op.call { callee := Go.Callee.value (Go.Operand.func 77), args := #[Go.Operand.tmp 8], argTypes := #[49] }, type := 34, pos := "ir.go:290", after := #[{ on := 0, ground := Go.Ground.data }], guard := Option.none }) rfl (fun K hK => ?_) AllReadyH.nil
    go_simp
    go_wp2_with (first | (go_at_call 77; refine (reads4 ⟨4, d, a, b, tt, el, f, nn, l, c, sg, ys, ms⟩ ao mo ac mc _ rfl).mono ?_; rintro e w1 ⟨rfl, rfl⟩) | (refine step_append_at rfl (.tmp 9) (.tmp 12) 34 rfl (w.heap.size + 1) 3 i0t (.int .i64 0) 1 8 Try.underlying34 hti hz0 hz1 hz2 rfl (by decide) _ 2 [.int .i64 a, .int .i64 b] rfl (owns_at (base := w.heap.size + 1) _ [a, b] (heap_a w (.cells (InV ⟨4, d, a, b, tt, el, f, nn, l, c, sg, ys, ms⟩ ao ac mo mc) 49) (.cells (InV ⟨4, d, a, b, tt, el, f, nn, l, c, sg, ys, ms⟩ ao ac mo mc) 49) (.cells #[.int .i64 a, .int .i64 b] 3) (.cells #[.int .i64 d] 3)) rfl (by omega) (by simp)) ⟨w.heap.size + 1 + 1 + 1, 0, none⟩ 1 1 [.int .i64 d] rfl rfl (cell_of (heap_d w (.cells (InV ⟨4, d, a, b, tt, el, f, nn, l, c, sg, ys, ms⟩ ao ac mo mc) 49) (.cells (InV ⟨4, d, a, b, tt, el, f, nn, l, c, sg, ys, ms⟩ ao ac mo mc) 49) (.cells #[.int .i64 a, .int .i64 b] 3) (.cells #[.int .i64 d] 3))) (by intro u hu; simp at hu; subst hu; rfl) (by unfold maxLen; omega) (by omega) (by simp <;> omega) ?_; intro v2 w2 hown hgrow hblk; have HO2 := hid hown; have HX2 := hid (keep_box (n := w.heap.size) (heap_0 w (.cells (InV ⟨4, d, a, b, tt, el, f, nn, l, c, sg, ys, ms⟩ ao ac mo mc) 49) (.cells (InV ⟨4, d, a, b, tt, el, f, nn, l, c, sg, ys, ms⟩ ao ac mo mc) 49) (.cells #[.int .i64 a, .int .i64 b] 3) (.cells #[.int .i64 d] 3)) hgrow (by rintro k e; cases e; simp <;> omega)); have HB2 := hid ((((below4a w _ _ _ _).drew) : Below w.heap.size w _).grown hgrow (by simp <;> omega) (by rintro k e; cases e; simp <;> omega)); clear hown hgrow hblk) | (refine step_append_at rfl (.tmp 9) (.tmp 12) 34 rfl (w.heap.size + 1) 3 i0t (.int .i64 0) 1 8 Try.underlying34 hti hz0 hz1 hz2 rfl (by decide) _ 2 [.int .i64 a, .int .i64 b] rfl (owns_at (base := w.heap.size + 1) _ [a, b] (heap_d w (.cells (InV ⟨4, d, a, b, tt, el, f, nn, l, c, sg, ys, ms⟩ ao ac mo mc) 49) (.cells #[.int .i64 d] 3) (.cells (InV ⟨4, d, a, b, tt, el, f, nn, l, c, sg, ys, ms⟩ ao ac mo mc) 49) (.cells #[.int .i64 a, .int .i64 b] 3)) rfl (by omega) (by simp)) ⟨w.heap.size + 1, 0, none⟩ 1 1 [.int .i64 d] rfl rfl (cell_of (heap_b w (.cells (InV ⟨4, d, a, b, tt, el, f, nn, l, c, sg, ys, ms⟩ ao ac mo mc) 49) (.cells #[.int .i64 d] 3) (.cells (InV ⟨4, d, a, b, tt, el, f, nn, l, c, sg, ys, ms⟩ ao ac mo mc) 49) (.cells #[.int .i64 a, .int .i64 b] 3))) (by intro u hu; simp at hu; subst hu; rfl) (by unfold maxLen; omega) (by omega) (by simp <;> omega) ?_; intro v2 w2 hown hgrow hblk; have HO2 := hid hown; have HX2 := hid (keep_box (n := w.heap.size) (heap_0 w (.cells (InV ⟨4, d, a, b, tt, el, f, nn, l, c, sg, ys, ms⟩ ao ac mo mc) 49) (.cells #[.int .i64 d] 3) (.cells (InV ⟨4, d, a, b, tt, el, f, nn, l, c, sg, ys, ms⟩ ao ac mo mc) 49) (.cells #[.int .i64 a, .int .i64 b] 3)) hgrow (by rintro k e; cases e; simp <;> omega)); have HB2 := hid ((((below4a w _ _ _ _).drew) : Below w.heap.size w _).grown hgrow (by simp <;> omega) (by rintro k e; cases e; simp <;> omega)); clear hown hgrow hblk))
    refine hK.out _ _ ?_ (fun hHeld14 => ?_)
    · (try dsimp only) <;> (first | exact HKp.out _ (Below.refl _ _) | exact HKp.out _ (HE0.out _) | exact HKp.out _ (HE2.out _ _) | exact HKp.out _ (HE3.out _ _ _) | exact ⟨HB2, cells_at HX2.out⟩)
    clear hK K hHeld11
    try simp only [Act.put, List.setIfInBounds_toArray, List.set_cons_zero, List.set_cons_succ]
    refine wpAnyH_ready (rs := [5]) (by kernel_rfl) (by simp) ?_
    refine AllReadyH.cons (o := { dst := Option.some 13, op := Go.Op.call { callee := Go.Callee.builtin Go.Builtin.append, args := #[Go.Operand.tmp 9, Go.Operand.tmp 12], argTypes := #[34, 34] }, type := 34, pos := "ir.go:290", after := #[{ on := 1, ground := Go.Ground.data }, { on := 4, ground := Go.Ground.data }, { on := 1, ground := Go.Ground.chain }], guard := Option.none }) rfl (fun K hK => ?_) AllReadyH.nil
    (first | (go_at_call 77; refine (reads4 ⟨4, d, a, b, tt, el, f, nn, l, c, sg, ys, ms⟩ ao mo ac mc _ rfl).mono ?_; rintro e w1 ⟨rfl, rfl⟩) | (refine step_append_at rfl (.tmp 9) (.tmp 12) 34 rfl (w.heap.size + 1) 3 i0t (.int .i64 0) 1 8 Try.underlying34 hti hz0 hz1 hz2 rfl (by decide) _ 2 [.int .i64 a, .int .i64 b] rfl (owns_at (base := w.heap.size + 1) _ [a, b] (heap_a w (.cells (InV ⟨4, d, a, b, tt, el, f, nn, l, c, sg, ys, ms⟩ ao ac mo mc) 49) (.cells (InV ⟨4, d, a, b, tt, el, f, nn, l, c, sg, ys, ms⟩ ao ac mo mc) 49) (.cells #[.int .i64 a, .int .i64 b] 3) (.cells #[.int .i64 d] 3)) rfl (by omega) (by simp)) ⟨w.heap.size + 1 + 1 + 1, 0, none⟩ 1 1 [.int .i64 d] rfl rfl (cell_of (heap_d w (.cells (InV ⟨4, d, a, b, tt, el, f, nn, l, c, sg, ys, ms⟩ ao ac mo mc) 49) (.cells (InV ⟨4, d, a, b, tt, el, f, nn, l, c, sg, ys, ms⟩ ao ac mo mc) 49) (.cells #[.int .i64 a, .int .i64 b] 3) (.cells #[.int .i64 d] 3))) (by intro u hu; simp at hu; subst hu; rfl) (by unfold maxLen; omega) (by omega) (by simp <;> omega) ?_; intro v2 w2 hown hgrow hblk; have HO2 := hid hown; have HX2 := hid (keep_box (n := w.heap.size) (heap_0 w (.cells (InV ⟨4, d, a, b, tt, el, f, nn, l, c, sg, ys, ms⟩ ao ac mo mc) 49) (.cells (InV ⟨4, d, a, b, tt, el, f, nn, l, c, sg, ys, ms⟩ ao ac mo mc) 49) (.cells #[.int .i64 a, .int .i64 b] 3) (.cells #[.int .i64 d] 3)) hgrow (by rintro k e; cases e; simp <;> omega)); have HB2 := hid ((((below4a w _ _ _ _).drew) : Below w.heap.size w _).grown hgrow (by simp <;> omega) (by rintro k e; cases e; simp <;> omega)); clear hown hgrow hblk) | (refine step_append_at rfl (.tmp 9) (.tmp 12) 34 rfl (w.heap.size + 1) 3 i0t (.int .i64 0) 1 8 Try.underlying34 hti hz0 hz1 hz2 rfl (by decide) _ 2 [.int .i64 a, .int .i64 b] rfl (owns_at (base := w.heap.size + 1) _ [a, b] (heap_d w (.cells (InV ⟨4, d, a, b, tt, el, f, nn, l, c, sg, ys, ms⟩ ao ac mo mc) 49) (.cells #[.int .i64 d] 3) (.cells (InV ⟨4, d, a, b, tt, el, f, nn, l, c, sg, ys, ms⟩ ao ac mo mc) 49) (.cells #[.int .i64 a, .int .i64 b] 3)) rfl (by omega) (by simp)) ⟨w.heap.size + 1, 0, none⟩ 1 1 [.int .i64 d] rfl rfl (cell_of (heap_b w (.cells (InV ⟨4, d, a, b, tt, el, f, nn, l, c, sg, ys, ms⟩ ao ac mo mc) 49) (.cells #[.int .i64 d] 3) (.cells (InV ⟨4, d, a, b, tt, el, f, nn, l, c, sg, ys, ms⟩ ao ac mo mc) 49) (.cells #[.int .i64 a, .int .i64 b] 3))) (by intro u hu; simp at hu; subst hu; rfl) (by unfold maxLen; omega) (by omega) (by simp <;> omega) ?_; intro v2 w2 hown hgrow hblk; have HO2 := hid hown; have HX2 := hid (keep_box (n := w.heap.size) (heap_0 w (.cells (InV ⟨4, d, a, b, tt, el, f, nn, l, c, sg, ys, ms⟩ ao ac mo mc) 49) (.cells #[.int .i64 d] 3) (.cells (InV ⟨4, d, a, b, tt, el, f, nn, l, c, sg, ys, ms⟩ ao ac mo mc) 49) (.cells #[.int .i64 a, .int .i64 b] 3)) hgrow (by rintro k e; cases e; simp <;> omega)); have HB2 := hid ((((below4a w _ _ _ _).drew) : Below w.heap.size w _).grown hgrow (by simp <;> omega) (by rintro k e; cases e; simp <;> omega)); clear hown hgrow hblk))
    refine hK.out _ _ ?_ (fun hHeld17 => ?_)
    · (try dsimp only) <;> (first | exact HKp.out _ (Below.refl _ _) | exact HKp.out _ (HE0.out _) | exact HKp.out _ (HE2.out _ _) | exact HKp.out _ (HE3.out _ _ _) | exact ⟨HB2, cells_at HX2.out⟩)
    clear hK K hHeld14
    try simp only [Act.put, List.setIfInBounds_toArray, List.set_cons_zero, List.set_cons_succ]
    refine wpAnyH_take (i := 6) (oi := { dst := Option.some 5, op := Go.Op.assign (Go.Operand.tmp 13), type := 34, pos := "ir.go:290", after := #[{ on := 5, ground := Go.Ground.data }, { on := 5, ground := Go.Ground.chain }, { on := 0, ground := Go.Ground.phase }, { on := 1, ground := Go.Ground.phase }, { on := 2, ground := Go.Ground.phase }, { on := 3, ground := Go.Ground.phase }, { on := 4, ground := Go.Ground.phase }, { on := 5, ground := Go.Ground.phase }], guard := Option.none }) (v := ?_) rfl (by kernel_rfl) (by kernel_rfl) (by kernel_rfl) (fun _ _ _ h => h) (Or.inl ⟨by rfl, ?_⟩) (by assumption) ?_
    rotate_left
    · intro w5x hSwx
      try dsimp only at hSwx
      go_simp
      try with_reducible rfl
    try simp only [Act.put, List.setIfInBounds_toArray, List.set_cons_zero, List.set_cons_succ]
    refine wpAnyH_done (by kernel_rfl) ?_ _
  all_goals
    obtain ⟨A2, c2, hv2, hA2⟩ := ints_owns (xs := [a, b, d]) HO2.out (by simp)
    obtain ⟨xs, hxs⟩ : ∃ xs : List Int, [a, b, d] = xs := ⟨_, rfl⟩
    rw [hxs] at hv2 hA2
    obtain ⟨m, hm⟩ : ∃ m : Nat, xs.length = m := ⟨_, rfl⟩
    rw [hm] at hv2
    subst hv2
    have HXE := hid hxs
    have HM := hid hm
    have HA2 := hid (fun W (hb : Below w2.heap.size w2 W) => hA2.later int_stays hb)
    have HBB := hid (Below.refl w2.heap.size w2)
    have hm9 : (m : Int) ≤ 9223372036854775807 := by have := hA2.1; omega
    have hx2 := cells_at HX2.out
    clear hxs hm hA2 HO2 HKp HE0 HE2 HE3 HD0 HX0
    have hthere : ∀ r, xs.all (inN p.x.vs.length) = r → Calls Try.prog 74 #[.pointer (some ⟨J, 0, none⟩), .slice A2 m c2] w2 fun e w' => e = .returned (.bool r) ∧ w' = w2 := fun r hr => by
      have h := there_g xs A2 c2 J _ _ _ r w2 (HA2.out _ HBB.out) (HJ.out _ HB2.out).vars hr
      rw [HM.out] at h
      exact h
    have HTH := hid hthere
    clear hthere
    cases er : xs.all (inN p.x.vs.length)
    case false =>
      have HR : Hid (G = 15) := hid (by rw [← HG.out, numsG, HXE.out, er]; rfl)
      go_wp2_with (first
        | (go_at_call 74; refine (HTH.out _ er).mono ?_; rintro e w9 ⟨rfl, hw9⟩; obtain rfl := hw9.symm; clear hw9))
      go_ret
      exact ⟨by rw [HR.out]; rfl, HB2⟩
    case true =>
      go_wp2_with (first
        | (go_at_call 74; refine (HTH.out _ er).mono ?_; rintro e w9 ⟨rfl, hw9⟩; obtain rfl := hw9.symm; clear hw9))
      have HER := hid er
      clear er HTH
      go_loopg [20] m (fun gk v20 wr => ∃ k : Nat, k ≤ m ∧ gk = m - k ∧ v20 = .int .i64 k ∧ Hid (Below w.heap.size w wr) ∧ Hid (Below w2.heap.size w2 wr) ∧ Hid (wr.heap[w.heap.size]? = some (.cells (InV ⟨4, d, a, b, tt, el, f, nn, l, c, sg, ys, ms⟩ ao ac mo mc) 49 (0, 0))) ∧ Hid (∀ (i : Nat) y, i < k → xs[i]? = some y → (tyOf p.x y).p = false))
      case atStart => exact ⟨0, by omega, by omega, rfl, HB2, HBB, HX2, hid (fun i y hi => absurd hi (by omega))⟩
      case round =>
        clear HB2 HBB HX2 hx2
        obtain ⟨k, hk, rfl, rfl, HBk, HBm, HXk, HA⟩ := hrel
        have hxk := cells_at HXk.out
        by_cases hlt : k < m
        · have hlt' : (k : Int) < (m : Int) := by omega
          have k0 : (0 : Int) ≤ (k : Int) := by omega
          obtain ⟨y, hy⟩ := get_some HM.out hlt
          have hyn : inN p.x.vs.length y = true := List.all_eq_true.1 HER.out y (List.mem_of_getElem? hy)
          obtain ⟨ky, py, ny, rfl, hky, hty⟩ := inN_get hyn
          obtain ⟨bx, ox, rfl, -, hxc⟩ := (HA2.out _ HBm.out).2 k _ hy
          have e0 : wr.cell? ⟨bx, ox + k * 1, none⟩ = some (.int .i64 ky) := hxc
          simp only [Nat.mul_one] at e0
          have HY := hid hy
          have HTY := hid hty
          have HKY := hid hky
          clear hy hyn hky hty hxc
          cases py
          case true =>
            have HR : Hid (G = 7) := hid (by
              rw [← HG.out, numsG, HXE.out, HER.out, if_pos rfl, if_pos]
              exact List.any_eq_true.2 ⟨_, List.mem_of_getElem? HY.out, by rw [HTY.out]⟩)
            go_wp2_with (first
              | (go_at_call 76; refine (kind_j p ky _ _ J _ (HJ.out _ HBk.out) HKY.out).mono ?_; rintro e w' ⟨rfl, hb⟩; have HBn := hid (after HBk.out hb.out HBk.out.size); clear hb))
            go_ret
            exact ⟨by rw [HR.out]; rfl, HBn⟩
          case false =>
            go_wp2_with (first
              | (go_at_call 76; refine (kind_j p ky _ _ J _ (HJ.out _ HBk.out) HKY.out).mono ?_; rintro e w' ⟨rfl, hb⟩; have HBn := hid (after HBk.out hb.out HBk.out.size); have HBo := hid (after HBm.out hb.out HBm.out.size); have HXn := hid (lay hb.out HXk.out); clear hb))
            go_roundg (m - (k + 1))
            case measure => omega
            case rel => exact ⟨k + 1, by omega, rfl, rfl, HBn, HBo, HXn, hid (fun i y' hi h1 => by
              by_cases hik : i < k
              · exact HA.out i y' hik h1
              · obtain rfl : i = k := by omega
                rw [HY.out] at h1
                cases h1
                rw [HTY.out])⟩
        · have hlt' : ¬ (k : Int) < (m : Int) := by omega
          have HAN := hid (show xs.any (fun y => (tyOf p.x y).p) = false by
            rw [List.any_eq_false]
            intro y hy
            obtain ⟨i, hi, rfl⟩ := List.mem_iff_getElem.1 hy
            have := HA.out i _ (by have := HM.out; omega) (List.getElem?_eq_getElem hi)
            simp [this])
          obtain ⟨q, es⟩ : ∃ q, sgF sg = q := ⟨_, rfl⟩
          have HR : Hid (G = (if q then 0 else 3)) := hid (by rw [← HG.out, numsG, HXE.out, HER.out, if_pos rfl, HAN.out, es]; cases q <;> simp)
          have HES := hid es
          clear es
          cases q
          all_goals
            go_wp2_with (first
              | (go_at_call 78; refine (sign_i _ _ _ HES.out).mono ?_; rintro e w' ⟨rfl, rfl⟩))
            go_ret
            exact ⟨by simp [HR.out], HBk⟩
theorem numbers_g (p : JP) (J : Nat) (r : InD) (ao mo : Option Addr) (ac mc : Nat) (w : World) (hj : JG w J p) (h : r.op = 3 ∨ r.op = 4) :
    Calls Try.prog 60 #[.pointer (some ⟨J, 0, none⟩), .agg (InV r ao ac mo mc)] w fun e w' => e = .returned (.int .i64 (numsF p.x r)) ∧ Hid (Below w.heap.size w w') := by
  obtain ⟨op, d, a, b, tt, el, f, nn, l, c, sg, ys, ms⟩ := r
  rcases h with h | h
  · simp only at h
    subst h
    exact numbers_3 p J d a b tt el f nn l c sg ys ms ao mo ac mc w hj
  · simp only at h
    subst h
    exact numbers_4 p J d a b tt el f nn l c sg ys ms ao mo ac mc w hj
end Go.Proofs.Ytfhdiahjfnphkaa
