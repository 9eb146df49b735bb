/- A field that an instruction names, where the variables are there. No conditions. -/
import Derived.Test.YtfhdiahjfnphkaaCR17
namespace Go.Proofs.Ytfhdiahjfnphkaa
open Go.RowKit Go.Maps
set_option linter.unusedVariables false
set_option linter.unusedSimpArgs false
theorem set_here {W : World} {k t : Nat} {vs : Array Value} (h : W.heap[k]? = some (.cells vs t (0, 0))) (i : Nat) (v : Value) : (W.setCell ⟨k, i, none⟩ v).heap[k]? = some (.cells (vs.setIfInBounds i v) t (0, 0)) := by
  simp [World.setCell, Array.getElem?_modify, h]
theorem two_set {W : World} {k t : Nat} {a b : Value} (h : W.heap[k]? = some (.cells #[a, b] t (0, 0))) (x y : Value) :
    ((W.setCell ⟨k, 0, none⟩ x).setCell ⟨k, 1, none⟩ y).cell? ⟨k, 0, none⟩ = some x ∧ ((W.setCell ⟨k, 0, none⟩ x).setCell ⟨k, 1, none⟩ y).cell? ⟨k, 1, none⟩ = some y := by
  have h2 := set_here (set_here h 0 x) 1 y
  exact ⟨by rw [cells_at h2 0]; rfl, by rw [cells_at h2 1]; rfl⟩
theorem one_set {W : World} {k t : Nat} {a b : Value} (h : W.heap[k]? = some (.cells #[a, b] t (0, 0))) (x : Value) : (W.setCell ⟨k, 0, none⟩ x).cell? ⟨k, 1, none⟩ = some b ∧ (W.setCell ⟨k, 0, none⟩ x).frozen? ⟨k, 1, none⟩ = false := by
  have h2 := set_here h 0 x
  exact ⟨by rw [cells_at h2 1]; rfl, frozen_no h2 1⟩
/-- What lies behind the question for a kind. -/
structure FS (w : World) (BXv : Array Value) (J : Nat) (p : JP) (pp : Bool) (nm : ByteArray) (w1 : World) : Prop where
  below : Below w.heap.size w w1
  box : w1.heap[w.heap.size]? = some (.cells BXv 49 (0, 0))
  res : w1.heap[w.heap.size + 1]? = some (.cells #[.bool false, .string ⟨#[]⟩] 31 (0, 0))
set_option maxRecDepth 100000 in
set_option maxHeartbeats 4000000 in
theorem field_no (p : JP) (J : Nat) (op d b tt el f n l c : Int) (k : Nat) (nm : ByteArray) (sg : ByteArray) (xs ms : List Int) (v : Int) (ao mo : Option Addr) (ac mc : Nat) (w : World) (hj : JG w J p) (e : (inN p.x.vs.length k && inN p.x.vs.length v) = true) (hv : KindIs p.x k false nm) :
    Calls Try.prog 83 #[.pointer (some ⟨J, 0, none⟩), .agg (InV ⟨op, d, k, b, tt, el, f, n, l, c, sg, xs, ms⟩ ao ac mo mc), .int .i64 v] w fun e w' => e = .returned (.tuple #[.agg #[.bool false, .string ⟨#[]⟩], .int .i64 7]) ∧ Hid (Below w.heap.size w w') := by
  have HJ := hid (fun W (hb : Below w.heap.size w W) => hj.later hb)
  have HB := hid (below3a w)
  have HX := hid (fun o q => box3a w (InV ⟨op, d, k, b, tt, el, f, n, l, c, sg, xs, ms⟩ ao ac mo mc) 49 o q)
  have HR := hid (fun o q => box3b w #[.bool false, .string ⟨#[]⟩] 31 o q)
  have HV := hid hv
  clear hj hv
  go_enter Try.func83, Try.ntmps83
  go_wp2_with (first
    | (go_at_call 74; refine (there_2 p k v _ _ _ _ (new_cell3a _ _ _ _ _ _) (new_cell3b _ _ _ _ _ _) (HJ.out _ (HB.out _ _ _)) e).mono ?_; rintro e w' ⟨rfl, rfl⟩)
    | (go_at_call 76; refine (kind_j p k _ _ _ _ (HJ.out _ (HB.out _ _ _)) HV.out).mono ?_; rintro e w1 ⟨rfl, hb1⟩; have HB1 := hid (after (HB.out _ _ _) hb1.out (HB.out _ _ _).size); have HX1 := hid (lay hb1.out (HX.out _ _)); have HR1 := hid (lay hb1.out (HR.out _ _)); have hx1 := fun o => cells_at1 HX1.out o; have hr1 := fun o => cells_at1 HR1.out o; have hf1 := fun o i => frozen_no (lay (below1 w1 o) HR1.out) i; have hs1 := fun o x => one_set (lay (below1 w1 o) HR1.out) x))
  have hf := fun o => two_set (lay (below1 w1 o) HR1.out)
  exact bodyPost_ret (v := .tuple #[.agg #[.bool false, .string ⟨#[]⟩], .int .i64 7]) (by simp [results, Try.results83, go_sem, hf]) rfl ⟨rfl, hid (((after HB1.out (below1 _ _) HB1.out.size).setCell (by simp) _).setCell (by simp) _)⟩
end Go.Proofs.Ytfhdiahjfnphkaa
/- A field that an instruction names, where the struct is there. No conditions. -/
namespace Go.Proofs.Ytfhdiahjfnphkaa
open Go.RowKit Go.Maps
set_option linter.unusedVariables false
set_option linter.unusedSimpArgs false
set_option maxRecDepth 100000 in
set_option maxHeartbeats 8000000 in
theorem field_neg (p : JP) (J : Nat) (op d b tt el f n l c : Int) (k ki : Nat) (nm : ByteArray) (s : StD) (sg : ByteArray) (xs ms : List Int) (v : Int) (ao mo : Option Addr) (ac mc : Nat) (w : World) (hj : JG w J p) (hD : p.D = mapN (p.ss.map (·.nm)) (p.ss.map (·.nm)).length) (nd : dup (keysOf (p.ss.map (·.nm))) = false) (e : (inN p.x.vs.length k && inN p.x.vs.length v) = true) (hv : KindIs p.x k true nm) (hs : p.ss[ki]? = some s) (hnm : s.nm = nm) (hz : nm.size ≤ maxLen) (hf0 : f < 0) :
    Calls Try.prog 83 #[.pointer (some ⟨J, 0, none⟩), .agg (InV ⟨op, d, k, b, tt, el, f, n, l, c, sg, xs, ms⟩ ao ac mo mc), .int .i64 v] w fun e w' => e = .returned (.tuple #[.agg #[.bool false, .string ⟨#[]⟩], .int .i64 15]) ∧ Hid (Below w.heap.size w w') := by
  have HJ := hid (fun W (hb : Below w.heap.size w W) => hj.later hb)
  have HB := hid (below3a w)
  have HX := hid (fun o q => box3a w (InV ⟨op, d, k, b, tt, el, f, n, l, c, sg, xs, ms⟩ ao ac mo mc) 49 o q)
  have HR := hid (fun o q => box3b w #[.bool false, .string ⟨#[]⟩] 31 o q)
  have HV := hid hv
  obtain ⟨bs, os, hsa, hbs, fa, fc, hcs, hfs⟩ := hj.st.2 ki s hs
  obtain ⟨m, hm⟩ : ∃ m, s.fs.length = m := ⟨_, rfl⟩
  have hm9 : m ≤ 9223372036854775807 := hm ▸ hfs.1
  have hn1 : w.cell? ⟨bs, os + ki * 4 + 1, none⟩ = some (.slice fa m fc) := by rw [← hm]; exact hcs 1 _ rfl
  have HL := hid (fun W (hb : Below w.heap.size w W) => look_name (p.ss.map (·.nm)) nm ki (hD ▸ (hj.later hb).mp) nd (by rw [List.getElem?_map, hs, ← hnm]; rfl) hz)
  have HJO := hid (fun W (hb : Below w.heap.size w W) => (show ∀ i, W.cell? ⟨J, i, none⟩ = (#[.slice (some ⟨bs, os, none⟩) p.ss.length p.sc, .slice p.ca p.cs.length p.cc, .map (some p.B), .string p.x.nm, .int .i64 p.x.pr, .slice p.va p.x.vs.length p.vc, .bool p.x.rt.t.p, .string p.x.rt.t.name, .int .i64 p.x.rt.cls, .slice p.fa p.x.fr.length p.fc, .slice p.ia p.x.ins.length p.ic] : Array Value)[i]? from by have h := cells_at (hj.later hb).j; simp only [JP.obj, hsa] at h; exact h))
  have HN1 := hid hn1
  have HF := hid (fun W (hb : Below w.heap.size w W) => hfs.later fd_stays hb)
  have HM := hid hm
  have hlt : ki < p.ss.length := (List.getElem?_eq_some_iff.1 hs).1
  have i1 : (0 : Int) ≤ (ki : Int) := by omega
  have i2 : (ki : Int) < (p.ss.length : Int) := by omega
  have hl9 : (p.ss.length : Int) ≤ 9223372036854775807 := by have := hj.st.1; omega
  clear hj hv hD nd hs hnm hz hsa hbs hcs hfs hn1 hlt hm
  go_enter Try.func83, Try.ntmps83
  go_wp2_with (first
    | (go_at_call 74; refine (there_2 p k v _ _ _ _ (new_cell3a _ _ _ _ _ _) (new_cell3b _ _ _ _ _ _) (HJ.out _ (HB.out _ _ _)) e).mono ?_; rintro e w' ⟨rfl, rfl⟩)
    | (go_at_call 76; refine (kind_j p k _ _ _ _ (HJ.out _ (HB.out _ _ _)) HV.out).mono ?_; rintro e w1 ⟨rfl, hb1⟩; have HB1 := hid (after (HB.out _ _ _) hb1.out (HB.out _ _ _).size); have HX1 := hid (lay hb1.out (HX.out _ _)); have HR1 := hid (lay hb1.out (HR.out _ _)); have hx1 := fun o => cells_at1 HX1.out o; have hr1 := fun o => cells_at1 HR1.out o; have hf1 := fun o i => frozen_no (lay (below1 w1 o) HR1.out) i; have hs1 := fun o x => one_set (lay (below1 w1 o) HR1.out) x))
  have HB2 := hid ((after HB1.out (below1 w1 (.cells #[.bool true, .string nm] 31)) HB1.out.size).drew)
  have HS := hid (And.intro (HJO.out _ HB2.out) (And.intro (show ((w1.alloc (.cells #[.bool true, .string nm] 31)).drew).cell? ⟨w1.heap.size, 1, none⟩ = some (.string nm) from cells_at (heap_alloc_new w1 _) 1) (And.intro (HL.out _ HB2.out) (cell_keep HB2.out (cell_lt HN1.out) HN1.out))))
  refine wp_region_held_drew (S := fun W => (∀ i, W.cell? ⟨J, i, none⟩ = (#[.slice (some ⟨bs, os, none⟩) p.ss.length p.sc, .slice p.ca p.cs.length p.cc, .map (some p.B), .string p.x.nm, .int .i64 p.x.pr, .slice p.va p.x.vs.length p.vc, .bool p.x.rt.t.p, .string p.x.rt.t.name, .int .i64 p.x.rt.cls, .slice p.fa p.x.fr.length p.fc, .slice p.ia p.x.ins.length p.ic] : Array Value)[i]?) ∧ W.cell? ⟨w1.heap.size, 1, none⟩ = some (.string nm) ∧ (Instr.lookup 68 (.map (some p.B)) (.string nm) false).run Try.prog W = .ok (.int .i64 ki) W ∧ W.cell? ⟨bs, os + ki * 4 + 1, none⟩ = some (.slice fa m fc)) (by kernel_rfl) ?_ (fun hHeld0 => ?_)
  · (try dsimp only) <;> (first | exact HS.out)
  refine wpAnyH_take (i := 0) (oi := { dst := Option.some 26, op := Go.Op.move (Go.Operand.tmp 0), type := 67, pos := "ir.go:332", after := #[], guard := Option.none }) (v := ?_) rfl (by kernel_rfl) (by kernel_rfl) (by kernel_rfl) (fun _ _ _ h => h) (Or.inl ⟨by rfl, ?_⟩) (by assumption) ?_
  rotate_left
  · intro w5x hSwx
    try dsimp only at hSwx
    go_simp
    try with_reducible rfl
  try simp only [Act.put, List.setIfInBounds_toArray, List.set_cons_zero, List.set_cons_succ]
  refine wpAnyH_take (i := 1) (oi := { dst := Option.some 27, op := Go.Op.nilCheck (Go.Operand.tmp 26), type := 0, pos := "ir.go:332", after := #[{ on := 0, ground := Go.Ground.data }], guard := Option.none }) (v := ?_) rfl (by kernel_rfl) (by kernel_rfl) (by kernel_rfl) (fun _ _ _ h => h) (Or.inl ⟨by rfl, ?_⟩) (by assumption) ?_
  rotate_left
  · intro w5x hSwx
    try dsimp only at hSwx
    go_simp
    try with_reducible rfl
  try simp only [Act.put, List.setIfInBounds_toArray, List.set_cons_zero, List.set_cons_succ]
  refine wpAnyH_take (i := 2) (oi := { dst := Option.some 28, op := Go.Op.fieldAddr 70 (Go.Operand.tmp 27) 0, type := 0, pos := "ir.go:332", after := #[{ on := 1, ground := Go.Ground.data }], guard := Option.none }) (v := ?_) rfl (by kernel_rfl) (by kernel_rfl) (by kernel_rfl) (fun _ _ _ h => h) (Or.inl ⟨by rfl, ?_⟩) (by assumption) ?_
  rotate_left
  · intro w5x hSwx
    try dsimp only at hSwx
    go_simp
    try with_reducible rfl
  try simp only [Act.put, List.setIfInBounds_toArray, List.set_cons_zero, List.set_cons_succ]
  refine wpAnyH_take (i := 3) (oi := { dst := Option.some 29, op := Go.Op.fieldAddr 25 (Go.Operand.tmp 28) 0, type := 0, pos := "ir.go:332", after := #[{ on := 2, ground := Go.Ground.data }], guard := Option.none }) (v := ?_) rfl (by kernel_rfl) (by kernel_rfl) (by kernel_rfl) (fun _ _ _ h => h) (Or.inl ⟨by rfl, ?_⟩) (by assumption) ?_
  rotate_left
  · intro w5x hSwx
    try dsimp only at hSwx
    go_simp
    try with_reducible rfl
  try simp only [Act.put, List.setIfInBounds_toArray, List.set_cons_zero, List.set_cons_succ]
  refine wpAnyH_take (i := 4) (oi := { dst := Option.some 30, op := Go.Op.load 22 (Go.Operand.tmp 29), type := 22, pos := "ir.go:332", after := #[{ on := 3, ground := Go.Ground.data }], guard := Option.none }) (v := ?_) rfl (by kernel_rfl) (by kernel_rfl) (by kernel_rfl) (fun _ _ _ h => h) (Or.inl ⟨by rfl, ?_⟩) (by assumption) ?_
  rotate_left
  · intro w5x hSwx
    try dsimp only at hSwx
    go_simp
    try with_reducible rfl
  try simp only [Act.put, List.setIfInBounds_toArray, List.set_cons_zero, List.set_cons_succ]
  refine wpAnyH_take (i := 5) (oi := { dst := Option.some 31, op := Go.Op.move (Go.Operand.tmp 0), type := 67, pos := "ir.go:332", after := #[], guard := Option.none }) (v := ?_) rfl (by kernel_rfl) (by kernel_rfl) (by kernel_rfl) (fun _ _ _ h => h) (Or.inl ⟨by rfl, ?_⟩) (by assumption) ?_
  rotate_left
  · intro w5x hSwx
    try dsimp only at hSwx
    go_simp
    try with_reducible rfl
  try simp only [Act.put, List.setIfInBounds_toArray, List.set_cons_zero, List.set_cons_succ]
  refine wpAnyH_take (i := 6) (oi := { dst := Option.some 32, op := Go.Op.nilCheck (Go.Operand.tmp 31), type := 0, pos := "ir.go:332", after := #[{ on := 5, ground := Go.Ground.data }], guard := Option.none }) (v := ?_) rfl (by kernel_rfl) (by kernel_rfl) (by kernel_rfl) (fun _ _ _ h => h) (Or.inl ⟨by rfl, ?_⟩) (by assumption) ?_
  rotate_left
  · intro w5x hSwx
    try dsimp only at hSwx
    go_simp
    try with_reducible rfl
  try simp only [Act.put, List.setIfInBounds_toArray, List.set_cons_zero, List.set_cons_succ]
  refine wpAnyH_take (i := 7) (oi := { dst := Option.some 33, op := Go.Op.fieldAddr 70 (Go.Operand.tmp 32) 1, type := 0, pos := "ir.go:332", after := #[{ on := 6, ground := Go.Ground.data }], guard := Option.none }) (v := ?_) rfl (by kernel_rfl) (by kernel_rfl) (by kernel_rfl) (fun _ _ _ h => h) (Or.inl ⟨by rfl, ?_⟩) (by assumption) ?_
  rotate_left
  · intro w5x hSwx
    try dsimp only at hSwx
    go_simp
    try with_reducible rfl
  try simp only [Act.put, List.setIfInBounds_toArray, List.set_cons_zero, List.set_cons_succ]
  refine wpAnyH_take (i := 8) (oi := { dst := Option.some 34, op := Go.Op.load 68 (Go.Operand.tmp 33), type := 68, pos := "ir.go:332", after := #[{ on := 7, ground := Go.Ground.data }], guard := Option.none }) (v := ?_) rfl (by kernel_rfl) (by kernel_rfl) (by kernel_rfl) (fun _ _ _ h => h) (Or.inl ⟨by rfl, ?_⟩) (by assumption) ?_
  rotate_left
  · intro w5x hSwx
    try dsimp only at hSwx
    go_simp
    try with_reducible rfl
  try simp only [Act.put, List.setIfInBounds_toArray, List.set_cons_zero, List.set_cons_succ]
  refine wpAnyH_take (i := 9) (oi := { dst := Option.some 35, op := Go.Op.fieldAddr 31 (Go.Operand.tmp 8) 1, type := 0, pos := "ir.go:332", after := #[], guard := Option.none }) (v := ?_) rfl (by kernel_rfl) (by kernel_rfl) (by kernel_rfl) (fun _ _ _ h => h) (Or.inl ⟨by rfl, ?_⟩) (by assumption) ?_
  rotate_left
  · intro w5x hSwx
    try dsimp only at hSwx
    go_simp
    try with_reducible rfl
  try simp only [Act.put, List.setIfInBounds_toArray, List.set_cons_zero, List.set_cons_succ]
  refine wpAnyH_take (i := 10) (oi := { dst := Option.some 36, op := Go.Op.load 9 (Go.Operand.tmp 35), type := 9, pos := "ir.go:332", after := #[{ on := 9, ground := Go.Ground.data }], guard := Option.none }) (v := ?_) rfl (by kernel_rfl) (by kernel_rfl) (by kernel_rfl) (fun _ _ _ h => h) (Or.inl ⟨by rfl, ?_⟩) (by assumption) ?_
  rotate_left
  · intro w5x hSwx
    try dsimp only at hSwx
    go_simp
    try with_reducible rfl
  try simp only [Act.put, List.setIfInBounds_toArray, List.set_cons_zero, List.set_cons_succ]
  refine wpAnyH_ready (rs := [11]) (by kernel_rfl) (by simp) ?_
  refine AllReadyH.cons (o := { dst := Option.some 37, op := Go.Op.lookup 68 (Go.Operand.tmp 34) (Go.Operand.tmp 36) Bool.false, type := 3, pos := "ir.go:332", after := #[{ on := 8, ground := Go.Ground.data }, { on := 10, ground := Go.Ground.data }], guard := Option.none }) rfl (fun K hK => ?_) AllReadyH.nil
  go_simp
  refine hK.out _ _ ?_ (fun hHeld3 => ?_)
  · (try dsimp only) <;> (first | exact HS.out)
  clear hK K hHeld0
  try simp only [Act.put, List.setIfInBounds_toArray, List.set_cons_zero, List.set_cons_succ]
  refine wpAnyH_take (i := 12) (oi := { dst := Option.some 38, op := Go.Op.indexAddr 22 (Go.Operand.tmp 30) (Go.Operand.tmp 37), type := 0, pos := "ir.go:332", after := #[{ on := 4, ground := Go.Ground.data }, { on := 11, ground := Go.Ground.data }], guard := Option.none }) (v := ?_) rfl (by kernel_rfl) (by kernel_rfl) (by kernel_rfl) (fun _ _ _ h => h) (Or.inl ⟨by rfl, ?_⟩) (by assumption) ?_
  rotate_left
  · intro w5x hSwx
    try dsimp only at hSwx
    go_simp
    try with_reducible rfl
  try simp only [Act.put, List.setIfInBounds_toArray, List.set_cons_zero, List.set_cons_succ]
  refine wpAnyH_take (i := 13) (oi := { dst := Option.some 39, op := Go.Op.fieldAddr 47 (Go.Operand.tmp 38) 1, type := 0, pos := "ir.go:332", after := #[{ on := 12, ground := Go.Ground.data }], guard := Option.none }) (v := ?_) rfl (by kernel_rfl) (by kernel_rfl) (by kernel_rfl) (fun _ _ _ h => h) (Or.inl ⟨by rfl, ?_⟩) (by assumption) ?_
  rotate_left
  · intro w5x hSwx
    try dsimp only at hSwx
    go_simp
    try with_reducible rfl
  try simp only [Act.put, List.setIfInBounds_toArray, List.set_cons_zero, List.set_cons_succ]
  refine wpAnyH_take (i := 14) (oi := { dst := Option.some 40, op := Go.Op.load 43 (Go.Operand.tmp 39), type := 43, pos := "ir.go:332", after := #[{ on := 13, ground := Go.Ground.data }], guard := Option.none }) (v := ?_) rfl (by kernel_rfl) (by kernel_rfl) (by kernel_rfl) (fun _ _ _ h => h) (Or.inl ⟨by rfl, ?_⟩) (by assumption) ?_
  rotate_left
  · intro w5x hSwx
    try dsimp only at hSwx
    go_simp
    try with_reducible rfl
  try simp only [Act.put, List.setIfInBounds_toArray, List.set_cons_zero, List.set_cons_succ]
  refine wpAnyH_take (i := 15) (oi := { dst := Option.some 9, op := Go.Op.assign (Go.Operand.tmp 40), type := 43, pos := "ir.go:332", after := #[{ on := 14, ground := Go.Ground.data }, { on := 0, ground := Go.Ground.phase }, { on := 1, ground := Go.Ground.phase }, { on := 2, ground := Go.Ground.phase }, { on := 3, ground := Go.Ground.phase }, { on := 4, ground := Go.Ground.phase }, { on := 5, ground := Go.Ground.phase }, { on := 6, ground := Go.Ground.phase }, { on := 7, ground := Go.Ground.phase }, { on := 8, ground := Go.Ground.phase }, { on := 9, ground := Go.Ground.phase }, { on := 10, ground := Go.Ground.phase }, { on := 11, ground := Go.Ground.phase }, { on := 12, ground := Go.Ground.phase }, { on := 13, ground := Go.Ground.phase }, { on := 14, ground := Go.Ground.phase }], guard := Option.none }) (v := ?_) rfl (by kernel_rfl) (by kernel_rfl) (by kernel_rfl) (fun _ _ _ h => h) (Or.inl ⟨by rfl, ?_⟩) (by assumption) ?_
  rotate_left
  · intro w5x hSwx
    try dsimp only at hSwx
    go_simp
    try with_reducible rfl
  try simp only [Act.put, List.setIfInBounds_toArray, List.set_cons_zero, List.set_cons_succ]
  refine wpAnyH_done (by kernel_rfl) ?_ _
  go_wp2
  have hf := fun o => two_set (lay (below1 w1 o) HR1.out)
  exact bodyPost_ret (v := .tuple #[.agg #[.bool false, .string ⟨#[]⟩], .int .i64 15]) (by simp [results, Try.results83, go_sem, hf]) rfl ⟨rfl, hid (((after HB1.out (below1 _ _) HB1.out.size).setCell (by simp) _).setCell (by simp) _).drew⟩
set_option maxRecDepth 100000 in
set_option maxHeartbeats 8000000 in
theorem field_big (p : JP) (J : Nat) (op d b tt el f n l c : Int) (k ki : Nat) (nm : ByteArray) (s : StD) (sg : ByteArray) (xs ms : List Int) (v : Int) (ao mo : Option Addr) (ac mc : Nat) (w : World) (hj : JG w J p) (hD : p.D = mapN (p.ss.map (·.nm)) (p.ss.map (·.nm)).length) (nd : dup (keysOf (p.ss.map (·.nm))) = false) (e : (inN p.x.vs.length k && inN p.x.vs.length v) = true) (hv : KindIs p.x k true nm) (hs : p.ss[ki]? = some s) (hnm : s.nm = nm) (hz : nm.size ≤ maxLen) (hf0 : ¬ f < 0) (hf1 : (s.fs.length : Int) ≤ f) :
    Calls Try.prog 83 #[.pointer (some ⟨J, 0, none⟩), .agg (InV ⟨op, d, k, b, tt, el, f, n, l, c, sg, xs, ms⟩ ao ac mo mc), .int .i64 v] w fun e w' => e = .returned (.tuple #[.agg #[.bool false, .string ⟨#[]⟩], .int .i64 15]) ∧ Hid (Below w.heap.size w w') := by
  have HJ := hid (fun W (hb : Below w.heap.size w W) => hj.later hb)
  have HB := hid (below3a w)
  have HX := hid (fun o q => box3a w (InV ⟨op, d, k, b, tt, el, f, n, l, c, sg, xs, ms⟩ ao ac mo mc) 49 o q)
  have HR := hid (fun o q => box3b w #[.bool false, .string ⟨#[]⟩] 31 o q)
  have HV := hid hv
  obtain ⟨bs, os, hsa, hbs, fa, fc, hcs, hfs⟩ := hj.st.2 ki s hs
  obtain ⟨m, hm⟩ : ∃ m, s.fs.length = m := ⟨_, rfl⟩
  have hm9 : m ≤ 9223372036854775807 := hm ▸ hfs.1
  have hn1 : w.cell? ⟨bs, os + ki * 4 + 1, none⟩ = some (.slice fa m fc) := by rw [← hm]; exact hcs 1 _ rfl
  have HL := hid (fun W (hb : Below w.heap.size w W) => look_name (p.ss.map (·.nm)) nm ki (hD ▸ (hj.later hb).mp) nd (by rw [List.getElem?_map, hs, ← hnm]; rfl) hz)
  have HJO := hid (fun W (hb : Below w.heap.size w W) => (show ∀ i, W.cell? ⟨J, i, none⟩ = (#[.slice (some ⟨bs, os, none⟩) p.ss.length p.sc, .slice p.ca p.cs.length p.cc, .map (some p.B), .string p.x.nm, .int .i64 p.x.pr, .slice p.va p.x.vs.length p.vc, .bool p.x.rt.t.p, .string p.x.rt.t.name, .int .i64 p.x.rt.cls, .slice p.fa p.x.fr.length p.fc, .slice p.ia p.x.ins.length p.ic] : Array Value)[i]? from by have h := cells_at (hj.later hb).j; simp only [JP.obj, hsa] at h; exact h))
  have HN1 := hid hn1
  have HF := hid (fun W (hb : Below w.heap.size w W) => hfs.later fd_stays hb)
  have HM := hid hm
  have hlt : ki < p.ss.length := (List.getElem?_eq_some_iff.1 hs).1
  have i1 : (0 : Int) ≤ (ki : Int) := by omega
  have i2 : (ki : Int) < (p.ss.length : Int) := by omega
  have hl9 : (p.ss.length : Int) ≤ 9223372036854775807 := by have := hj.st.1; omega
  have hf2 : (m : Int) ≤ f := by omega
  clear hf1
  clear hj hv hD nd hs hnm hz hsa hbs hcs hfs hn1 hlt hm
  go_enter Try.func83, Try.ntmps83
  go_wp2_with (first
    | (go_at_call 74; refine (there_2 p k v _ _ _ _ (new_cell3a _ _ _ _ _ _) (new_cell3b _ _ _ _ _ _) (HJ.out _ (HB.out _ _ _)) e).mono ?_; rintro e w' ⟨rfl, rfl⟩)
    | (go_at_call 76; refine (kind_j p k _ _ _ _ (HJ.out _ (HB.out _ _ _)) HV.out).mono ?_; rintro e w1 ⟨rfl, hb1⟩; have HB1 := hid (after (HB.out _ _ _) hb1.out (HB.out _ _ _).size); have HX1 := hid (lay hb1.out (HX.out _ _)); have HR1 := hid (lay hb1.out (HR.out _ _)); have hx1 := fun o => cells_at1 HX1.out o; have hr1 := fun o => cells_at1 HR1.out o; have hf1 := fun o i => frozen_no (lay (below1 w1 o) HR1.out) i; have hs1 := fun o x => one_set (lay (below1 w1 o) HR1.out) x))
  have HB2 := hid ((after HB1.out (below1 w1 (.cells #[.bool true, .string nm] 31)) HB1.out.size).drew)
  have HS := hid (And.intro (HJO.out _ HB2.out) (And.intro (show ((w1.alloc (.cells #[.bool true, .string nm] 31)).drew).cell? ⟨w1.heap.size, 1, none⟩ = some (.string nm) from cells_at (heap_alloc_new w1 _) 1) (And.intro (HL.out _ HB2.out) (cell_keep HB2.out (cell_lt HN1.out) HN1.out))))
  refine wp_region_held_drew (S := fun W => (∀ i, W.cell? ⟨J, i, none⟩ = (#[.slice (some ⟨bs, os, none⟩) p.ss.length p.sc, .slice p.ca p.cs.length p.cc, .map (some p.B), .string p.x.nm, .int .i64 p.x.pr, .slice p.va p.x.vs.length p.vc, .bool p.x.rt.t.p, .string p.x.rt.t.name, .int .i64 p.x.rt.cls, .slice p.fa p.x.fr.length p.fc, .slice p.ia p.x.ins.length p.ic] : Array Value)[i]?) ∧ W.cell? ⟨w1.heap.size, 1, none⟩ = some (.string nm) ∧ (Instr.lookup 68 (.map (some p.B)) (.string nm) false).run Try.prog W = .ok (.int .i64 ki) W ∧ W.cell? ⟨bs, os + ki * 4 + 1, none⟩ = some (.slice fa m fc)) (by kernel_rfl) ?_ (fun hHeld0 => ?_)
  · (try dsimp only) <;> (first | exact HS.out)
  refine wpAnyH_take (i := 0) (oi := { dst := Option.some 26, op := Go.Op.move (Go.Operand.tmp 0), type := 67, pos := "ir.go:332", after := #[], guard := Option.none }) (v := ?_) rfl (by kernel_rfl) (by kernel_rfl) (by kernel_rfl) (fun _ _ _ h => h) (Or.inl ⟨by rfl, ?_⟩) (by assumption) ?_
  rotate_left
  · intro w5x hSwx
    try dsimp only at hSwx
    go_simp
    try with_reducible rfl
  try simp only [Act.put, List.setIfInBounds_toArray, List.set_cons_zero, List.set_cons_succ]
  refine wpAnyH_take (i := 1) (oi := { dst := Option.some 27, op := Go.Op.nilCheck (Go.Operand.tmp 26), type := 0, pos := "ir.go:332", after := #[{ on := 0, ground := Go.Ground.data }], guard := Option.none }) (v := ?_) rfl (by kernel_rfl) (by kernel_rfl) (by kernel_rfl) (fun _ _ _ h => h) (Or.inl ⟨by rfl, ?_⟩) (by assumption) ?_
  rotate_left
  · intro w5x hSwx
    try dsimp only at hSwx
    go_simp
    try with_reducible rfl
  try simp only [Act.put, List.setIfInBounds_toArray, List.set_cons_zero, List.set_cons_succ]
  refine wpAnyH_take (i := 2) (oi := { dst := Option.some 28, op := Go.Op.fieldAddr 70 (Go.Operand.tmp 27) 0, type := 0, pos := "ir.go:332", after := #[{ on := 1, ground := Go.Ground.data }], guard := Option.none }) (v := ?_) rfl (by kernel_rfl) (by kernel_rfl) (by kernel_rfl) (fun _ _ _ h => h) (Or.inl ⟨by rfl, ?_⟩) (by assumption) ?_
  rotate_left
  · intro w5x hSwx
    try dsimp only at hSwx
    go_simp
    try with_reducible rfl
  try simp only [Act.put, List.setIfInBounds_toArray, List.set_cons_zero, List.set_cons_succ]
  refine wpAnyH_take (i := 3) (oi := { dst := Option.some 29, op := Go.Op.fieldAddr 25 (Go.Operand.tmp 28) 0, type := 0, pos := "ir.go:332", after := #[{ on := 2, ground := Go.Ground.data }], guard := Option.none }) (v := ?_) rfl (by kernel_rfl) (by kernel_rfl) (by kernel_rfl) (fun _ _ _ h => h) (Or.inl ⟨by rfl, ?_⟩) (by assumption) ?_
  rotate_left
  · intro w5x hSwx
    try dsimp only at hSwx
    go_simp
    try with_reducible rfl
  try simp only [Act.put, List.setIfInBounds_toArray, List.set_cons_zero, List.set_cons_succ]
  refine wpAnyH_take (i := 4) (oi := { dst := Option.some 30, op := Go.Op.load 22 (Go.Operand.tmp 29), type := 22, pos := "ir.go:332", after := #[{ on := 3, ground := Go.Ground.data }], guard := Option.none }) (v := ?_) rfl (by kernel_rfl) (by kernel_rfl) (by kernel_rfl) (fun _ _ _ h => h) (Or.inl ⟨by rfl, ?_⟩) (by assumption) ?_
  rotate_left
  · intro w5x hSwx
    try dsimp only at hSwx
    go_simp
    try with_reducible rfl
  try simp only [Act.put, List.setIfInBounds_toArray, List.set_cons_zero, List.set_cons_succ]
  refine wpAnyH_take (i := 5) (oi := { dst := Option.some 31, op := Go.Op.move (Go.Operand.tmp 0), type := 67, pos := "ir.go:332", after := #[], guard := Option.none }) (v := ?_) rfl (by kernel_rfl) (by kernel_rfl) (by kernel_rfl) (fun _ _ _ h => h) (Or.inl ⟨by rfl, ?_⟩) (by assumption) ?_
  rotate_left
  · intro w5x hSwx
    try dsimp only at hSwx
    go_simp
    try with_reducible rfl
  try simp only [Act.put, List.setIfInBounds_toArray, List.set_cons_zero, List.set_cons_succ]
  refine wpAnyH_take (i := 6) (oi := { dst := Option.some 32, op := Go.Op.nilCheck (Go.Operand.tmp 31), type := 0, pos := "ir.go:332", after := #[{ on := 5, ground := Go.Ground.data }], guard := Option.none }) (v := ?_) rfl (by kernel_rfl) (by kernel_rfl) (by kernel_rfl) (fun _ _ _ h => h) (Or.inl ⟨by rfl, ?_⟩) (by assumption) ?_
  rotate_left
  · intro w5x hSwx
    try dsimp only at hSwx
    go_simp
    try with_reducible rfl
  try simp only [Act.put, List.setIfInBounds_toArray, List.set_cons_zero, List.set_cons_succ]
  refine wpAnyH_take (i := 7) (oi := { dst := Option.some 33, op := Go.Op.fieldAddr 70 (Go.Operand.tmp 32) 1, type := 0, pos := "ir.go:332", after := #[{ on := 6, ground := Go.Ground.data }], guard := Option.none }) (v := ?_) rfl (by kernel_rfl) (by kernel_rfl) (by kernel_rfl) (fun _ _ _ h => h) (Or.inl ⟨by rfl, ?_⟩) (by assumption) ?_
  rotate_left
  · intro w5x hSwx
    try dsimp only at hSwx
    go_simp
    try with_reducible rfl
  try simp only [Act.put, List.setIfInBounds_toArray, List.set_cons_zero, List.set_cons_succ]
  refine wpAnyH_take (i := 8) (oi := { dst := Option.some 34, op := Go.Op.load 68 (Go.Operand.tmp 33), type := 68, pos := "ir.go:332", after := #[{ on := 7, ground := Go.Ground.data }], guard := Option.none }) (v := ?_) rfl (by kernel_rfl) (by kernel_rfl) (by kernel_rfl) (fun _ _ _ h => h) (Or.inl ⟨by rfl, ?_⟩) (by assumption) ?_
  rotate_left
  · intro w5x hSwx
    try dsimp only at hSwx
    go_simp
    try with_reducible rfl
  try simp only [Act.put, List.setIfInBounds_toArray, List.set_cons_zero, List.set_cons_succ]
  refine wpAnyH_take (i := 9) (oi := { dst := Option.some 35, op := Go.Op.fieldAddr 31 (Go.Operand.tmp 8) 1, type := 0, pos := "ir.go:332", after := #[], guard := Option.none }) (v := ?_) rfl (by kernel_rfl) (by kernel_rfl) (by kernel_rfl) (fun _ _ _ h => h) (Or.inl ⟨by rfl, ?_⟩) (by assumption) ?_
  rotate_left
  · intro w5x hSwx
    try dsimp only at hSwx
    go_simp
    try with_reducible rfl
  try simp only [Act.put, List.setIfInBounds_toArray, List.set_cons_zero, List.set_cons_succ]
  refine wpAnyH_take (i := 10) (oi := { dst := Option.some 36, op := Go.Op.load 9 (Go.Operand.tmp 35), type := 9, pos := "ir.go:332", after := #[{ on := 9, ground := Go.Ground.data }], guard := Option.none }) (v := ?_) rfl (by kernel_rfl) (by kernel_rfl) (by kernel_rfl) (fun _ _ _ h => h) (Or.inl ⟨by rfl, ?_⟩) (by assumption) ?_
  rotate_left
  · intro w5x hSwx
    try dsimp only at hSwx
    go_simp
    try with_reducible rfl
  try simp only [Act.put, List.setIfInBounds_toArray, List.set_cons_zero, List.set_cons_succ]
  refine wpAnyH_ready (rs := [11]) (by kernel_rfl) (by simp) ?_
  refine AllReadyH.cons (o := { dst := Option.some 37, op := Go.Op.lookup 68 (Go.Operand.tmp 34) (Go.Operand.tmp 36) Bool.false, type := 3, pos := "ir.go:332", after := #[{ on := 8, ground := Go.Ground.data }, { on := 10, ground := Go.Ground.data }], guard := Option.none }) rfl (fun K hK => ?_) AllReadyH.nil
  go_simp
  refine hK.out _ _ ?_ (fun hHeld3 => ?_)
  · (try dsimp only) <;> (first | exact HS.out)
  clear hK K hHeld0
  try simp only [Act.put, List.setIfInBounds_toArray, List.set_cons_zero, List.set_cons_succ]
  refine wpAnyH_take (i := 12) (oi := { dst := Option.some 38, op := Go.Op.indexAddr 22 (Go.Operand.tmp 30) (Go.Operand.tmp 37), type := 0, pos := "ir.go:332", after := #[{ on := 4, ground := Go.Ground.data }, { on := 11, ground := Go.Ground.data }], guard := Option.none }) (v := ?_) rfl (by kernel_rfl) (by kernel_rfl) (by kernel_rfl) (fun _ _ _ h => h) (Or.inl ⟨by rfl, ?_⟩) (by assumption) ?_
  rotate_left
  · intro w5x hSwx
    try dsimp only at hSwx
    go_simp
    try with_reducible rfl
  try simp only [Act.put, List.setIfInBounds_toArray, List.set_cons_zero, List.set_cons_succ]
  refine wpAnyH_take (i := 13) (oi := { dst := Option.some 39, op := Go.Op.fieldAddr 47 (Go.Operand.tmp 38) 1, type := 0, pos := "ir.go:332", after := #[{ on := 12, ground := Go.Ground.data }], guard := Option.none }) (v := ?_) rfl (by kernel_rfl) (by kernel_rfl) (by kernel_rfl) (fun _ _ _ h => h) (Or.inl ⟨by rfl, ?_⟩) (by assumption) ?_
  rotate_left
  · intro w5x hSwx
    try dsimp only at hSwx
    go_simp
    try with_reducible rfl
  try simp only [Act.put, List.setIfInBounds_toArray, List.set_cons_zero, List.set_cons_succ]
  refine wpAnyH_take (i := 14) (oi := { dst := Option.some 40, op := Go.Op.load 43 (Go.Operand.tmp 39), type := 43, pos := "ir.go:332", after := #[{ on := 13, ground := Go.Ground.data }], guard := Option.none }) (v := ?_) rfl (by kernel_rfl) (by kernel_rfl) (by kernel_rfl) (fun _ _ _ h => h) (Or.inl ⟨by rfl, ?_⟩) (by assumption) ?_
  rotate_left
  · intro w5x hSwx
    try dsimp only at hSwx
    go_simp
    try with_reducible rfl
  try simp only [Act.put, List.setIfInBounds_toArray, List.set_cons_zero, List.set_cons_succ]
  refine wpAnyH_take (i := 15) (oi := { dst := Option.some 9, op := Go.Op.assign (Go.Operand.tmp 40), type := 43, pos := "ir.go:332", after := #[{ on := 14, ground := Go.Ground.data }, { on := 0, ground := Go.Ground.phase }, { on := 1, ground := Go.Ground.phase }, { on := 2, ground := Go.Ground.phase }, { on := 3, ground := Go.Ground.phase }, { on := 4, ground := Go.Ground.phase }, { on := 5, ground := Go.Ground.phase }, { on := 6, ground := Go.Ground.phase }, { on := 7, ground := Go.Ground.phase }, { on := 8, ground := Go.Ground.phase }, { on := 9, ground := Go.Ground.phase }, { on := 10, ground := Go.Ground.phase }, { on := 11, ground := Go.Ground.phase }, { on := 12, ground := Go.Ground.phase }, { on := 13, ground := Go.Ground.phase }, { on := 14, ground := Go.Ground.phase }], guard := Option.none }) (v := ?_) rfl (by kernel_rfl) (by kernel_rfl) (by kernel_rfl) (fun _ _ _ h => h) (Or.inl ⟨by rfl, ?_⟩) (by assumption) ?_
  rotate_left
  · intro w5x hSwx
    try dsimp only at hSwx
    go_simp
    try with_reducible rfl
  try simp only [Act.put, List.setIfInBounds_toArray, List.set_cons_zero, List.set_cons_succ]
  refine wpAnyH_done (by kernel_rfl) ?_ _
  go_wp2
  have hf := fun o => two_set (lay (below1 w1 o) HR1.out)
  exact bodyPost_ret (v := .tuple #[.agg #[.bool false, .string ⟨#[]⟩], .int .i64 15]) (by simp [results, Try.results83, go_sem, hf]) rfl ⟨rfl, hid (((after HB1.out (below1 _ _) HB1.out.size).setCell (by simp) _).setCell (by simp) _).drew⟩
set_option maxRecDepth 100000 in
set_option maxHeartbeats 8000000 in
theorem field_in (p : JP) (J : Nat) (op d b tt el f n l c : Int) (k ki : Nat) (nm : ByteArray) (s : StD) (sg : ByteArray) (xs ms : List Int) (v : Int) (ao mo : Option Addr) (ac mc : Nat) (w : World) (hj : JG w J p) (hD : p.D = mapN (p.ss.map (·.nm)) (p.ss.map (·.nm)).length) (nd : dup (keysOf (p.ss.map (·.nm))) = false) (e : (inN p.x.vs.length k && inN p.x.vs.length v) = true) (hv : KindIs p.x k true nm) (hs : p.ss[ki]? = some s) (hnm : s.nm = nm) (hz : nm.size ≤ maxLen) (kf : Nat) (u : FdD) (hfk : f = kf) (hu : s.fs[kf]? = some u) :
    Calls Try.prog 83 #[.pointer (some ⟨J, 0, none⟩), .agg (InV ⟨op, d, k, b, tt, el, f, n, l, c, sg, xs, ms⟩ ao ac mo mc), .int .i64 v] w fun e w' => e = .returned (.tuple #[.agg #[.bool u.t.p, .string u.t.name], .int .i64 0]) ∧ Hid (Below w.heap.size w w') := by
  have HJ := hid (fun W (hb : Below w.heap.size w W) => hj.later hb)
  have HB := hid (below3a w)
  have HX := hid (fun o q => box3a w (InV ⟨op, d, k, b, tt, el, f, n, l, c, sg, xs, ms⟩ ao ac mo mc) 49 o q)
  have HR := hid (fun o q => box3b w #[.bool false, .string ⟨#[]⟩] 31 o q)
  have HV := hid hv
  obtain ⟨bs, os, hsa, hbs, fa, fc, hcs, hfs⟩ := hj.st.2 ki s hs
  obtain ⟨m, hm⟩ : ∃ m, s.fs.length = m := ⟨_, rfl⟩
  have hm9 : m ≤ 9223372036854775807 := hm ▸ hfs.1
  have hn1 : w.cell? ⟨bs, os + ki * 4 + 1, none⟩ = some (.slice fa m fc) := by rw [← hm]; exact hcs 1 _ rfl
  have HL := hid (fun W (hb : Below w.heap.size w W) => look_name (p.ss.map (·.nm)) nm ki (hD ▸ (hj.later hb).mp) nd (by rw [List.getElem?_map, hs, ← hnm]; rfl) hz)
  have HJO := hid (fun W (hb : Below w.heap.size w W) => (show ∀ i, W.cell? ⟨J, i, none⟩ = (#[.slice (some ⟨bs, os, none⟩) p.ss.length p.sc, .slice p.ca p.cs.length p.cc, .map (some p.B), .string p.x.nm, .int .i64 p.x.pr, .slice p.va p.x.vs.length p.vc, .bool p.x.rt.t.p, .string p.x.rt.t.name, .int .i64 p.x.rt.cls, .slice p.fa p.x.fr.length p.fc, .slice p.ia p.x.ins.length p.ic] : Array Value)[i]? from by have h := cells_at (hj.later hb).j; simp only [JP.obj, hsa] at h; exact h))
  have HN1 := hid hn1
  have HF := hid (fun W (hb : Below w.heap.size w W) => hfs.later fd_stays hb)
  have HM := hid hm
  have hlt : ki < p.ss.length := (List.getElem?_eq_some_iff.1 hs).1
  have i1 : (0 : Int) ≤ (ki : Int) := by omega
  have i2 : (ki : Int) < (p.ss.length : Int) := by omega
  have hl9 : (p.ss.length : Int) ≤ 9223372036854775807 := by have := hj.st.1; omega
  subst hfk
  obtain ⟨bf, of, hfa, hbf, hcu⟩ := hfs.2 kf u hu
  subst hfa
  have hu1 : w.cell? ⟨bf, of + kf * 5 + 1, none⟩ = some (.bool u.t.p) := hcu 1 _ rfl
  have hu2 : w.cell? ⟨bf, of + kf * 5 + 2, none⟩ = some (.string u.t.name) := hcu 2 _ rfl
  have HU1 := hid hu1
  have HU2 := hid hu2
  have hkm : kf < m := by rw [← hm]; exact (List.getElem?_eq_some_iff.1 hu).1
  have j1 : (0 : Int) ≤ (kf : Int) := by omega
  have j2 : (kf : Int) < (m : Int) := by omega
  have j3 : ¬ (kf : Int) < 0 := by omega
  have j4 : ¬ (m : Int) ≤ (kf : Int) := by omega
  clear hu hcu hu1 hu2
  clear hj hv hD nd hs hnm hz hsa hbs hcs hfs hn1 hlt hm
  go_enter Try.func83, Try.ntmps83
  go_wp2_with (first
    | (go_at_call 74; refine (there_2 p k v _ _ _ _ (new_cell3a _ _ _ _ _ _) (new_cell3b _ _ _ _ _ _) (HJ.out _ (HB.out _ _ _)) e).mono ?_; rintro e w' ⟨rfl, rfl⟩)
    | (go_at_call 76; refine (kind_j p k _ _ _ _ (HJ.out _ (HB.out _ _ _)) HV.out).mono ?_; rintro e w1 ⟨rfl, hb1⟩; have HB1 := hid (after (HB.out _ _ _) hb1.out (HB.out _ _ _).size); have HX1 := hid (lay hb1.out (HX.out _ _)); have HR1 := hid (lay hb1.out (HR.out _ _)); have hx1 := fun o => cells_at1 HX1.out o; have hr1 := fun o => cells_at1 HR1.out o; have hf1 := fun o i => frozen_no (lay (below1 w1 o) HR1.out) i; have hs1 := fun o x => one_set (lay (below1 w1 o) HR1.out) x))
  have HB2 := hid ((after HB1.out (below1 w1 (.cells #[.bool true, .string nm] 31)) HB1.out.size).drew)
  have HS := hid (And.intro (HJO.out _ HB2.out) (And.intro (show ((w1.alloc (.cells #[.bool true, .string nm] 31)).drew).cell? ⟨w1.heap.size, 1, none⟩ = some (.string nm) from cells_at (heap_alloc_new w1 _) 1) (And.intro (HL.out _ HB2.out) (cell_keep HB2.out (cell_lt HN1.out) HN1.out))))
  refine wp_region_held_drew (S := fun W => (∀ i, W.cell? ⟨J, i, none⟩ = (#[.slice (some ⟨bs, os, none⟩) p.ss.length p.sc, .slice p.ca p.cs.length p.cc, .map (some p.B), .string p.x.nm, .int .i64 p.x.pr, .slice p.va p.x.vs.length p.vc, .bool p.x.rt.t.p, .string p.x.rt.t.name, .int .i64 p.x.rt.cls, .slice p.fa p.x.fr.length p.fc, .slice p.ia p.x.ins.length p.ic] : Array Value)[i]?) ∧ W.cell? ⟨w1.heap.size, 1, none⟩ = some (.string nm) ∧ (Instr.lookup 68 (.map (some p.B)) (.string nm) false).run Try.prog W = .ok (.int .i64 ki) W ∧ W.cell? ⟨bs, os + ki * 4 + 1, none⟩ = some (.slice (some ⟨bf, of, none⟩) m fc)) (by kernel_rfl) ?_ (fun hHeld0 => ?_)
  · (try dsimp only) <;> (first | exact HS.out)
  refine wpAnyH_take (i := 0) (oi := { dst := Option.some 26, op := Go.Op.move (Go.Operand.tmp 0), type := 67, pos := "ir.go:332", after := #[], guard := Option.none }) (v := ?_) rfl (by kernel_rfl) (by kernel_rfl) (by kernel_rfl) (fun _ _ _ h => h) (Or.inl ⟨by rfl, ?_⟩) (by assumption) ?_
  rotate_left
  · intro w5x hSwx
    try dsimp only at hSwx
    go_simp
    try with_reducible rfl
  try simp only [Act.put, List.setIfInBounds_toArray, List.set_cons_zero, List.set_cons_succ]
  refine wpAnyH_take (i := 1) (oi := { dst := Option.some 27, op := Go.Op.nilCheck (Go.Operand.tmp 26), type := 0, pos := "ir.go:332", after := #[{ on := 0, ground := Go.Ground.data }], guard := Option.none }) (v := ?_) rfl (by kernel_rfl) (by kernel_rfl) (by kernel_rfl) (fun _ _ _ h => h) (Or.inl ⟨by rfl, ?_⟩) (by assumption) ?_
  rotate_left
  · intro w5x hSwx
    try dsimp only at hSwx
    go_simp
    try with_reducible rfl
  try simp only [Act.put, List.setIfInBounds_toArray, List.set_cons_zero, List.set_cons_succ]
  refine wpAnyH_take (i := 2) (oi := { dst := Option.some 28, op := Go.Op.fieldAddr 70 (Go.Operand.tmp 27) 0, type := 0, pos := "ir.go:332", after := #[{ on := 1, ground := Go.Ground.data }], guard := Option.none }) (v := ?_) rfl (by kernel_rfl) (by kernel_rfl) (by kernel_rfl) (fun _ _ _ h => h) (Or.inl ⟨by rfl, ?_⟩) (by assumption) ?_
  rotate_left
  · intro w5x hSwx
    try dsimp only at hSwx
    go_simp
    try with_reducible rfl
  try simp only [Act.put, List.setIfInBounds_toArray, List.set_cons_zero, List.set_cons_succ]
  refine wpAnyH_take (i := 3) (oi := { dst := Option.some 29, op := Go.Op.fieldAddr 25 (Go.Operand.tmp 28) 0, type := 0, pos := "ir.go:332", after := #[{ on := 2, ground := Go.Ground.data }], guard := Option.none }) (v := ?_) rfl (by kernel_rfl) (by kernel_rfl) (by kernel_rfl) (fun _ _ _ h => h) (Or.inl ⟨by rfl, ?_⟩) (by assumption) ?_
  rotate_left
  · intro w5x hSwx
    try dsimp only at hSwx
    go_simp
    try with_reducible rfl
  try simp only [Act.put, List.setIfInBounds_toArray, List.set_cons_zero, List.set_cons_succ]
  refine wpAnyH_take (i := 4) (oi := { dst := Option.some 30, op := Go.Op.load 22 (Go.Operand.tmp 29), type := 22, pos := "ir.go:332", after := #[{ on := 3, ground := Go.Ground.data }], guard := Option.none }) (v := ?_) rfl (by kernel_rfl) (by kernel_rfl) (by kernel_rfl) (fun _ _ _ h => h) (Or.inl ⟨by rfl, ?_⟩) (by assumption) ?_
  rotate_left
  · intro w5x hSwx
    try dsimp only at hSwx
    go_simp
    try with_reducible rfl
  try simp only [Act.put, List.setIfInBounds_toArray, List.set_cons_zero, List.set_cons_succ]
  refine wpAnyH_take (i := 5) (oi := { dst := Option.some 31, op := Go.Op.move (Go.Operand.tmp 0), type := 67, pos := "ir.go:332", after := #[], guard := Option.none }) (v := ?_) rfl (by kernel_rfl) (by kernel_rfl) (by kernel_rfl) (fun _ _ _ h => h) (Or.inl ⟨by rfl, ?_⟩) (by assumption) ?_
  rotate_left
  · intro w5x hSwx
    try dsimp only at hSwx
    go_simp
    try with_reducible rfl
  try simp only [Act.put, List.setIfInBounds_toArray, List.set_cons_zero, List.set_cons_succ]
  refine wpAnyH_take (i := 6) (oi := { dst := Option.some 32, op := Go.Op.nilCheck (Go.Operand.tmp 31), type := 0, pos := "ir.go:332", after := #[{ on := 5, ground := Go.Ground.data }], guard := Option.none }) (v := ?_) rfl (by kernel_rfl) (by kernel_rfl) (by kernel_rfl) (fun _ _ _ h => h) (Or.inl ⟨by rfl, ?_⟩) (by assumption) ?_
  rotate_left
  · intro w5x hSwx
    try dsimp only at hSwx
    go_simp
    try with_reducible rfl
  try simp only [Act.put, List.setIfInBounds_toArray, List.set_cons_zero, List.set_cons_succ]
  refine wpAnyH_take (i := 7) (oi := { dst := Option.some 33, op := Go.Op.fieldAddr 70 (Go.Operand.tmp 32) 1, type := 0, pos := "ir.go:332", after := #[{ on := 6, ground := Go.Ground.data }], guard := Option.none }) (v := ?_) rfl (by kernel_rfl) (by kernel_rfl) (by kernel_rfl) (fun _ _ _ h => h) (Or.inl ⟨by rfl, ?_⟩) (by assumption) ?_
  rotate_left
  · intro w5x hSwx
    try dsimp only at hSwx
    go_simp
    try with_reducible rfl
  try simp only [Act.put, List.setIfInBounds_toArray, List.set_cons_zero, List.set_cons_succ]
  refine wpAnyH_take (i := 8) (oi := { dst := Option.some 34, op := Go.Op.load 68 (Go.Operand.tmp 33), type := 68, pos := "ir.go:332", after := #[{ on := 7, ground := Go.Ground.data }], guard := Option.none }) (v := ?_) rfl (by kernel_rfl) (by kernel_rfl) (by kernel_rfl) (fun _ _ _ h => h) (Or.inl ⟨by rfl, ?_⟩) (by assumption) ?_
  rotate_left
  · intro w5x hSwx
    try dsimp only at hSwx
    go_simp
    try with_reducible rfl
  try simp only [Act.put, List.setIfInBounds_toArray, List.set_cons_zero, List.set_cons_succ]
  refine wpAnyH_take (i := 9) (oi := { dst := Option.some 35, op := Go.Op.fieldAddr 31 (Go.Operand.tmp 8) 1, type := 0, pos := "ir.go:332", after := #[], guard := Option.none }) (v := ?_) rfl (by kernel_rfl) (by kernel_rfl) (by kernel_rfl) (fun _ _ _ h => h) (Or.inl ⟨by rfl, ?_⟩) (by assumption) ?_
  rotate_left
  · intro w5x hSwx
    try dsimp only at hSwx
    go_simp
    try with_reducible rfl
  try simp only [Act.put, List.setIfInBounds_toArray, List.set_cons_zero, List.set_cons_succ]
  refine wpAnyH_take (i := 10) (oi := { dst := Option.some 36, op := Go.Op.load 9 (Go.Operand.tmp 35), type := 9, pos := "ir.go:332", after := #[{ on := 9, ground := Go.Ground.data }], guard := Option.none }) (v := ?_) rfl (by kernel_rfl) (by kernel_rfl) (by kernel_rfl) (fun _ _ _ h => h) (Or.inl ⟨by rfl, ?_⟩) (by assumption) ?_
  rotate_left
  · intro w5x hSwx
    try dsimp only at hSwx
    go_simp
    try with_reducible rfl
  try simp only [Act.put, List.setIfInBounds_toArray, List.set_cons_zero, List.set_cons_succ]
  refine wpAnyH_ready (rs := [11]) (by kernel_rfl) (by simp) ?_
  refine AllReadyH.cons (o := { dst := Option.some 37, op := Go.Op.lookup 68 (Go.Operand.tmp 34) (Go.Operand.tmp 36) Bool.false, type := 3, pos := "ir.go:332", after := #[{ on := 8, ground := Go.Ground.data }, { on := 10, ground := Go.Ground.data }], guard := Option.none }) rfl (fun K hK => ?_) AllReadyH.nil
  go_simp
  refine hK.out _ _ ?_ (fun hHeld3 => ?_)
  · (try dsimp only) <;> (first | exact HS.out)
  clear hK K hHeld0
  try simp only [Act.put, List.setIfInBounds_toArray, List.set_cons_zero, List.set_cons_succ]
  refine wpAnyH_take (i := 12) (oi := { dst := Option.some 38, op := Go.Op.indexAddr 22 (Go.Operand.tmp 30) (Go.Operand.tmp 37), type := 0, pos := "ir.go:332", after := #[{ on := 4, ground := Go.Ground.data }, { on := 11, ground := Go.Ground.data }], guard := Option.none }) (v := ?_) rfl (by kernel_rfl) (by kernel_rfl) (by kernel_rfl) (fun _ _ _ h => h) (Or.inl ⟨by rfl, ?_⟩) (by assumption) ?_
  rotate_left
  · intro w5x hSwx
    try dsimp only at hSwx
    go_simp
    try with_reducible rfl
  try simp only [Act.put, List.setIfInBounds_toArray, List.set_cons_zero, List.set_cons_succ]
  refine wpAnyH_take (i := 13) (oi := { dst := Option.some 39, op := Go.Op.fieldAddr 47 (Go.Operand.tmp 38) 1, type := 0, pos := "ir.go:332", after := #[{ on := 12, ground := Go.Ground.data }], guard := Option.none }) (v := ?_) rfl (by kernel_rfl) (by kernel_rfl) (by kernel_rfl) (fun _ _ _ h => h) (Or.inl ⟨by rfl, ?_⟩) (by assumption) ?_
  rotate_left
  · intro w5x hSwx
    try dsimp only at hSwx
    go_simp
    try with_reducible rfl
  try simp only [Act.put, List.setIfInBounds_toArray, List.set_cons_zero, List.set_cons_succ]
  refine wpAnyH_take (i := 14) (oi := { dst := Option.some 40, op := Go.Op.load 43 (Go.Operand.tmp 39), type := 43, pos := "ir.go:332", after := #[{ on := 13, ground := Go.Ground.data }], guard := Option.none }) (v := ?_) rfl (by kernel_rfl) (by kernel_rfl) (by kernel_rfl) (fun _ _ _ h => h) (Or.inl ⟨by rfl, ?_⟩) (by assumption) ?_
  rotate_left
  · intro w5x hSwx
    try dsimp only at hSwx
    go_simp
    try with_reducible rfl
  try simp only [Act.put, List.setIfInBounds_toArray, List.set_cons_zero, List.set_cons_succ]
  refine wpAnyH_take (i := 15) (oi := { dst := Option.some 9, op := Go.Op.assign (Go.Operand.tmp 40), type := 43, pos := "ir.go:332", after := #[{ on := 14, ground := Go.Ground.data }, { on := 0, ground := Go.Ground.phase }, { on := 1, ground := Go.Ground.phase }, { on := 2, ground := Go.Ground.phase }, { on := 3, ground := Go.Ground.phase }, { on := 4, ground := Go.Ground.phase }, { on := 5, ground := Go.Ground.phase }, { on := 6, ground := Go.Ground.phase }, { on := 7, ground := Go.Ground.phase }, { on := 8, ground := Go.Ground.phase }, { on := 9, ground := Go.Ground.phase }, { on := 10, ground := Go.Ground.phase }, { on := 11, ground := Go.Ground.phase }, { on := 12, ground := Go.Ground.phase }, { on := 13, ground := Go.Ground.phase }, { on := 14, ground := Go.Ground.phase }], guard := Option.none }) (v := ?_) rfl (by kernel_rfl) (by kernel_rfl) (by kernel_rfl) (fun _ _ _ h => h) (Or.inl ⟨by rfl, ?_⟩) (by assumption) ?_
  rotate_left
  · intro w5x hSwx
    try dsimp only at hSwx
    go_simp
    try with_reducible rfl
  try simp only [Act.put, List.setIfInBounds_toArray, List.set_cons_zero, List.set_cons_succ]
  refine wpAnyH_done (by kernel_rfl) ?_ _
  have g1 := fun o => cell_keep (after HB1.out (below1 w1 o) HB1.out.size) (cell_lt HU1.out) HU1.out
  have g2 := fun o => cell_keep (after HB1.out (below1 w1 o) HB1.out.size) (cell_lt HU2.out) HU2.out
  go_wp2
  have hf := fun o => two_set (lay (below1 w1 o) HR1.out)
  exact bodyPost_ret (v := .tuple #[.agg #[.bool u.t.p, .string u.t.name], .int .i64 0]) (by simp [results, Try.results83, go_sem, hf]) rfl ⟨rfl, hid (((after HB1.out (below1 _ _) HB1.out.size).setCell (by simp) _).setCell (by simp) _).drew⟩
end Go.Proofs.Ytfhdiahjfnphkaa
/- A field that an instruction names, and what a load and a store ask. No conditions. -/
namespace Go.Proofs.Ytfhdiahjfnphkaa
open Go.RowKit Go.Maps
set_option linter.unusedVariables false
set_option linter.unusedSimpArgs false
theorem idx_get {α : Type} {q : α → Bool} : ∀ {l : List α} {k : Int}, 0 ≤ k → 0 ≤ idxL q l k → ∃ (i : Nat) (x : α), l[i]? = some x ∧ q x = true ∧ idxL q l k = k + i
  | [], k, _, h => by simp [idxL] at h
  | x :: l, k, hk, h => by
    unfold idxL at h
    by_cases e : q x = true
    · exact ⟨0, x, rfl, e, by simp [idxL, e]⟩
    · rw [if_neg e] at h
      obtain ⟨i, y, h1, h2, h3⟩ := idx_get (k := k + 1) (by omega) h
      exact ⟨i + 1, y, by simpa using h1, h2, by rw [idxL, if_neg e, h3]; push_cast; omega⟩
theorem bytes_eq {a b : ByteArray} (h : (a.toList == b.toList) = true) : a = b := by
  have h' : a.toList = b.toList := by simpa using h
  rw [ByteArray.toList_eq, ByteArray.toList_eq] at h'
  cases a
  cases b
  simpa [Array.toList_inj] using h'
structure KO (p : JP) : Prop where
  D : p.D = mapN (p.ss.map (·.nm)) (p.ss.map (·.nm)).length
  nd : dup (keysOf (p.ss.map (·.nm))) = false
  kn : ∀ v ∈ p.x.vs, badB p.ss v.t = false
  sz : ∀ u ∈ p.ss, u.nm.size ≤ maxLen
theorem KO.found {p : JP} (h : KO p) {k : Nat} {nm : ByteArray} (hv : KindIs p.x k true nm) : ∃ (ki : Nat) (s : StD), p.ss[ki]? = some s ∧ s.nm = nm ∧ idxL (stN nm) p.ss 0 = ki := by
  obtain ⟨v, h1, h2⟩ := hv
  have h3 := h.kn v (List.mem_of_getElem? h1)
  rw [h2] at h3
  simp only [badB, Bool.true_and, Bool.not_true, Bool.false_and, Bool.or_false, decide_eq_false_iff_not] at h3
  obtain ⟨i, s, e1, e2, e3⟩ := idx_get (q := stN nm) (l := p.ss) (k := 0) (by omega) (by omega)
  exact ⟨i, s, e1, bytes_eq e2, by omega⟩
theorem field_g (p : JP) (J : Nat) (r : InD) (v : Int) (ao mo : Option Addr) (ac mc : Nat) (w : World) (hj : JG w J p) (hk : KO p) :
    Calls Try.prog 83 #[.pointer (some ⟨J, 0, none⟩), .agg (InV r ao ac mo mc), .int .i64 v] w fun e w' => e = .returned (.tuple #[.agg #[.bool (fieldF p.ss p.x r v).1.p, .string (fieldF p.ss p.x r v).1.name], .int .i64 (fieldF p.ss p.x r v).2]) ∧ Hid (Below w.heap.size w w') := by
  cases e : (inN p.x.vs.length r.a && inN p.x.vs.length v)
  · have hf : fieldF p.ss p.x r v = (⟨false, ⟨#[]⟩⟩, 15) := by simp only [fieldF, e]; rfl
    rw [hf]
    exact field_out p J r v ao mo ac mc w hj e
  · obtain ⟨op, d, a, b, tt, el, f, n, l, c, sg, xs, ms⟩ := r
    have e' := e
    rw [Bool.and_eq_true] at e'
    obtain ⟨k, pp, nm, ha, hv, ht⟩ := inN_get e'.1
    simp only at ha
    subst ha
    cases pp
    · have hf : fieldF p.ss p.x ⟨op, d, (k : Int), b, tt, el, f, n, l, c, sg, xs, ms⟩ v = (⟨false, ⟨#[]⟩⟩, 7) := by rw [fieldF, if_pos e, ht]; rfl
      rw [hf]
      exact field_no p J op d b tt el f n l c k nm sg xs ms v ao mo ac mc w hj e hv
    · obtain ⟨ki, s, hs, hnm, hi⟩ := hk.found hv
      have hz : nm.size ≤ maxLen := hnm ▸ hk.sz s (List.mem_of_getElem? hs)
      have hfs : fieldsAt p.ss nm = s.fs := by simp [fieldsAt, hi, hs]
      by_cases h0 : f < 0
      · have hf : fieldF p.ss p.x ⟨op, d, (k : Int), b, tt, el, f, n, l, c, sg, xs, ms⟩ v = (⟨false, ⟨#[]⟩⟩, 15) := by rw [fieldF, if_pos e, ht, if_pos rfl, if_neg (by simp only; omega)]
        rw [hf]
        exact field_neg p J op d b tt el f n l c k ki nm s sg xs ms v ao mo ac mc w hj hk.D hk.nd e hv hs hnm hz h0
      · by_cases h1 : (s.fs.length : Int) ≤ f
        · have hf : fieldF p.ss p.x ⟨op, d, (k : Int), b, tt, el, f, n, l, c, sg, xs, ms⟩ v = (⟨false, ⟨#[]⟩⟩, 15) := by
            rw [fieldF, if_pos e, ht, if_pos rfl, if_pos (by simp only; omega)]
            simp only [hfs]
            rw [List.getElem?_eq_none (by omega)]
          rw [hf]
          exact field_big p J op d b tt el f n l c k ki nm s sg xs ms v ao mo ac mc w hj hk.D hk.nd e hv hs hnm hz h0 h1
        · obtain ⟨u, hu⟩ := get_some (l := s.fs) (i := f.toNat) rfl (by omega)
          have hf : fieldF p.ss p.x ⟨op, d, (k : Int), b, tt, el, f, n, l, c, sg, xs, ms⟩ v = (u.t, 0) := by
            rw [fieldF, if_pos e, ht, if_pos rfl, if_pos (by simp only; omega)]
            simp only [hfs, hu]
          rw [hf]
          exact field_in p J op d b tt el f n l c k ki nm s sg xs ms v ao mo ac mc w hj hk.D hk.nd e hv hs hnm hz f.toNat u (by omega) hu
end Go.Proofs.Ytfhdiahjfnphkaa
