/- A field, by the reference. No conditions. -/
import Derived.Test.YtfhdiahjfnphkaaCR18
import Derived.Test.YtfhdiahjfnphkaaCR19
namespace Go.Proofs.Ytfhdiahjfnphkaa
open Go.RowKit Go.Maps
set_option linter.unusedVariables false
set_option linter.unusedSimpArgs false
set_option maxRecDepth 100000 in
set_option maxHeartbeats 8000000 in
theorem rfield_no (ss : List StD) (n m : Nat) (hn : ss.length = n) (sa ca : Option Addr) (sc cc : Nat) (x : CoD) (va fa ia : Option Addr) (vc fc ic : Nat) (k : Nat) (f : Int) (nm : ByteArray) (w : World) (hS : RowM 4 StAt w sa ss) (hC : RowM 3 VaAt w va x.vs) (hv : KindIs x k false nm)  :
    Calls Try.prog 73 #[.agg #[.slice sa n sc, .slice ca m cc], .agg (CoV x va vc fa fc ia ic), .int .i64 k, .int .i64 f] w fun e w' => e = .returned (.tuple #[.agg #[.bool false, .string ⟨#[]⟩], .int .i64 7]) ∧ Hid (Below w.heap.size w w') := by
  obtain ⟨v, hv1, hv2⟩ := hv
  obtain ⟨bv, ov, hva, hbv, hcv⟩ := hC.2 k v hv1
  subst hva
  have v0 : w.cell? ⟨bv, ov + k * 3, none⟩ = some (.bool false) := by have := hcv 0 (.bool v.t.p) rfl; rw [hv2] at this; exact this
  have v1 : w.cell? ⟨bv, ov + k * 3 + 1, none⟩ = some (.string nm) := by have := hcv 1 (.string v.t.name) rfl; rw [hv2] at this; exact this
  have hkv : k < x.vs.length := (List.getElem?_eq_some_iff.1 hv1).1
  have k0 : (0 : Int) ≤ (k : Int) := by omega
  have k1 : (k : Int) < (x.vs.length : Int) := by omega
  have k2 : (x.vs.length : Int) ≤ 9223372036854775807 := by have := hC.1; omega
  have c0 := fun o p q => cell_keep (below3a w o p q) (cell_lt v0) v0
  have c1 := fun o p q => cell_keep (below3a w o p q) (cell_lt v1) v1
  clear hS hC hv1 hv2 hcv v0 v1 hkv hbv
  go_enter Try.func73, Try.ntmps73
  go_wp2
  exact bodyPost_ret (v := .tuple #[.agg #[.bool false, .string ⟨#[]⟩], .int .i64 7]) (by simp [results, Try.results73, go_sem]) rfl ⟨rfl, hid ((below3a _ _ _ _).alloc (by simp; omega) _)⟩
theorem chain4 (w : World) (a1 a2 a3 a4 : Array Value) (t1 t2 t3 t4 : TypeId) :
    ((((w.alloc (.cells a1 t1)).alloc (.cells a2 t2)).alloc (.cells a3 t3)).alloc (.cells a4 t4)).heap[w.heap.size]? = some (.cells a1 t1 (0, 0)) ∧
    ((((w.alloc (.cells a1 t1)).alloc (.cells a2 t2)).alloc (.cells a3 t3)).alloc (.cells a4 t4)).heap[w.heap.size + 1 + 1]? = some (.cells a3 t3 (0, 0)) ∧
    ((((w.alloc (.cells a1 t1)).alloc (.cells a2 t2)).alloc (.cells a3 t3)).alloc (.cells a4 t4)).heap[w.heap.size + 1 + 1 + 1]? = some (.cells a4 t4 (0, 0)) := by
  refine ⟨lay (below3a _ _ _ _) (heap_alloc_new w _), ?_, ?_⟩
  · have h := lay (below1 _ (.cells a4 t4)) (heap_alloc_new ((w.alloc (.cells a1 t1)).alloc (.cells a2 t2)) (.cells a3 t3))
    rwa [World.size_alloc, World.size_alloc] at h
  · have h := heap_alloc_new (((w.alloc (.cells a1 t1)).alloc (.cells a2 t2)).alloc (.cells a3 t3)) (.cells a4 t4)
    rwa [World.size_alloc, World.size_alloc, World.size_alloc] at h
set_option maxRecDepth 100000 in
set_option maxHeartbeats 8000000 in
theorem rfield_neg (ss : List StD) (n m : Nat) (hn : ss.length = n) (sa ca : Option Addr) (sc cc : Nat) (x : CoD) (va fa ia : Option Addr) (vc fc ic : Nat) (k : Nat) (f : Int) (nm : ByteArray) (w : World) (hS : RowM 4 StAt w sa ss) (hC : RowM 3 VaAt w va x.vs) (hv : KindIs x k true nm) (ki : Nat) (s : StD) (hs : ss[ki]? = some s) (hi : idxL (stN nm) ss 0 = ki) (hf0 : f < 0) :
    Calls Try.prog 73 #[.agg #[.slice sa n sc, .slice ca m cc], .agg (CoV x va vc fa fc ia ic), .int .i64 k, .int .i64 f] w fun e w' => e = .returned (.tuple #[.agg #[.bool false, .string ⟨#[]⟩], .int .i64 15]) ∧ Hid (Below w.heap.size w w') := by
  obtain ⟨v, hv1, hv2⟩ := hv
  obtain ⟨bv, ov, hva, hbv, hcv⟩ := hC.2 k v hv1
  subst hva
  have v0 : w.cell? ⟨bv, ov + k * 3, none⟩ = some (.bool true) := by have := hcv 0 (.bool v.t.p) rfl; rw [hv2] at this; exact this
  have v1 : w.cell? ⟨bv, ov + k * 3 + 1, none⟩ = some (.string nm) := by have := hcv 1 (.string v.t.name) rfl; rw [hv2] at this; exact this
  have hkv : k < x.vs.length := (List.getElem?_eq_some_iff.1 hv1).1
  have k0 : (0 : Int) ≤ (k : Int) := by omega
  have k1 : (k : Int) < (x.vs.length : Int) := by omega
  have k2 : (x.vs.length : Int) ≤ 9223372036854775807 := by have := hC.1; omega
  have c0 := fun o p q => cell_keep (below3a w o p q) (cell_lt v0) v0
  have c1 := fun o p q => cell_keep (below3a w o p q) (cell_lt v1) v1
  obtain ⟨bs, os, hsa, hbs, fa2, fc2, hcs, hfs⟩ := hS.2 ki s hs
  subst hsa
  obtain ⟨q, hm⟩ : ∃ m, s.fs.length = m := ⟨_, rfl⟩
  have hm9 : q ≤ 9223372036854775807 := hm ▸ hfs.1
  have hn1 : w.cell? ⟨bs, os + ki * 4 + 1, none⟩ = some (.slice fa2 q fc2) := by rw [← hm]; exact hcs 1 _ rfl
  have hlt : ki < ss.length := (List.getElem?_eq_some_iff.1 hs).1
  have i1 : (0 : Int) ≤ (ki : Int) := by omega
  have i2 : (ki : Int) < (n : Int) := by omega
  have i3 : (n : Int) ≤ 9223372036854775807 := by have := hS.1; omega
  have HN := hid hn
  have HI := hid hi
  have HSS := hid (fun W (hb : Below w.heap.size w W) => hS.later st_stays hb)
  have HB4 := hid ((below3a w (.cells #[.slice (some ⟨bs, os, none⟩) n sc, .slice ca m cc] 25) (.cells (CoV x (some ⟨bv, ov, none⟩) vc fa fc ia ic) 37) (.cells #[.bool false, .string ⟨#[]⟩] 31)).alloc (by simp; omega) (.cells #[.bool true, .string nm] 31)).drew
  have HC4 := hid (chain4 w #[.slice (some ⟨bs, os, none⟩) n sc, .slice ca m cc] (CoV x (some ⟨bv, ov, none⟩) vc fa fc ia ic) #[.bool false, .string ⟨#[]⟩] #[.bool true, .string nm] 25 37 31 31)
  have HN1 := hid hn1
  have HDc := hid (Below.refl ((((w.alloc (.cells #[.slice (some ⟨bs, os, none⟩) n sc, .slice ca m cc] 25)).alloc (.cells (CoV x (some ⟨bv, ov, none⟩) vc fa fc ia ic) 37)).alloc (.cells #[.bool false, .string ⟨#[]⟩] 31)).alloc (.cells #[.bool true, .string nm] 31)).drew.heap.size ((((w.alloc (.cells #[.slice (some ⟨bs, os, none⟩) n sc, .slice ca m cc] 25)).alloc (.cells (CoV x (some ⟨bv, ov, none⟩) vc fa fc ia ic) 37)).alloc (.cells #[.bool false, .string ⟨#[]⟩] 31)).alloc (.cells #[.bool true, .string nm] 31)).drew)
  have HKp := hid (fun W (hb : Below ((((w.alloc (.cells #[.slice (some ⟨bs, os, none⟩) n sc, .slice ca m cc] 25)).alloc (.cells (CoV x (some ⟨bv, ov, none⟩) vc fa fc ia ic) 37)).alloc (.cells #[.bool false, .string ⟨#[]⟩] 31)).alloc (.cells #[.bool true, .string nm] 31)).drew.heap.size ((((w.alloc (.cells #[.slice (some ⟨bs, os, none⟩) n sc, .slice ca m cc] 25)).alloc (.cells (CoV x (some ⟨bv, ov, none⟩) vc fa fc ia ic) 37)).alloc (.cells #[.bool false, .string ⟨#[]⟩] 31)).alloc (.cells #[.bool true, .string nm] 31)).drew W) => And.intro (hid (after HB4.out hb HB4.out.size)) (And.intro (cells_at (lay hb HC4.out.1)) (And.intro (cells_at (lay hb HC4.out.2.2)) (cell_keep (after HB4.out hb HB4.out.size) (cell_lt hn1) hn1))))
  clear hS hC hv1 hv2 hcv v0 v1 hkv hbv hs hi hbs hcs hfs hn1 hlt hm hn
  go_enter Try.func73, Try.ntmps73
  go_wp2
  refine wp_region_held_drew (S := fun W => Hid (Below w.heap.size w W) ∧ (∀ i, W.cell? ⟨w.heap.size, i, none⟩ = (#[.slice (some ⟨bs, os, none⟩) n sc, .slice ca m cc] : Array Value)[i]?) ∧ (∀ i, W.cell? ⟨w.heap.size + 1 + 1 + 1, i, none⟩ = (#[.bool true, .string nm] : Array Value)[i]?) ∧ W.cell? ⟨bs, os + ki * 4 + 1, none⟩ = some (.slice fa2 q fc2)) (by kernel_rfl) ?_ (fun hHeld0 => ?_)
  · (try dsimp only) <;> (first | exact HKp.out _ HDc.out | exact HKp.out _ HDe.out)
  refine wpAnyH_take (i := 0) (oi := { dst := Option.some 22, op := Go.Op.fieldAddr 25 (Go.Operand.tmp 4) 0, type := 0, pos := "ref.go:149", after := #[], guard := Option.none }) (v := ?_) rfl (by kernel_rfl) (by kernel_rfl) (by kernel_rfl) (fun _ _ _ h => h) (Or.inl ⟨by rfl, ?_⟩) (by assumption) ?_
  rotate_left
  · intro w5x hSwx
    try dsimp only at hSwx
    go_simp
    try with_reducible rfl
  try simp only [Act.put, List.setIfInBounds_toArray, List.set_cons_zero, List.set_cons_succ]
  refine wpAnyH_take (i := 1) (oi := { dst := Option.some 23, op := Go.Op.load 22 (Go.Operand.tmp 22), type := 22, pos := "ref.go:149", after := #[{ on := 0, ground := Go.Ground.data }], guard := Option.none }) (v := ?_) rfl (by kernel_rfl) (by kernel_rfl) (by kernel_rfl) (fun _ _ _ h => h) (Or.inl ⟨by rfl, ?_⟩) (by assumption) ?_
  rotate_left
  · intro w5x hSwx
    try dsimp only at hSwx
    go_simp
    try with_reducible rfl
  try simp only [Act.put, List.setIfInBounds_toArray, List.set_cons_zero, List.set_cons_succ]
  refine wpAnyH_take (i := 2) (oi := { dst := Option.some 24, op := Go.Op.load 25 (Go.Operand.tmp 4), type := 25, pos := "ref.go:149", after := #[], guard := Option.none }) (v := ?_) rfl (by kernel_rfl) (by kernel_rfl) (by kernel_rfl) (fun _ _ _ h => h) (Or.inl ⟨by rfl, ?_⟩) (by assumption) ?_
  rotate_left
  · intro w5x hSwx
    try dsimp only at hSwx
    go_simp
    try with_reducible rfl
  try simp only [Act.put, List.setIfInBounds_toArray, List.set_cons_zero, List.set_cons_succ]
  refine wpAnyH_take (i := 3) (oi := { dst := Option.some 25, op := Go.Op.fieldAddr 31 (Go.Operand.tmp 10) 1, type := 0, pos := "ref.go:149", after := #[], guard := Option.none }) (v := ?_) rfl (by kernel_rfl) (by kernel_rfl) (by kernel_rfl) (fun _ _ _ h => h) (Or.inl ⟨by rfl, ?_⟩) (by assumption) ?_
  rotate_left
  · intro w5x hSwx
    try dsimp only at hSwx
    go_simp
    try with_reducible rfl
  try simp only [Act.put, List.setIfInBounds_toArray, List.set_cons_zero, List.set_cons_succ]
  refine wpAnyH_take (i := 4) (oi := { dst := Option.some 26, op := Go.Op.load 9 (Go.Operand.tmp 25), type := 9, pos := "ref.go:149", after := #[{ on := 3, ground := Go.Ground.data }], guard := Option.none }) (v := ?_) rfl (by kernel_rfl) (by kernel_rfl) (by kernel_rfl) (fun _ _ _ h => h) (Or.inl ⟨by rfl, ?_⟩) (by assumption) ?_
  rotate_left
  · intro w5x hSwx
    try dsimp only at hSwx
    go_simp
    try with_reducible rfl
  try simp only [Act.put, List.setIfInBounds_toArray, List.set_cons_zero, List.set_cons_succ]
  refine wpAnyH_ready (rs := [5]) (by kernel_rfl) (by simp) ?_
  refine AllReadyH.cons (o := { dst := Option.some 27, op := Go.Op.call { callee := Go.Callee.value (Go.Operand.func 15), args := #[Go.Operand.tmp 24, Go.Operand.tmp 26], argTypes := #[25, 9] }, type := 3, pos := "ref.go:149", after := #[{ on := 2, ground := Go.Ground.data }, { on := 4, ground := Go.Ground.data }], guard := Option.none }) rfl (fun K hK => ?_) AllReadyH.nil
  go_simp
  go_wp2_with (first | (go_at_call 15; refine (rfst_q HN.out ca m cc _ sc nm _ (HSS.out _ HB4.out)).mono ?_; rw [HI.out]; rintro e w1 ⟨rfl, hb1⟩; have HDe := hid hb1.out; clear hb1))
  refine hK.out _ _ ?_ (fun hHeld3 => ?_)
  · (try dsimp only) <;> (first | exact HKp.out _ HDc.out | exact HKp.out _ HDe.out)
  clear hK K hHeld0
  try simp only [Act.put, List.setIfInBounds_toArray, List.set_cons_zero, List.set_cons_succ]
  refine wpAnyH_take (i := 6) (oi := { dst := Option.some 28, op := Go.Op.indexAddr 22 (Go.Operand.tmp 23) (Go.Operand.tmp 27), type := 0, pos := "ref.go:149", after := #[{ on := 1, ground := Go.Ground.data }, { on := 5, ground := Go.Ground.data }], guard := Option.none }) (v := ?_) rfl (by kernel_rfl) (by kernel_rfl) (by kernel_rfl) (fun _ _ _ h => h) (Or.inl ⟨by rfl, ?_⟩) (by assumption) ?_
  rotate_left
  · intro w5x hSwx
    try dsimp only at hSwx
    go_simp
    try with_reducible rfl
  try simp only [Act.put, List.setIfInBounds_toArray, List.set_cons_zero, List.set_cons_succ]
  refine wpAnyH_take (i := 7) (oi := { dst := Option.some 29, op := Go.Op.fieldAddr 47 (Go.Operand.tmp 28) 1, type := 0, pos := "ref.go:149", after := #[{ on := 6, ground := Go.Ground.data }], guard := Option.none }) (v := ?_) rfl (by kernel_rfl) (by kernel_rfl) (by kernel_rfl) (fun _ _ _ h => h) (Or.inl ⟨by rfl, ?_⟩) (by assumption) ?_
  rotate_left
  · intro w5x hSwx
    try dsimp only at hSwx
    go_simp
    try with_reducible rfl
  try simp only [Act.put, List.setIfInBounds_toArray, List.set_cons_zero, List.set_cons_succ]
  refine wpAnyH_take (i := 8) (oi := { dst := Option.some 30, op := Go.Op.load 43 (Go.Operand.tmp 29), type := 43, pos := "ref.go:149", after := #[{ on := 7, ground := Go.Ground.data }], guard := Option.none }) (v := ?_) rfl (by kernel_rfl) (by kernel_rfl) (by kernel_rfl) (fun _ _ _ h => h) (Or.inl ⟨by rfl, ?_⟩) (by assumption) ?_
  rotate_left
  · intro w5x hSwx
    try dsimp only at hSwx
    go_simp
    try with_reducible rfl
  try simp only [Act.put, List.setIfInBounds_toArray, List.set_cons_zero, List.set_cons_succ]
  refine wpAnyH_take (i := 9) (oi := { dst := Option.some 11, op := Go.Op.assign (Go.Operand.tmp 30), type := 43, pos := "ref.go:149", after := #[{ on := 8, ground := Go.Ground.data }, { on := 5, ground := Go.Ground.chain }, { on := 0, ground := Go.Ground.phase }, { on := 1, ground := Go.Ground.phase }, { on := 2, ground := Go.Ground.phase }, { on := 3, ground := Go.Ground.phase }, { on := 4, ground := Go.Ground.phase }, { on := 5, ground := Go.Ground.phase }, { on := 6, ground := Go.Ground.phase }, { on := 7, ground := Go.Ground.phase }, { on := 8, ground := Go.Ground.phase }], guard := Option.none }) (v := ?_) rfl (by kernel_rfl) (by kernel_rfl) (by kernel_rfl) (fun _ _ _ h => h) (Or.inl ⟨by rfl, ?_⟩) (by assumption) ?_
  rotate_left
  · intro w5x hSwx
    try dsimp only at hSwx
    go_simp
    try with_reducible rfl
  try simp only [Act.put, List.setIfInBounds_toArray, List.set_cons_zero, List.set_cons_succ]
  refine wpAnyH_done (by kernel_rfl) ?_ _
  have hf := two_set (lay HDe.out HC4.out.2.1)
  have hf1 := fun i => frozen_no (lay HDe.out HC4.out.2.1) i
  have hr1 := cells_at (lay HDe.out HC4.out.2.1)
  have hs1 := fun x => one_set (lay HDe.out HC4.out.2.1) x
  go_wp2
  exact bodyPost_ret (v := .tuple #[.agg #[.bool false, .string ⟨#[]⟩], .int .i64 15]) (by simp [results, Try.results73, go_sem, hf]) rfl ⟨rfl, hid (((after HB4.out HDe.out HB4.out.size).setCell (by simp; omega) _).setCell (by simp; omega) _)⟩
set_option maxRecDepth 100000 in
set_option maxHeartbeats 8000000 in
theorem rfield_big (ss : List StD) (n m : Nat) (hn : ss.length = n) (sa ca : Option Addr) (sc cc : Nat) (x : CoD) (va fa ia : Option Addr) (vc fc ic : Nat) (k : Nat) (f : Int) (nm : ByteArray) (w : World) (hS : RowM 4 StAt w sa ss) (hC : RowM 3 VaAt w va x.vs) (hv : KindIs x k true nm) (ki : Nat) (s : StD) (hs : ss[ki]? = some s) (hi : idxL (stN nm) ss 0 = ki) (hf0 : ¬ f < 0) (hf9 : (s.fs.length : Int) ≤ f) :
    Calls Try.prog 73 #[.agg #[.slice sa n sc, .slice ca m cc], .agg (CoV x va vc fa fc ia ic), .int .i64 k, .int .i64 f] w fun e w' => e = .returned (.tuple #[.agg #[.bool false, .string ⟨#[]⟩], .int .i64 15]) ∧ Hid (Below w.heap.size w w') := by
  obtain ⟨v, hv1, hv2⟩ := hv
  obtain ⟨bv, ov, hva, hbv, hcv⟩ := hC.2 k v hv1
  subst hva
  have v0 : w.cell? ⟨bv, ov + k * 3, none⟩ = some (.bool true) := by have := hcv 0 (.bool v.t.p) rfl; rw [hv2] at this; exact this
  have v1 : w.cell? ⟨bv, ov + k * 3 + 1, none⟩ = some (.string nm) := by have := hcv 1 (.string v.t.name) rfl; rw [hv2] at this; exact this
  have hkv : k < x.vs.length := (List.getElem?_eq_some_iff.1 hv1).1
  have k0 : (0 : Int) ≤ (k : Int) := by omega
  have k1 : (k : Int) < (x.vs.length : Int) := by omega
  have k2 : (x.vs.length : Int) ≤ 9223372036854775807 := by have := hC.1; omega
  have c0 := fun o p q => cell_keep (below3a w o p q) (cell_lt v0) v0
  have c1 := fun o p q => cell_keep (below3a w o p q) (cell_lt v1) v1
  obtain ⟨bs, os, hsa, hbs, fa2, fc2, hcs, hfs⟩ := hS.2 ki s hs
  subst hsa
  obtain ⟨q, hm⟩ : ∃ m, s.fs.length = m := ⟨_, rfl⟩
  have hm9 : q ≤ 9223372036854775807 := hm ▸ hfs.1
  have hn1 : w.cell? ⟨bs, os + ki * 4 + 1, none⟩ = some (.slice fa2 q fc2) := by rw [← hm]; exact hcs 1 _ rfl
  have hlt : ki < ss.length := (List.getElem?_eq_some_iff.1 hs).1
  have i1 : (0 : Int) ≤ (ki : Int) := by omega
  have i2 : (ki : Int) < (n : Int) := by omega
  have i3 : (n : Int) ≤ 9223372036854775807 := by have := hS.1; omega
  have HN := hid hn
  have HI := hid hi
  have HSS := hid (fun W (hb : Below w.heap.size w W) => hS.later st_stays hb)
  have hf2 : (q : Int) ≤ f := by omega
  clear hf9
  have HB4 := hid ((below3a w (.cells #[.slice (some ⟨bs, os, none⟩) n sc, .slice ca m cc] 25) (.cells (CoV x (some ⟨bv, ov, none⟩) vc fa fc ia ic) 37) (.cells #[.bool false, .string ⟨#[]⟩] 31)).alloc (by simp; omega) (.cells #[.bool true, .string nm] 31)).drew
  have HC4 := hid (chain4 w #[.slice (some ⟨bs, os, none⟩) n sc, .slice ca m cc] (CoV x (some ⟨bv, ov, none⟩) vc fa fc ia ic) #[.bool false, .string ⟨#[]⟩] #[.bool true, .string nm] 25 37 31 31)
  have HN1 := hid hn1
  have HDc := hid (Below.refl ((((w.alloc (.cells #[.slice (some ⟨bs, os, none⟩) n sc, .slice ca m cc] 25)).alloc (.cells (CoV x (some ⟨bv, ov, none⟩) vc fa fc ia ic) 37)).alloc (.cells #[.bool false, .string ⟨#[]⟩] 31)).alloc (.cells #[.bool true, .string nm] 31)).drew.heap.size ((((w.alloc (.cells #[.slice (some ⟨bs, os, none⟩) n sc, .slice ca m cc] 25)).alloc (.cells (CoV x (some ⟨bv, ov, none⟩) vc fa fc ia ic) 37)).alloc (.cells #[.bool false, .string ⟨#[]⟩] 31)).alloc (.cells #[.bool true, .string nm] 31)).drew)
  have HKp := hid (fun W (hb : Below ((((w.alloc (.cells #[.slice (some ⟨bs, os, none⟩) n sc, .slice ca m cc] 25)).alloc (.cells (CoV x (some ⟨bv, ov, none⟩) vc fa fc ia ic) 37)).alloc (.cells #[.bool false, .string ⟨#[]⟩] 31)).alloc (.cells #[.bool true, .string nm] 31)).drew.heap.size ((((w.alloc (.cells #[.slice (some ⟨bs, os, none⟩) n sc, .slice ca m cc] 25)).alloc (.cells (CoV x (some ⟨bv, ov, none⟩) vc fa fc ia ic) 37)).alloc (.cells #[.bool false, .string ⟨#[]⟩] 31)).alloc (.cells #[.bool true, .string nm] 31)).drew W) => And.intro (hid (after HB4.out hb HB4.out.size)) (And.intro (cells_at (lay hb HC4.out.1)) (And.intro (cells_at (lay hb HC4.out.2.2)) (cell_keep (after HB4.out hb HB4.out.size) (cell_lt hn1) hn1))))
  clear hS hC hv1 hv2 hcv v0 v1 hkv hbv hs hi hbs hcs hfs hn1 hlt hm hn
  go_enter Try.func73, Try.ntmps73
  go_wp2
  refine wp_region_held_drew (S := fun W => Hid (Below w.heap.size w W) ∧ (∀ i, W.cell? ⟨w.heap.size, i, none⟩ = (#[.slice (some ⟨bs, os, none⟩) n sc, .slice ca m cc] : Array Value)[i]?) ∧ (∀ i, W.cell? ⟨w.heap.size + 1 + 1 + 1, i, none⟩ = (#[.bool true, .string nm] : Array Value)[i]?) ∧ W.cell? ⟨bs, os + ki * 4 + 1, none⟩ = some (.slice fa2 q fc2)) (by kernel_rfl) ?_ (fun hHeld0 => ?_)
  · (try dsimp only) <;> (first | exact HKp.out _ HDc.out | exact HKp.out _ HDe.out)
  refine wpAnyH_take (i := 0) (oi := { dst := Option.some 22, op := Go.Op.fieldAddr 25 (Go.Operand.tmp 4) 0, type := 0, pos := "ref.go:149", after := #[], guard := Option.none }) (v := ?_) rfl (by kernel_rfl) (by kernel_rfl) (by kernel_rfl) (fun _ _ _ h => h) (Or.inl ⟨by rfl, ?_⟩) (by assumption) ?_
  rotate_left
  · intro w5x hSwx
    try dsimp only at hSwx
    go_simp
    try with_reducible rfl
  try simp only [Act.put, List.setIfInBounds_toArray, List.set_cons_zero, List.set_cons_succ]
  refine wpAnyH_take (i := 1) (oi := { dst := Option.some 23, op := Go.Op.load 22 (Go.Operand.tmp 22), type := 22, pos := "ref.go:149", after := #[{ on := 0, ground := Go.Ground.data }], guard := Option.none }) (v := ?_) rfl (by kernel_rfl) (by kernel_rfl) (by kernel_rfl) (fun _ _ _ h => h) (Or.inl ⟨by rfl, ?_⟩) (by assumption) ?_
  rotate_left
  · intro w5x hSwx
    try dsimp only at hSwx
    go_simp
    try with_reducible rfl
  try simp only [Act.put, List.setIfInBounds_toArray, List.set_cons_zero, List.set_cons_succ]
  refine wpAnyH_take (i := 2) (oi := { dst := Option.some 24, op := Go.Op.load 25 (Go.Operand.tmp 4), type := 25, pos := "ref.go:149", after := #[], guard := Option.none }) (v := ?_) rfl (by kernel_rfl) (by kernel_rfl) (by kernel_rfl) (fun _ _ _ h => h) (Or.inl ⟨by rfl, ?_⟩) (by assumption) ?_
  rotate_left
  · intro w5x hSwx
    try dsimp only at hSwx
    go_simp
    try with_reducible rfl
  try simp only [Act.put, List.setIfInBounds_toArray, List.set_cons_zero, List.set_cons_succ]
  refine wpAnyH_take (i := 3) (oi := { dst := Option.some 25, op := Go.Op.fieldAddr 31 (Go.Operand.tmp 10) 1, type := 0, pos := "ref.go:149", after := #[], guard := Option.none }) (v := ?_) rfl (by kernel_rfl) (by kernel_rfl) (by kernel_rfl) (fun _ _ _ h => h) (Or.inl ⟨by rfl, ?_⟩) (by assumption) ?_
  rotate_left
  · intro w5x hSwx
    try dsimp only at hSwx
    go_simp
    try with_reducible rfl
  try simp only [Act.put, List.setIfInBounds_toArray, List.set_cons_zero, List.set_cons_succ]
  refine wpAnyH_take (i := 4) (oi := { dst := Option.some 26, op := Go.Op.load 9 (Go.Operand.tmp 25), type := 9, pos := "ref.go:149", after := #[{ on := 3, ground := Go.Ground.data }], guard := Option.none }) (v := ?_) rfl (by kernel_rfl) (by kernel_rfl) (by kernel_rfl) (fun _ _ _ h => h) (Or.inl ⟨by rfl, ?_⟩) (by assumption) ?_
  rotate_left
  · intro w5x hSwx
    try dsimp only at hSwx
    go_simp
    try with_reducible rfl
  try simp only [Act.put, List.setIfInBounds_toArray, List.set_cons_zero, List.set_cons_succ]
  refine wpAnyH_ready (rs := [5]) (by kernel_rfl) (by simp) ?_
  refine AllReadyH.cons (o := { dst := Option.some 27, op := Go.Op.call { callee := Go.Callee.value (Go.Operand.func 15), args := #[Go.Operand.tmp 24, Go.Operand.tmp 26], argTypes := #[25, 9] }, type := 3, pos := "ref.go:149", after := #[{ on := 2, ground := Go.Ground.data }, { on := 4, ground := Go.Ground.data }], guard := Option.none }) rfl (fun K hK => ?_) AllReadyH.nil
  go_simp
  go_wp2_with (first | (go_at_call 15; refine (rfst_q HN.out ca m cc _ sc nm _ (HSS.out _ HB4.out)).mono ?_; rw [HI.out]; rintro e w1 ⟨rfl, hb1⟩; have HDe := hid hb1.out; clear hb1))
  refine hK.out _ _ ?_ (fun hHeld3 => ?_)
  · (try dsimp only) <;> (first | exact HKp.out _ HDc.out | exact HKp.out _ HDe.out)
  clear hK K hHeld0
  try simp only [Act.put, List.setIfInBounds_toArray, List.set_cons_zero, List.set_cons_succ]
  refine wpAnyH_take (i := 6) (oi := { dst := Option.some 28, op := Go.Op.indexAddr 22 (Go.Operand.tmp 23) (Go.Operand.tmp 27), type := 0, pos := "ref.go:149", after := #[{ on := 1, ground := Go.Ground.data }, { on := 5, ground := Go.Ground.data }], guard := Option.none }) (v := ?_) rfl (by kernel_rfl) (by kernel_rfl) (by kernel_rfl) (fun _ _ _ h => h) (Or.inl ⟨by rfl, ?_⟩) (by assumption) ?_
  rotate_left
  · intro w5x hSwx
    try dsimp only at hSwx
    go_simp
    try with_reducible rfl
  try simp only [Act.put, List.setIfInBounds_toArray, List.set_cons_zero, List.set_cons_succ]
  refine wpAnyH_take (i := 7) (oi := { dst := Option.some 29, op := Go.Op.fieldAddr 47 (Go.Operand.tmp 28) 1, type := 0, pos := "ref.go:149", after := #[{ on := 6, ground := Go.Ground.data }], guard := Option.none }) (v := ?_) rfl (by kernel_rfl) (by kernel_rfl) (by kernel_rfl) (fun _ _ _ h => h) (Or.inl ⟨by rfl, ?_⟩) (by assumption) ?_
  rotate_left
  · intro w5x hSwx
    try dsimp only at hSwx
    go_simp
    try with_reducible rfl
  try simp only [Act.put, List.setIfInBounds_toArray, List.set_cons_zero, List.set_cons_succ]
  refine wpAnyH_take (i := 8) (oi := { dst := Option.some 30, op := Go.Op.load 43 (Go.Operand.tmp 29), type := 43, pos := "ref.go:149", after := #[{ on := 7, ground := Go.Ground.data }], guard := Option.none }) (v := ?_) rfl (by kernel_rfl) (by kernel_rfl) (by kernel_rfl) (fun _ _ _ h => h) (Or.inl ⟨by rfl, ?_⟩) (by assumption) ?_
  rotate_left
  · intro w5x hSwx
    try dsimp only at hSwx
    go_simp
    try with_reducible rfl
  try simp only [Act.put, List.setIfInBounds_toArray, List.set_cons_zero, List.set_cons_succ]
  refine wpAnyH_take (i := 9) (oi := { dst := Option.some 11, op := Go.Op.assign (Go.Operand.tmp 30), type := 43, pos := "ref.go:149", after := #[{ on := 8, ground := Go.Ground.data }, { on := 5, ground := Go.Ground.chain }, { on := 0, ground := Go.Ground.phase }, { on := 1, ground := Go.Ground.phase }, { on := 2, ground := Go.Ground.phase }, { on := 3, ground := Go.Ground.phase }, { on := 4, ground := Go.Ground.phase }, { on := 5, ground := Go.Ground.phase }, { on := 6, ground := Go.Ground.phase }, { on := 7, ground := Go.Ground.phase }, { on := 8, ground := Go.Ground.phase }], guard := Option.none }) (v := ?_) rfl (by kernel_rfl) (by kernel_rfl) (by kernel_rfl) (fun _ _ _ h => h) (Or.inl ⟨by rfl, ?_⟩) (by assumption) ?_
  rotate_left
  · intro w5x hSwx
    try dsimp only at hSwx
    go_simp
    try with_reducible rfl
  try simp only [Act.put, List.setIfInBounds_toArray, List.set_cons_zero, List.set_cons_succ]
  refine wpAnyH_done (by kernel_rfl) ?_ _
  have hf := two_set (lay HDe.out HC4.out.2.1)
  have hf1 := fun i => frozen_no (lay HDe.out HC4.out.2.1) i
  have hr1 := cells_at (lay HDe.out HC4.out.2.1)
  have hs1 := fun x => one_set (lay HDe.out HC4.out.2.1) x
  go_wp2
  exact bodyPost_ret (v := .tuple #[.agg #[.bool false, .string ⟨#[]⟩], .int .i64 15]) (by simp [results, Try.results73, go_sem, hf]) rfl ⟨rfl, hid (((after HB4.out HDe.out HB4.out.size).setCell (by simp; omega) _).setCell (by simp; omega) _)⟩
set_option maxRecDepth 100000 in
set_option maxHeartbeats 8000000 in
theorem rfield_in (ss : List StD) (n m : Nat) (hn : ss.length = n) (sa ca : Option Addr) (sc cc : Nat) (x : CoD) (va fa ia : Option Addr) (vc fc ic : Nat) (k : Nat) (f : Int) (nm : ByteArray) (w : World) (hS : RowM 4 StAt w sa ss) (hC : RowM 3 VaAt w va x.vs) (hv : KindIs x k true nm) (ki : Nat) (s : StD) (hs : ss[ki]? = some s) (hi : idxL (stN nm) ss 0 = ki) (kf : Nat) (u : FdD) (hfk : f = kf) (hu : s.fs[kf]? = some u) :
    Calls Try.prog 73 #[.agg #[.slice sa n sc, .slice ca m cc], .agg (CoV x va vc fa fc ia ic), .int .i64 k, .int .i64 f] w fun e w' => e = .returned (.tuple #[.agg #[.bool u.t.p, .string u.t.name], .int .i64 0]) ∧ Hid (Below w.heap.size w w') := by
  obtain ⟨v, hv1, hv2⟩ := hv
  obtain ⟨bv, ov, hva, hbv, hcv⟩ := hC.2 k v hv1
  subst hva
  have v0 : w.cell? ⟨bv, ov + k * 3, none⟩ = some (.bool true) := by have := hcv 0 (.bool v.t.p) rfl; rw [hv2] at this; exact this
  have v1 : w.cell? ⟨bv, ov + k * 3 + 1, none⟩ = some (.string nm) := by have := hcv 1 (.string v.t.name) rfl; rw [hv2] at this; exact this
  have hkv : k < x.vs.length := (List.getElem?_eq_some_iff.1 hv1).1
  have k0 : (0 : Int) ≤ (k : Int) := by omega
  have k1 : (k : Int) < (x.vs.length : Int) := by omega
  have k2 : (x.vs.length : Int) ≤ 9223372036854775807 := by have := hC.1; omega
  have c0 := fun o p q => cell_keep (below3a w o p q) (cell_lt v0) v0
  have c1 := fun o p q => cell_keep (below3a w o p q) (cell_lt v1) v1
  obtain ⟨bs, os, hsa, hbs, fa2, fc2, hcs, hfs⟩ := hS.2 ki s hs
  subst hsa
  obtain ⟨q, hm⟩ : ∃ m, s.fs.length = m := ⟨_, rfl⟩
  have hm9 : q ≤ 9223372036854775807 := hm ▸ hfs.1
  have hn1 : w.cell? ⟨bs, os + ki * 4 + 1, none⟩ = some (.slice fa2 q fc2) := by rw [← hm]; exact hcs 1 _ rfl
  have hlt : ki < ss.length := (List.getElem?_eq_some_iff.1 hs).1
  have i1 : (0 : Int) ≤ (ki : Int) := by omega
  have i2 : (ki : Int) < (n : Int) := by omega
  have i3 : (n : Int) ≤ 9223372036854775807 := by have := hS.1; omega
  have HN := hid hn
  have HI := hid hi
  have HSS := hid (fun W (hb : Below w.heap.size w W) => hS.later st_stays hb)
  subst hfk
  obtain ⟨bf, of, hfa, hbf, hcu⟩ := hfs.2 kf u hu
  subst hfa
  have hu1 : w.cell? ⟨bf, of + kf * 5 + 1, none⟩ = some (.bool u.t.p) := hcu 1 _ rfl
  have hu2 : w.cell? ⟨bf, of + kf * 5 + 2, none⟩ = some (.string u.t.name) := hcu 2 _ rfl
  have HU1 := hid hu1
  have HU2 := hid hu2
  have hkm : kf < q := by rw [← hm]; exact (List.getElem?_eq_some_iff.1 hu).1
  have j1 : (0 : Int) ≤ (kf : Int) := by omega
  have j2 : (kf : Int) < (q : Int) := by omega
  have j3 : ¬ (kf : Int) < 0 := by omega
  have j4 : ¬ (q : Int) ≤ (kf : Int) := by omega
  clear hu hcu hu1 hu2
  have HB4 := hid ((below3a w (.cells #[.slice (some ⟨bs, os, none⟩) n sc, .slice ca m cc] 25) (.cells (CoV x (some ⟨bv, ov, none⟩) vc fa fc ia ic) 37) (.cells #[.bool false, .string ⟨#[]⟩] 31)).alloc (by simp; omega) (.cells #[.bool true, .string nm] 31)).drew
  have HC4 := hid (chain4 w #[.slice (some ⟨bs, os, none⟩) n sc, .slice ca m cc] (CoV x (some ⟨bv, ov, none⟩) vc fa fc ia ic) #[.bool false, .string ⟨#[]⟩] #[.bool true, .string nm] 25 37 31 31)
  have HN1 := hid hn1
  have HDc := hid (Below.refl ((((w.alloc (.cells #[.slice (some ⟨bs, os, none⟩) n sc, .slice ca m cc] 25)).alloc (.cells (CoV x (some ⟨bv, ov, none⟩) vc fa fc ia ic) 37)).alloc (.cells #[.bool false, .string ⟨#[]⟩] 31)).alloc (.cells #[.bool true, .string nm] 31)).drew.heap.size ((((w.alloc (.cells #[.slice (some ⟨bs, os, none⟩) n sc, .slice ca m cc] 25)).alloc (.cells (CoV x (some ⟨bv, ov, none⟩) vc fa fc ia ic) 37)).alloc (.cells #[.bool false, .string ⟨#[]⟩] 31)).alloc (.cells #[.bool true, .string nm] 31)).drew)
  have HKp := hid (fun W (hb : Below ((((w.alloc (.cells #[.slice (some ⟨bs, os, none⟩) n sc, .slice ca m cc] 25)).alloc (.cells (CoV x (some ⟨bv, ov, none⟩) vc fa fc ia ic) 37)).alloc (.cells #[.bool false, .string ⟨#[]⟩] 31)).alloc (.cells #[.bool true, .string nm] 31)).drew.heap.size ((((w.alloc (.cells #[.slice (some ⟨bs, os, none⟩) n sc, .slice ca m cc] 25)).alloc (.cells (CoV x (some ⟨bv, ov, none⟩) vc fa fc ia ic) 37)).alloc (.cells #[.bool false, .string ⟨#[]⟩] 31)).alloc (.cells #[.bool true, .string nm] 31)).drew W) => And.intro (hid (after HB4.out hb HB4.out.size)) (And.intro (cells_at (lay hb HC4.out.1)) (And.intro (cells_at (lay hb HC4.out.2.2)) (cell_keep (after HB4.out hb HB4.out.size) (cell_lt hn1) hn1))))
  clear hS hC hv1 hv2 hcv v0 v1 hkv hbv hs hi hbs hcs hfs hn1 hlt hm hn
  go_enter Try.func73, Try.ntmps73
  go_wp2
  refine wp_region_held_drew (S := fun W => Hid (Below w.heap.size w W) ∧ (∀ i, W.cell? ⟨w.heap.size, i, none⟩ = (#[.slice (some ⟨bs, os, none⟩) n sc, .slice ca m cc] : Array Value)[i]?) ∧ (∀ i, W.cell? ⟨w.heap.size + 1 + 1 + 1, i, none⟩ = (#[.bool true, .string nm] : Array Value)[i]?) ∧ W.cell? ⟨bs, os + ki * 4 + 1, none⟩ = some (.slice (some ⟨bf, of, none⟩) q fc2)) (by kernel_rfl) ?_ (fun hHeld0 => ?_)
  · (try dsimp only) <;> (first | exact HKp.out _ HDc.out | exact HKp.out _ HDe.out)
  refine wpAnyH_take (i := 0) (oi := { dst := Option.some 22, op := Go.Op.fieldAddr 25 (Go.Operand.tmp 4) 0, type := 0, pos := "ref.go:149", after := #[], guard := Option.none }) (v := ?_) rfl (by kernel_rfl) (by kernel_rfl) (by kernel_rfl) (fun _ _ _ h => h) (Or.inl ⟨by rfl, ?_⟩) (by assumption) ?_
  rotate_left
  · intro w5x hSwx
    try dsimp only at hSwx
    go_simp
    try with_reducible rfl
  try simp only [Act.put, List.setIfInBounds_toArray, List.set_cons_zero, List.set_cons_succ]
  refine wpAnyH_take (i := 1) (oi := { dst := Option.some 23, op := Go.Op.load 22 (Go.Operand.tmp 22), type := 22, pos := "ref.go:149", after := #[{ on := 0, ground := Go.Ground.data }], guard := Option.none }) (v := ?_) rfl (by kernel_rfl) (by kernel_rfl) (by kernel_rfl) (fun _ _ _ h => h) (Or.inl ⟨by rfl, ?_⟩) (by assumption) ?_
  rotate_left
  · intro w5x hSwx
    try dsimp only at hSwx
    go_simp
    try with_reducible rfl
  try simp only [Act.put, List.setIfInBounds_toArray, List.set_cons_zero, List.set_cons_succ]
  refine wpAnyH_take (i := 2) (oi := { dst := Option.some 24, op := Go.Op.load 25 (Go.Operand.tmp 4), type := 25, pos := "ref.go:149", after := #[], guard := Option.none }) (v := ?_) rfl (by kernel_rfl) (by kernel_rfl) (by kernel_rfl) (fun _ _ _ h => h) (Or.inl ⟨by rfl, ?_⟩) (by assumption) ?_
  rotate_left
  · intro w5x hSwx
    try dsimp only at hSwx
    go_simp
    try with_reducible rfl
  try simp only [Act.put, List.setIfInBounds_toArray, List.set_cons_zero, List.set_cons_succ]
  refine wpAnyH_take (i := 3) (oi := { dst := Option.some 25, op := Go.Op.fieldAddr 31 (Go.Operand.tmp 10) 1, type := 0, pos := "ref.go:149", after := #[], guard := Option.none }) (v := ?_) rfl (by kernel_rfl) (by kernel_rfl) (by kernel_rfl) (fun _ _ _ h => h) (Or.inl ⟨by rfl, ?_⟩) (by assumption) ?_
  rotate_left
  · intro w5x hSwx
    try dsimp only at hSwx
    go_simp
    try with_reducible rfl
  try simp only [Act.put, List.setIfInBounds_toArray, List.set_cons_zero, List.set_cons_succ]
  refine wpAnyH_take (i := 4) (oi := { dst := Option.some 26, op := Go.Op.load 9 (Go.Operand.tmp 25), type := 9, pos := "ref.go:149", after := #[{ on := 3, ground := Go.Ground.data }], guard := Option.none }) (v := ?_) rfl (by kernel_rfl) (by kernel_rfl) (by kernel_rfl) (fun _ _ _ h => h) (Or.inl ⟨by rfl, ?_⟩) (by assumption) ?_
  rotate_left
  · intro w5x hSwx
    try dsimp only at hSwx
    go_simp
    try with_reducible rfl
  try simp only [Act.put, List.setIfInBounds_toArray, List.set_cons_zero, List.set_cons_succ]
  refine wpAnyH_ready (rs := [5]) (by kernel_rfl) (by simp) ?_
  refine AllReadyH.cons (o := { dst := Option.some 27, op := Go.Op.call { callee := Go.Callee.value (Go.Operand.func 15), args := #[Go.Operand.tmp 24, Go.Operand.tmp 26], argTypes := #[25, 9] }, type := 3, pos := "ref.go:149", after := #[{ on := 2, ground := Go.Ground.data }, { on := 4, ground := Go.Ground.data }], guard := Option.none }) rfl (fun K hK => ?_) AllReadyH.nil
  go_simp
  go_wp2_with (first | (go_at_call 15; refine (rfst_q HN.out ca m cc _ sc nm _ (HSS.out _ HB4.out)).mono ?_; rw [HI.out]; rintro e w1 ⟨rfl, hb1⟩; have HDe := hid hb1.out; clear hb1))
  refine hK.out _ _ ?_ (fun hHeld3 => ?_)
  · (try dsimp only) <;> (first | exact HKp.out _ HDc.out | exact HKp.out _ HDe.out)
  clear hK K hHeld0
  try simp only [Act.put, List.setIfInBounds_toArray, List.set_cons_zero, List.set_cons_succ]
  refine wpAnyH_take (i := 6) (oi := { dst := Option.some 28, op := Go.Op.indexAddr 22 (Go.Operand.tmp 23) (Go.Operand.tmp 27), type := 0, pos := "ref.go:149", after := #[{ on := 1, ground := Go.Ground.data }, { on := 5, ground := Go.Ground.data }], guard := Option.none }) (v := ?_) rfl (by kernel_rfl) (by kernel_rfl) (by kernel_rfl) (fun _ _ _ h => h) (Or.inl ⟨by rfl, ?_⟩) (by assumption) ?_
  rotate_left
  · intro w5x hSwx
    try dsimp only at hSwx
    go_simp
    try with_reducible rfl
  try simp only [Act.put, List.setIfInBounds_toArray, List.set_cons_zero, List.set_cons_succ]
  refine wpAnyH_take (i := 7) (oi := { dst := Option.some 29, op := Go.Op.fieldAddr 47 (Go.Operand.tmp 28) 1, type := 0, pos := "ref.go:149", after := #[{ on := 6, ground := Go.Ground.data }], guard := Option.none }) (v := ?_) rfl (by kernel_rfl) (by kernel_rfl) (by kernel_rfl) (fun _ _ _ h => h) (Or.inl ⟨by rfl, ?_⟩) (by assumption) ?_
  rotate_left
  · intro w5x hSwx
    try dsimp only at hSwx
    go_simp
    try with_reducible rfl
  try simp only [Act.put, List.setIfInBounds_toArray, List.set_cons_zero, List.set_cons_succ]
  refine wpAnyH_take (i := 8) (oi := { dst := Option.some 30, op := Go.Op.load 43 (Go.Operand.tmp 29), type := 43, pos := "ref.go:149", after := #[{ on := 7, ground := Go.Ground.data }], guard := Option.none }) (v := ?_) rfl (by kernel_rfl) (by kernel_rfl) (by kernel_rfl) (fun _ _ _ h => h) (Or.inl ⟨by rfl, ?_⟩) (by assumption) ?_
  rotate_left
  · intro w5x hSwx
    try dsimp only at hSwx
    go_simp
    try with_reducible rfl
  try simp only [Act.put, List.setIfInBounds_toArray, List.set_cons_zero, List.set_cons_succ]
  refine wpAnyH_take (i := 9) (oi := { dst := Option.some 11, op := Go.Op.assign (Go.Operand.tmp 30), type := 43, pos := "ref.go:149", after := #[{ on := 8, ground := Go.Ground.data }, { on := 5, ground := Go.Ground.chain }, { on := 0, ground := Go.Ground.phase }, { on := 1, ground := Go.Ground.phase }, { on := 2, ground := Go.Ground.phase }, { on := 3, ground := Go.Ground.phase }, { on := 4, ground := Go.Ground.phase }, { on := 5, ground := Go.Ground.phase }, { on := 6, ground := Go.Ground.phase }, { on := 7, ground := Go.Ground.phase }, { on := 8, ground := Go.Ground.phase }], guard := Option.none }) (v := ?_) rfl (by kernel_rfl) (by kernel_rfl) (by kernel_rfl) (fun _ _ _ h => h) (Or.inl ⟨by rfl, ?_⟩) (by assumption) ?_
  rotate_left
  · intro w5x hSwx
    try dsimp only at hSwx
    go_simp
    try with_reducible rfl
  try simp only [Act.put, List.setIfInBounds_toArray, List.set_cons_zero, List.set_cons_succ]
  refine wpAnyH_done (by kernel_rfl) ?_ _
  have g1 := cell_keep (after HB4.out HDe.out HB4.out.size) (cell_lt HU1.out) HU1.out
  have g2 := cell_keep (after HB4.out HDe.out HB4.out.size) (cell_lt HU2.out) HU2.out
  have hf := two_set (lay HDe.out HC4.out.2.1)
  have hf1 := fun i => frozen_no (lay HDe.out HC4.out.2.1) i
  have hr1 := cells_at (lay HDe.out HC4.out.2.1)
  have hs1 := fun x => one_set (lay HDe.out HC4.out.2.1) x
  go_wp2
  exact bodyPost_ret (v := .tuple #[.agg #[.bool u.t.p, .string u.t.name], .int .i64 0]) (by simp [results, Try.results73, go_sem, hf]) rfl ⟨rfl, hid (((after HB4.out HDe.out HB4.out.size).setCell (by simp; omega) _).setCell (by simp; omega) _)⟩
end Go.Proofs.Ytfhdiahjfnphkaa
/- A field, by the reference, whole; what it asks of loads and stores. No conditions. -/
namespace Go.Proofs.Ytfhdiahjfnphkaa
open Go.RowKit Go.Maps
set_option linter.unusedVariables false
set_option linter.unusedSimpArgs false
def fldF (ss : List StD) (t : TyD) (f : Int) : TyD × Int :=
  if t.p then (if 0 ≤ f then (match (fieldsAt ss t.name)[f.toNat]? with | some u => (u.t, 0) | none => (⟨false, ⟨#[]⟩⟩, 15)) else (⟨false, ⟨#[]⟩⟩, 15)) else (⟨false, ⟨#[]⟩⟩, 7)
theorem field_fld {ss : List StD} {x : CoD} {r : InD} {v : Int} (e : (inN x.vs.length r.a && inN x.vs.length v) = true) : fieldF ss x r v = fldF ss (tyOf x r.a) r.f := by rw [fieldF, if_pos e]; rfl
theorem rfield_g (ss : List StD) (n m : Nat) (hn : ss.length = n) (sa ca : Option Addr) (sc cc : Nat) (x : CoD) (va fa ia : Option Addr) (vc fc ic : Nat) (k : Nat) (f : Int) (pp : Bool) (nm : ByteArray) (w : World) (hS : RowM 4 StAt w sa ss) (hC : RowM 3 VaAt w va x.vs) (hv : KindIs x k pp nm) (hk : pp = true → 0 ≤ idxL (stN nm) ss 0) :
    Calls Try.prog 73 #[.agg #[.slice sa n sc, .slice ca m cc], .agg (CoV x va vc fa fc ia ic), .int .i64 k, .int .i64 f] w fun e w' => e = .returned (.tuple #[.agg #[.bool (fldF ss ⟨pp, nm⟩ f).1.p, .string (fldF ss ⟨pp, nm⟩ f).1.name], .int .i64 (fldF ss ⟨pp, nm⟩ f).2]) ∧ Hid (Below w.heap.size w w') := by
  cases pp
  · exact rfield_no ss n m hn sa ca sc cc x va fa ia vc fc ic k f nm w hS hC hv
  · obtain ⟨ki, s, hs, h2, hi⟩ := idx_get (q := stN nm) (l := ss) (k := 0) (by omega) (hk rfl)
    have hi : idxL (stN nm) ss 0 = ki := by omega
    have hfs : fieldsAt ss nm = s.fs := by simp [fieldsAt, hi, hs]
    by_cases h0 : f < 0
    · have hf : fldF ss ⟨true, nm⟩ f = (⟨false, ⟨#[]⟩⟩, 15) := by rw [fldF, if_pos rfl, if_neg (by omega)]
      rw [hf]
      exact rfield_neg ss n m hn sa ca sc cc x va fa ia vc fc ic k f nm w hS hC hv ki s hs hi h0
    · by_cases h1 : (s.fs.length : Int) ≤ f
      · have hf : fldF ss ⟨true, nm⟩ f = (⟨false, ⟨#[]⟩⟩, 15) := by
          rw [fldF, if_pos rfl, if_pos (by omega)]
          simp only [hfs]
          rw [List.getElem?_eq_none (by omega)]
        rw [hf]
        exact rfield_big ss n m hn sa ca sc cc x va fa ia vc fc ic k f nm w hS hC hv ki s hs hi h0 h1
      · obtain ⟨u, hu⟩ := get_some (l := s.fs) (i := f.toNat) rfl (by omega)
        have hf : fldF ss ⟨true, nm⟩ f = (u.t, 0) := by
          rw [fldF, if_pos rfl, if_pos (by omega)]
          simp only [hfs, hu]
        rw [hf]
        exact rfield_in ss n m hn sa ca sc cc x va fa ia vc fc ic k f nm w hS hC hv ki s hs hi f.toNat u (by omega) hu
end Go.Proofs.Ytfhdiahjfnphkaa
