/- What the reference asks of loads and stores. No conditions. -/
import Derived.Test.YtfhdiahjfnphkaaCR23
namespace Go.Proofs.Ytfhdiahjfnphkaa
open Go.RowKit Go.Maps
set_option linter.unusedVariables false
set_option linter.unusedSimpArgs false
theorem chain3 (w : World) (a1 a2 a3 : Array Value) (t1 t2 t3 : TypeId) :
    (((w.alloc (.cells a1 t1)).alloc (.cells a2 t2)).alloc (.cells a3 t3)).heap[w.heap.size]? = some (.cells a1 t1 (0, 0)) ∧
    (((w.alloc (.cells a1 t1)).alloc (.cells a2 t2)).alloc (.cells a3 t3)).heap[w.heap.size + 1]? = some (.cells a2 t2 (0, 0)) ∧
    (((w.alloc (.cells a1 t1)).alloc (.cells a2 t2)).alloc (.cells a3 t3)).heap[w.heap.size + 1 + 1]? = some (.cells a3 t3 (0, 0)) := by
  refine ⟨lay (below2 _ _ _) (heap_alloc_new w _), ?_, ?_⟩
  · have h := lay (below1 _ (.cells a3 t3)) (heap_alloc_new (w.alloc (.cells a1 t1)) (.cells a2 t2))
    rwa [World.size_alloc] at h
  · have h := heap_alloc_new ((w.alloc (.cells a1 t1)).alloc (.cells a2 t2)) (.cells a3 t3)
    rwa [World.size_alloc, World.size_alloc] at h
set_option maxRecDepth 100000 in
set_option maxHeartbeats 8000000 in
theorem heap7_no (sa ca : Option Addr) (n m sc cc : Nat) (x : CoD) (va fa ia : Option Addr) (vc fc ic : Nat) (k kv : Nat) (b tt el f nn l c : Int) (sg : ByteArray) (xs ms : List Int) (ao mo : Option Addr) (ac mc : Nat) (pp p2 tp : Bool) (nm nm2 tn : ByteArray) (g : Int) (w : World) (hC : RowM 3 VaAt w va x.vs) (hv : KindIs x k pp nm) (hv2 : KindIs x kv p2 nm2)
    (hF : ∀ W, Below w.heap.size w W → Calls Try.prog 73 #[.agg #[.slice sa n sc, .slice ca m cc], .agg (CoV x va vc fa fc ia ic), .int .i64 k, .int .i64 f] W fun e w' => e = .returned (.tuple #[.agg #[.bool tp, .string tn], .int .i64 g]) ∧ Hid (Below W.heap.size W w')) (hg : ¬ g = 0) :
    Calls Try.prog 56 #[.agg #[.slice sa n sc, .slice ca m cc], .agg (CoV x va vc fa fc ia ic), .agg (InV ⟨7, kv, k, b, tt, el, f, nn, l, c, sg, xs, ms⟩ ao ac mo mc)] w fun e w' => e = .returned (.int .i64 g) ∧ Hid (Below w.heap.size w w') := by
  obtain ⟨v, h1, h2⟩ := hv
  obtain ⟨v', h3, h4⟩ := hv2
  obtain ⟨bv, ov, hva, hbv, hcv⟩ := hC.2 k v h1
  obtain ⟨bv2, ov2, hva2, hbv2, hcv2⟩ := hC.2 kv v' h3
  subst hva
  cases hva2
  have v0 : w.cell? ⟨bv, ov + k * 3, none⟩ = some (.bool pp) := by have := hcv 0 (.bool v.t.p) rfl; rw [h2] at this; exact this
  have v1 : w.cell? ⟨bv, ov + k * 3 + 1, none⟩ = some (.string nm) := by have := hcv 1 (.string v.t.name) rfl; rw [h2] at this; exact this
  have v2 : w.cell? ⟨bv, ov + kv * 3, none⟩ = some (.bool p2) := by have := hcv2 0 (.bool v'.t.p) rfl; rw [h4] at this; exact this
  have v3 : w.cell? ⟨bv, ov + kv * 3 + 1, none⟩ = some (.string nm2) := by have := hcv2 1 (.string v'.t.name) rfl; rw [h4] at this; exact this
  have hkv : k < x.vs.length := (List.getElem?_eq_some_iff.1 h1).1
  have hkv2 : kv < x.vs.length := (List.getElem?_eq_some_iff.1 h3).1
  have k0 : (0 : Int) ≤ (k : Int) := by omega
  have k1 : (k : Int) < (x.vs.length : Int) := by omega
  have k2 : (x.vs.length : Int) ≤ 9223372036854775807 := by have := hC.1; omega
  have k3 : (0 : Int) ≤ (kv : Int) := by omega
  have k4 : (kv : Int) < (x.vs.length : Int) := by omega
  have HVV := hid (And.intro v0 (And.intro v1 (And.intro v2 v3)))
  have HF := hid hF
  have HB3 := hid (below3a w (.cells #[.slice sa n sc, .slice ca m cc] 25) (.cells (CoV x (some ⟨bv, ov, none⟩) vc fa fc ia ic) 37) (.cells (InV ⟨7, kv, k, b, tt, el, f, nn, l, c, sg, xs, ms⟩ ao ac mo mc) 49))
  have HC3 := hid (chain3 w #[.slice sa n sc, .slice ca m cc] (CoV x (some ⟨bv, ov, none⟩) vc fa fc ia ic) (InV ⟨7, kv, k, b, tt, el, f, nn, l, c, sg, xs, ms⟩ ao ac mo mc) 25 37 49)
  clear hF hC h1 h2 h3 h4 hcv hcv2 hbv hbv2 v0 v1 v2 v3 hkv hkv2
  have hne : (g != 0) = true := by simpa using hg
  go_enter Try.func56, Try.ntmps56
  go_wp2_with (first
    | (go_at_call 73; refine (HF.out _ HB3.out).mono ?_; rintro e w1 ⟨rfl, hb1⟩; have HB1 := hid (after HB3.out hb1.out HB3.out.size); have b1 := fun o => cells_at1 (lay hb1.out HC3.out.2.1) o; have b2 := fun o => cells_at1 (lay hb1.out HC3.out.2.2) o; have b3 := fun o q => cells_at2 (lay hb1.out HC3.out.2.1) o q; have b4 := fun o q => cells_at2 (lay hb1.out HC3.out.2.2) o q; have d0 := fun o => kept1 o (cell_keep HB1.out (cell_lt HVV.out.1) HVV.out.1); have d1 := fun o => kept1 o (cell_keep HB1.out (cell_lt HVV.out.2.1) HVV.out.2.1); have d2 := fun o q => kept1 q (kept1 o (cell_keep HB1.out (cell_lt HVV.out.2.2.1) HVV.out.2.2.1)); have d3 := fun o q => kept1 q (kept1 o (cell_keep HB1.out (cell_lt HVV.out.2.2.2) HVV.out.2.2.2))))
  go_ret
  exact ⟨rfl, hid (after HB1.out (below1 _ _) HB1.out.size)⟩
set_option maxRecDepth 100000 in
set_option maxHeartbeats 8000000 in
theorem heap7_yes (sa ca : Option Addr) (n m sc cc : Nat) (x : CoD) (va fa ia : Option Addr) (vc fc ic : Nat) (k kv : Nat) (b tt el f nn l c : Int) (sg : ByteArray) (xs ms : List Int) (ao mo : Option Addr) (ac mc : Nat) (pp p2 tp : Bool) (nm nm2 tn : ByteArray) (w : World) (hC : RowM 3 VaAt w va x.vs) (hv : KindIs x k pp nm) (hv2 : KindIs x kv p2 nm2)
    (hF : ∀ W, Below w.heap.size w W → Calls Try.prog 73 #[.agg #[.slice sa n sc, .slice ca m cc], .agg (CoV x va vc fa fc ia ic), .int .i64 k, .int .i64 f] W fun e w' => e = .returned (.tuple #[.agg #[.bool tp, .string tn], .int .i64 0]) ∧ Hid (Below W.heap.size W w')) :
    Calls Try.prog 56 #[.agg #[.slice sa n sc, .slice ca m cc], .agg (CoV x va vc fa fc ia ic), .agg (InV ⟨7, kv, k, b, tt, el, f, nn, l, c, sg, xs, ms⟩ ao ac mo mc)] w fun e w' => e = .returned (.int .i64 (if tyEq ⟨tp, tn⟩ ⟨p2, nm2⟩ && !(tp == true) then 0 else 7)) ∧ Hid (Below w.heap.size w w') := by
  obtain ⟨v, h1, h2⟩ := hv
  obtain ⟨v', h3, h4⟩ := hv2
  obtain ⟨bv, ov, hva, hbv, hcv⟩ := hC.2 k v h1
  obtain ⟨bv2, ov2, hva2, hbv2, hcv2⟩ := hC.2 kv v' h3
  subst hva
  cases hva2
  have v0 : w.cell? ⟨bv, ov + k * 3, none⟩ = some (.bool pp) := by have := hcv 0 (.bool v.t.p) rfl; rw [h2] at this; exact this
  have v1 : w.cell? ⟨bv, ov + k * 3 + 1, none⟩ = some (.string nm) := by have := hcv 1 (.string v.t.name) rfl; rw [h2] at this; exact this
  have v2 : w.cell? ⟨bv, ov + kv * 3, none⟩ = some (.bool p2) := by have := hcv2 0 (.bool v'.t.p) rfl; rw [h4] at this; exact this
  have v3 : w.cell? ⟨bv, ov + kv * 3 + 1, none⟩ = some (.string nm2) := by have := hcv2 1 (.string v'.t.name) rfl; rw [h4] at this; exact this
  have hkv : k < x.vs.length := (List.getElem?_eq_some_iff.1 h1).1
  have hkv2 : kv < x.vs.length := (List.getElem?_eq_some_iff.1 h3).1
  have k0 : (0 : Int) ≤ (k : Int) := by omega
  have k1 : (k : Int) < (x.vs.length : Int) := by omega
  have k2 : (x.vs.length : Int) ≤ 9223372036854775807 := by have := hC.1; omega
  have k3 : (0 : Int) ≤ (kv : Int) := by omega
  have k4 : (kv : Int) < (x.vs.length : Int) := by omega
  have HVV := hid (And.intro v0 (And.intro v1 (And.intro v2 v3)))
  have HF := hid hF
  have HB3 := hid (below3a w (.cells #[.slice sa n sc, .slice ca m cc] 25) (.cells (CoV x (some ⟨bv, ov, none⟩) vc fa fc ia ic) 37) (.cells (InV ⟨7, kv, k, b, tt, el, f, nn, l, c, sg, xs, ms⟩ ao ac mo mc) 49))
  have HC3 := hid (chain3 w #[.slice sa n sc, .slice ca m cc] (CoV x (some ⟨bv, ov, none⟩) vc fa fc ia ic) (InV ⟨7, kv, k, b, tt, el, f, nn, l, c, sg, xs, ms⟩ ao ac mo mc) 25 37 49)
  clear hF hC h1 h2 h3 h4 hcv hcv2 hbv hbv2 v0 v1 v2 v3 hkv hkv2
  obtain ⟨q2, hq2⟩ : ∃ q, (tn.toList == nm2.toList) = q := ⟨_, rfl⟩
  have hf : (if tyEq ⟨tp, tn⟩ ⟨p2, nm2⟩ && !(tp == true) then (0 : Int) else 7) = if ((tp == p2) && q2) && !(tp == true) then 0 else 7 := by simp only [tyEq, sEq, hq2]
  rw [hf]
  clear hf
  cases tp
  all_goals cases p2
  all_goals cases q2
  all_goals
    go_enter Try.func56, Try.ntmps56
    go_wp2_with (first
      | (go_at_call 73; refine (HF.out _ HB3.out).mono ?_; rintro e w1 ⟨rfl, hb1⟩; have HB1 := hid (after HB3.out hb1.out HB3.out.size); have b1 := fun o => cells_at1 (lay hb1.out HC3.out.2.1) o; have b2 := fun o => cells_at1 (lay hb1.out HC3.out.2.2) o; have b3 := fun o q => cells_at2 (lay hb1.out HC3.out.2.1) o q; have b4 := fun o q => cells_at2 (lay hb1.out HC3.out.2.2) o q; have d0 := fun o => kept1 o (cell_keep HB1.out (cell_lt HVV.out.1) HVV.out.1); have d1 := fun o => kept1 o (cell_keep HB1.out (cell_lt HVV.out.2.1) HVV.out.2.1); have d2 := fun o q => kept1 q (kept1 o (cell_keep HB1.out (cell_lt HVV.out.2.2.1) HVV.out.2.2.1)); have d3 := fun o q => kept1 q (kept1 o (cell_keep HB1.out (cell_lt HVV.out.2.2.2) HVV.out.2.2.2)))
      | (go_at_call 40; refine (one_i _ _ _).mono ?_; rintro e w' ⟨rfl, rfl⟩))
    all_goals go_ret
    all_goals exact ⟨rfl, hid (after HB1.out (below2 _ _ _) HB1.out.size)⟩
set_option maxRecDepth 100000 in
set_option maxHeartbeats 8000000 in
theorem heap8_no (sa ca : Option Addr) (n m sc cc : Nat) (x : CoD) (va fa ia : Option Addr) (vc fc ic : Nat) (k kv : Nat) (d tt el f nn l c : Int) (sg : ByteArray) (xs ms : List Int) (ao mo : Option Addr) (ac mc : Nat) (pp p2 tp : Bool) (nm nm2 tn : ByteArray) (g : Int) (w : World) (hC : RowM 3 VaAt w va x.vs) (hv : KindIs x k pp nm) (hv2 : KindIs x kv p2 nm2)
    (hF : ∀ W, Below w.heap.size w W → Calls Try.prog 73 #[.agg #[.slice sa n sc, .slice ca m cc], .agg (CoV x va vc fa fc ia ic), .int .i64 k, .int .i64 f] W fun e w' => e = .returned (.tuple #[.agg #[.bool tp, .string tn], .int .i64 g]) ∧ Hid (Below W.heap.size W w')) (hg : ¬ g = 0) :
    Calls Try.prog 56 #[.agg #[.slice sa n sc, .slice ca m cc], .agg (CoV x va vc fa fc ia ic), .agg (InV ⟨8, d, k, kv, tt, el, f, nn, l, c, sg, xs, ms⟩ ao ac mo mc)] w fun e w' => e = .returned (.int .i64 g) ∧ Hid (Below w.heap.size w w') := by
  obtain ⟨v, h1, h2⟩ := hv
  obtain ⟨v', h3, h4⟩ := hv2
  obtain ⟨bv, ov, hva, hbv, hcv⟩ := hC.2 k v h1
  obtain ⟨bv2, ov2, hva2, hbv2, hcv2⟩ := hC.2 kv v' h3
  subst hva
  cases hva2
  have v0 : w.cell? ⟨bv, ov + k * 3, none⟩ = some (.bool pp) := by have := hcv 0 (.bool v.t.p) rfl; rw [h2] at this; exact this
  have v1 : w.cell? ⟨bv, ov + k * 3 + 1, none⟩ = some (.string nm) := by have := hcv 1 (.string v.t.name) rfl; rw [h2] at this; exact this
  have v2 : w.cell? ⟨bv, ov + kv * 3, none⟩ = some (.bool p2) := by have := hcv2 0 (.bool v'.t.p) rfl; rw [h4] at this; exact this
  have v3 : w.cell? ⟨bv, ov + kv * 3 + 1, none⟩ = some (.string nm2) := by have := hcv2 1 (.string v'.t.name) rfl; rw [h4] at this; exact this
  have hkv : k < x.vs.length := (List.getElem?_eq_some_iff.1 h1).1
  have hkv2 : kv < x.vs.length := (List.getElem?_eq_some_iff.1 h3).1
  have k0 : (0 : Int) ≤ (k : Int) := by omega
  have k1 : (k : Int) < (x.vs.length : Int) := by omega
  have k2 : (x.vs.length : Int) ≤ 9223372036854775807 := by have := hC.1; omega
  have k3 : (0 : Int) ≤ (kv : Int) := by omega
  have k4 : (kv : Int) < (x.vs.length : Int) := by omega
  have HVV := hid (And.intro v0 (And.intro v1 (And.intro v2 v3)))
  have HF := hid hF
  have HB3 := hid (below3a w (.cells #[.slice sa n sc, .slice ca m cc] 25) (.cells (CoV x (some ⟨bv, ov, none⟩) vc fa fc ia ic) 37) (.cells (InV ⟨8, d, k, kv, tt, el, f, nn, l, c, sg, xs, ms⟩ ao ac mo mc) 49))
  have HC3 := hid (chain3 w #[.slice sa n sc, .slice ca m cc] (CoV x (some ⟨bv, ov, none⟩) vc fa fc ia ic) (InV ⟨8, d, k, kv, tt, el, f, nn, l, c, sg, xs, ms⟩ ao ac mo mc) 25 37 49)
  clear hF hC h1 h2 h3 h4 hcv hcv2 hbv hbv2 v0 v1 v2 v3 hkv hkv2
  have hne : (g != 0) = true := by simpa using hg
  go_enter Try.func56, Try.ntmps56
  go_wp2_with (first
    | (go_at_call 73; refine (HF.out _ HB3.out).mono ?_; rintro e w1 ⟨rfl, hb1⟩; have HB1 := hid (after HB3.out hb1.out HB3.out.size); have b1 := fun o => cells_at1 (lay hb1.out HC3.out.2.1) o; have b2 := fun o => cells_at1 (lay hb1.out HC3.out.2.2) o; have b3 := fun o q => cells_at2 (lay hb1.out HC3.out.2.1) o q; have b4 := fun o q => cells_at2 (lay hb1.out HC3.out.2.2) o q; have d0 := fun o => kept1 o (cell_keep HB1.out (cell_lt HVV.out.1) HVV.out.1); have d1 := fun o => kept1 o (cell_keep HB1.out (cell_lt HVV.out.2.1) HVV.out.2.1); have d2 := fun o q => kept1 q (kept1 o (cell_keep HB1.out (cell_lt HVV.out.2.2.1) HVV.out.2.2.1)); have d3 := fun o q => kept1 q (kept1 o (cell_keep HB1.out (cell_lt HVV.out.2.2.2) HVV.out.2.2.2))))
  go_ret
  exact ⟨rfl, hid (after HB1.out (below1 _ _) HB1.out.size)⟩
set_option maxRecDepth 100000 in
set_option maxHeartbeats 8000000 in
theorem heap8_yes (sa ca : Option Addr) (n m sc cc : Nat) (x : CoD) (va fa ia : Option Addr) (vc fc ic : Nat) (k kv : Nat) (d tt el f nn l c : Int) (sg : ByteArray) (xs ms : List Int) (ao mo : Option Addr) (ac mc : Nat) (pp p2 tp : Bool) (nm nm2 tn : ByteArray) (w : World) (hC : RowM 3 VaAt w va x.vs) (hv : KindIs x k pp nm) (hv2 : KindIs x kv p2 nm2)
    (hF : ∀ W, Below w.heap.size w W → Calls Try.prog 73 #[.agg #[.slice sa n sc, .slice ca m cc], .agg (CoV x va vc fa fc ia ic), .int .i64 k, .int .i64 f] W fun e w' => e = .returned (.tuple #[.agg #[.bool tp, .string tn], .int .i64 0]) ∧ Hid (Below W.heap.size W w')) :
    Calls Try.prog 56 #[.agg #[.slice sa n sc, .slice ca m cc], .agg (CoV x va vc fa fc ia ic), .agg (InV ⟨8, d, k, kv, tt, el, f, nn, l, c, sg, xs, ms⟩ ao ac mo mc)] w fun e w' => e = .returned (.int .i64 (if tyEq ⟨tp, tn⟩ ⟨p2, nm2⟩ && !(tp == true) then 0 else 7)) ∧ Hid (Below w.heap.size w w') := by
  obtain ⟨v, h1, h2⟩ := hv
  obtain ⟨v', h3, h4⟩ := hv2
  obtain ⟨bv, ov, hva, hbv, hcv⟩ := hC.2 k v h1
  obtain ⟨bv2, ov2, hva2, hbv2, hcv2⟩ := hC.2 kv v' h3
  subst hva
  cases hva2
  have v0 : w.cell? ⟨bv, ov + k * 3, none⟩ = some (.bool pp) := by have := hcv 0 (.bool v.t.p) rfl; rw [h2] at this; exact this
  have v1 : w.cell? ⟨bv, ov + k * 3 + 1, none⟩ = some (.string nm) := by have := hcv 1 (.string v.t.name) rfl; rw [h2] at this; exact this
  have v2 : w.cell? ⟨bv, ov + kv * 3, none⟩ = some (.bool p2) := by have := hcv2 0 (.bool v'.t.p) rfl; rw [h4] at this; exact this
  have v3 : w.cell? ⟨bv, ov + kv * 3 + 1, none⟩ = some (.string nm2) := by have := hcv2 1 (.string v'.t.name) rfl; rw [h4] at this; exact this
  have hkv : k < x.vs.length := (List.getElem?_eq_some_iff.1 h1).1
  have hkv2 : kv < x.vs.length := (List.getElem?_eq_some_iff.1 h3).1
  have k0 : (0 : Int) ≤ (k : Int) := by omega
  have k1 : (k : Int) < (x.vs.length : Int) := by omega
  have k2 : (x.vs.length : Int) ≤ 9223372036854775807 := by have := hC.1; omega
  have k3 : (0 : Int) ≤ (kv : Int) := by omega
  have k4 : (kv : Int) < (x.vs.length : Int) := by omega
  have HVV := hid (And.intro v0 (And.intro v1 (And.intro v2 v3)))
  have HF := hid hF
  have HB3 := hid (below3a w (.cells #[.slice sa n sc, .slice ca m cc] 25) (.cells (CoV x (some ⟨bv, ov, none⟩) vc fa fc ia ic) 37) (.cells (InV ⟨8, d, k, kv, tt, el, f, nn, l, c, sg, xs, ms⟩ ao ac mo mc) 49))
  have HC3 := hid (chain3 w #[.slice sa n sc, .slice ca m cc] (CoV x (some ⟨bv, ov, none⟩) vc fa fc ia ic) (InV ⟨8, d, k, kv, tt, el, f, nn, l, c, sg, xs, ms⟩ ao ac mo mc) 25 37 49)
  clear hF hC h1 h2 h3 h4 hcv hcv2 hbv hbv2 v0 v1 v2 v3 hkv hkv2
  obtain ⟨q2, hq2⟩ : ∃ q, (tn.toList == nm2.toList) = q := ⟨_, rfl⟩
  have hf : (if tyEq ⟨tp, tn⟩ ⟨p2, nm2⟩ && !(tp == true) then (0 : Int) else 7) = if ((tp == p2) && q2) && !(tp == true) then 0 else 7 := by simp only [tyEq, sEq, hq2]
  rw [hf]
  clear hf
  cases tp
  all_goals cases p2
  all_goals cases q2
  all_goals
    go_enter Try.func56, Try.ntmps56
    go_wp2_with (first
      | (go_at_call 73; refine (HF.out _ HB3.out).mono ?_; rintro e w1 ⟨rfl, hb1⟩; have HB1 := hid (after HB3.out hb1.out HB3.out.size); have b1 := fun o => cells_at1 (lay hb1.out HC3.out.2.1) o; have b2 := fun o => cells_at1 (lay hb1.out HC3.out.2.2) o; have b3 := fun o q => cells_at2 (lay hb1.out HC3.out.2.1) o q; have b4 := fun o q => cells_at2 (lay hb1.out HC3.out.2.2) o q; have d0 := fun o => kept1 o (cell_keep HB1.out (cell_lt HVV.out.1) HVV.out.1); have d1 := fun o => kept1 o (cell_keep HB1.out (cell_lt HVV.out.2.1) HVV.out.2.1); have d2 := fun o q => kept1 q (kept1 o (cell_keep HB1.out (cell_lt HVV.out.2.2.1) HVV.out.2.2.1)); have d3 := fun o q => kept1 q (kept1 o (cell_keep HB1.out (cell_lt HVV.out.2.2.2) HVV.out.2.2.2)))
      | (go_at_call 40; refine (one_i _ _ _).mono ?_; rintro e w' ⟨rfl, rfl⟩))
    all_goals go_ret
    all_goals exact ⟨rfl, hid (after HB1.out (below2 _ _ _) HB1.out.size)⟩
set_option maxRecDepth 100000 in
set_option maxHeartbeats 8000000 in
theorem heap10_no (sa ca : Option Addr) (n m sc cc : Nat) (x : CoD) (va fa ia : Option Addr) (vc fc ic : Nat) (k kv : Nat) (b tt el f nn l c : Int) (sg : ByteArray) (xs ms : List Int) (ao mo : Option Addr) (ac mc : Nat) (pp p2 tp : Bool) (nm nm2 tn : ByteArray) (g : Int) (w : World) (hC : RowM 3 VaAt w va x.vs) (hv : KindIs x k pp nm) (hv2 : KindIs x kv p2 nm2)
    (hF : ∀ W, Below w.heap.size w W → Calls Try.prog 73 #[.agg #[.slice sa n sc, .slice ca m cc], .agg (CoV x va vc fa fc ia ic), .int .i64 k, .int .i64 f] W fun e w' => e = .returned (.tuple #[.agg #[.bool tp, .string tn], .int .i64 g]) ∧ Hid (Below W.heap.size W w')) (hg : ¬ g = 0) :
    Calls Try.prog 56 #[.agg #[.slice sa n sc, .slice ca m cc], .agg (CoV x va vc fa fc ia ic), .agg (InV ⟨10, kv, k, b, tt, el, f, nn, l, c, sg, xs, ms⟩ ao ac mo mc)] w fun e w' => e = .returned (.int .i64 g) ∧ Hid (Below w.heap.size w w') := by
  obtain ⟨v, h1, h2⟩ := hv
  obtain ⟨v', h3, h4⟩ := hv2
  obtain ⟨bv, ov, hva, hbv, hcv⟩ := hC.2 k v h1
  obtain ⟨bv2, ov2, hva2, hbv2, hcv2⟩ := hC.2 kv v' h3
  subst hva
  cases hva2
  have v0 : w.cell? ⟨bv, ov + k * 3, none⟩ = some (.bool pp) := by have := hcv 0 (.bool v.t.p) rfl; rw [h2] at this; exact this
  have v1 : w.cell? ⟨bv, ov + k * 3 + 1, none⟩ = some (.string nm) := by have := hcv 1 (.string v.t.name) rfl; rw [h2] at this; exact this
  have v2 : w.cell? ⟨bv, ov + kv * 3, none⟩ = some (.bool p2) := by have := hcv2 0 (.bool v'.t.p) rfl; rw [h4] at this; exact this
  have v3 : w.cell? ⟨bv, ov + kv * 3 + 1, none⟩ = some (.string nm2) := by have := hcv2 1 (.string v'.t.name) rfl; rw [h4] at this; exact this
  have hkv : k < x.vs.length := (List.getElem?_eq_some_iff.1 h1).1
  have hkv2 : kv < x.vs.length := (List.getElem?_eq_some_iff.1 h3).1
  have k0 : (0 : Int) ≤ (k : Int) := by omega
  have k1 : (k : Int) < (x.vs.length : Int) := by omega
  have k2 : (x.vs.length : Int) ≤ 9223372036854775807 := by have := hC.1; omega
  have k3 : (0 : Int) ≤ (kv : Int) := by omega
  have k4 : (kv : Int) < (x.vs.length : Int) := by omega
  have HVV := hid (And.intro v0 (And.intro v1 (And.intro v2 v3)))
  have HF := hid hF
  have HB3 := hid (below3a w (.cells #[.slice sa n sc, .slice ca m cc] 25) (.cells (CoV x (some ⟨bv, ov, none⟩) vc fa fc ia ic) 37) (.cells (InV ⟨10, kv, k, b, tt, el, f, nn, l, c, sg, xs, ms⟩ ao ac mo mc) 49))
  have HC3 := hid (chain3 w #[.slice sa n sc, .slice ca m cc] (CoV x (some ⟨bv, ov, none⟩) vc fa fc ia ic) (InV ⟨10, kv, k, b, tt, el, f, nn, l, c, sg, xs, ms⟩ ao ac mo mc) 25 37 49)
  clear hF hC h1 h2 h3 h4 hcv hcv2 hbv hbv2 v0 v1 v2 v3 hkv hkv2
  have hne : (g != 0) = true := by simpa using hg
  go_enter Try.func56, Try.ntmps56
  go_wp2_with (first
    | (go_at_call 73; refine (HF.out _ HB3.out).mono ?_; rintro e w1 ⟨rfl, hb1⟩; have HB1 := hid (after HB3.out hb1.out HB3.out.size); have b1 := fun o => cells_at1 (lay hb1.out HC3.out.2.1) o; have b2 := fun o => cells_at1 (lay hb1.out HC3.out.2.2) o; have b3 := fun o q => cells_at2 (lay hb1.out HC3.out.2.1) o q; have b4 := fun o q => cells_at2 (lay hb1.out HC3.out.2.2) o q; have d0 := fun o => kept1 o (cell_keep HB1.out (cell_lt HVV.out.1) HVV.out.1); have d1 := fun o => kept1 o (cell_keep HB1.out (cell_lt HVV.out.2.1) HVV.out.2.1); have d2 := fun o q => kept1 q (kept1 o (cell_keep HB1.out (cell_lt HVV.out.2.2.1) HVV.out.2.2.1)); have d3 := fun o q => kept1 q (kept1 o (cell_keep HB1.out (cell_lt HVV.out.2.2.2) HVV.out.2.2.2))))
  go_ret
  exact ⟨rfl, hid (after HB1.out (below1 _ _) HB1.out.size)⟩
set_option maxRecDepth 100000 in
set_option maxHeartbeats 8000000 in
theorem heap10_yes (sa ca : Option Addr) (n m sc cc : Nat) (x : CoD) (va fa ia : Option Addr) (vc fc ic : Nat) (k kv : Nat) (b tt el f nn l c : Int) (sg : ByteArray) (xs ms : List Int) (ao mo : Option Addr) (ac mc : Nat) (pp p2 tp : Bool) (nm nm2 tn : ByteArray) (w : World) (hC : RowM 3 VaAt w va x.vs) (hv : KindIs x k pp nm) (hv2 : KindIs x kv p2 nm2)
    (hF : ∀ W, Below w.heap.size w W → Calls Try.prog 73 #[.agg #[.slice sa n sc, .slice ca m cc], .agg (CoV x va vc fa fc ia ic), .int .i64 k, .int .i64 f] W fun e w' => e = .returned (.tuple #[.agg #[.bool tp, .string tn], .int .i64 0]) ∧ Hid (Below W.heap.size W w')) :
    Calls Try.prog 56 #[.agg #[.slice sa n sc, .slice ca m cc], .agg (CoV x va vc fa fc ia ic), .agg (InV ⟨10, kv, k, b, tt, el, f, nn, l, c, sg, xs, ms⟩ ao ac mo mc)] w fun e w' => e = .returned (.int .i64 (if tyEq ⟨tp, tn⟩ ⟨p2, nm2⟩ && !(tp == false) then 0 else 7)) ∧ Hid (Below w.heap.size w w') := by
  obtain ⟨v, h1, h2⟩ := hv
  obtain ⟨v', h3, h4⟩ := hv2
  obtain ⟨bv, ov, hva, hbv, hcv⟩ := hC.2 k v h1
  obtain ⟨bv2, ov2, hva2, hbv2, hcv2⟩ := hC.2 kv v' h3
  subst hva
  cases hva2
  have v0 : w.cell? ⟨bv, ov + k * 3, none⟩ = some (.bool pp) := by have := hcv 0 (.bool v.t.p) rfl; rw [h2] at this; exact this
  have v1 : w.cell? ⟨bv, ov + k * 3 + 1, none⟩ = some (.string nm) := by have := hcv 1 (.string v.t.name) rfl; rw [h2] at this; exact this
  have v2 : w.cell? ⟨bv, ov + kv * 3, none⟩ = some (.bool p2) := by have := hcv2 0 (.bool v'.t.p) rfl; rw [h4] at this; exact this
  have v3 : w.cell? ⟨bv, ov + kv * 3 + 1, none⟩ = some (.string nm2) := by have := hcv2 1 (.string v'.t.name) rfl; rw [h4] at this; exact this
  have hkv : k < x.vs.length := (List.getElem?_eq_some_iff.1 h1).1
  have hkv2 : kv < x.vs.length := (List.getElem?_eq_some_iff.1 h3).1
  have k0 : (0 : Int) ≤ (k : Int) := by omega
  have k1 : (k : Int) < (x.vs.length : Int) := by omega
  have k2 : (x.vs.length : Int) ≤ 9223372036854775807 := by have := hC.1; omega
  have k3 : (0 : Int) ≤ (kv : Int) := by omega
  have k4 : (kv : Int) < (x.vs.length : Int) := by omega
  have HVV := hid (And.intro v0 (And.intro v1 (And.intro v2 v3)))
  have HF := hid hF
  have HB3 := hid (below3a w (.cells #[.slice sa n sc, .slice ca m cc] 25) (.cells (CoV x (some ⟨bv, ov, none⟩) vc fa fc ia ic) 37) (.cells (InV ⟨10, kv, k, b, tt, el, f, nn, l, c, sg, xs, ms⟩ ao ac mo mc) 49))
  have HC3 := hid (chain3 w #[.slice sa n sc, .slice ca m cc] (CoV x (some ⟨bv, ov, none⟩) vc fa fc ia ic) (InV ⟨10, kv, k, b, tt, el, f, nn, l, c, sg, xs, ms⟩ ao ac mo mc) 25 37 49)
  clear hF hC h1 h2 h3 h4 hcv hcv2 hbv hbv2 v0 v1 v2 v3 hkv hkv2
  obtain ⟨q2, hq2⟩ : ∃ q, (tn.toList == nm2.toList) = q := ⟨_, rfl⟩
  have hf : (if tyEq ⟨tp, tn⟩ ⟨p2, nm2⟩ && !(tp == false) then (0 : Int) else 7) = if ((tp == p2) && q2) && !(tp == false) then 0 else 7 := by simp only [tyEq, sEq, hq2]
  rw [hf]
  clear hf
  cases tp
  all_goals cases p2
  all_goals cases q2
  all_goals
    go_enter Try.func56, Try.ntmps56
    go_wp2_with (first
      | (go_at_call 73; refine (HF.out _ HB3.out).mono ?_; rintro e w1 ⟨rfl, hb1⟩; have HB1 := hid (after HB3.out hb1.out HB3.out.size); have b1 := fun o => cells_at1 (lay hb1.out HC3.out.2.1) o; have b2 := fun o => cells_at1 (lay hb1.out HC3.out.2.2) o; have b3 := fun o q => cells_at2 (lay hb1.out HC3.out.2.1) o q; have b4 := fun o q => cells_at2 (lay hb1.out HC3.out.2.2) o q; have d0 := fun o => kept1 o (cell_keep HB1.out (cell_lt HVV.out.1) HVV.out.1); have d1 := fun o => kept1 o (cell_keep HB1.out (cell_lt HVV.out.2.1) HVV.out.2.1); have d2 := fun o q => kept1 q (kept1 o (cell_keep HB1.out (cell_lt HVV.out.2.2.1) HVV.out.2.2.1)); have d3 := fun o q => kept1 q (kept1 o (cell_keep HB1.out (cell_lt HVV.out.2.2.2) HVV.out.2.2.2)))
      | (go_at_call 40; refine (one_i _ _ _).mono ?_; rintro e w' ⟨rfl, rfl⟩))
    all_goals go_ret
    all_goals exact ⟨rfl, hid (after HB1.out (below2 _ _ _) HB1.out.size)⟩
set_option maxRecDepth 100000 in
set_option maxHeartbeats 8000000 in
theorem heap11_no (sa ca : Option Addr) (n m sc cc : Nat) (x : CoD) (va fa ia : Option Addr) (vc fc ic : Nat) (k kv : Nat) (d tt el f nn l c : Int) (sg : ByteArray) (xs ms : List Int) (ao mo : Option Addr) (ac mc : Nat) (pp p2 tp : Bool) (nm nm2 tn : ByteArray) (g : Int) (w : World) (hC : RowM 3 VaAt w va x.vs) (hv : KindIs x k pp nm) (hv2 : KindIs x kv p2 nm2)
    (hF : ∀ W, Below w.heap.size w W → Calls Try.prog 73 #[.agg #[.slice sa n sc, .slice ca m cc], .agg (CoV x va vc fa fc ia ic), .int .i64 k, .int .i64 f] W fun e w' => e = .returned (.tuple #[.agg #[.bool tp, .string tn], .int .i64 g]) ∧ Hid (Below W.heap.size W w')) (hg : ¬ g = 0) :
    Calls Try.prog 56 #[.agg #[.slice sa n sc, .slice ca m cc], .agg (CoV x va vc fa fc ia ic), .agg (InV ⟨11, d, k, kv, tt, el, f, nn, l, c, sg, xs, ms⟩ ao ac mo mc)] w fun e w' => e = .returned (.int .i64 g) ∧ Hid (Below w.heap.size w w') := by
  obtain ⟨v, h1, h2⟩ := hv
  obtain ⟨v', h3, h4⟩ := hv2
  obtain ⟨bv, ov, hva, hbv, hcv⟩ := hC.2 k v h1
  obtain ⟨bv2, ov2, hva2, hbv2, hcv2⟩ := hC.2 kv v' h3
  subst hva
  cases hva2
  have v0 : w.cell? ⟨bv, ov + k * 3, none⟩ = some (.bool pp) := by have := hcv 0 (.bool v.t.p) rfl; rw [h2] at this; exact this
  have v1 : w.cell? ⟨bv, ov + k * 3 + 1, none⟩ = some (.string nm) := by have := hcv 1 (.string v.t.name) rfl; rw [h2] at this; exact this
  have v2 : w.cell? ⟨bv, ov + kv * 3, none⟩ = some (.bool p2) := by have := hcv2 0 (.bool v'.t.p) rfl; rw [h4] at this; exact this
  have v3 : w.cell? ⟨bv, ov + kv * 3 + 1, none⟩ = some (.string nm2) := by have := hcv2 1 (.string v'.t.name) rfl; rw [h4] at this; exact this
  have hkv : k < x.vs.length := (List.getElem?_eq_some_iff.1 h1).1
  have hkv2 : kv < x.vs.length := (List.getElem?_eq_some_iff.1 h3).1
  have k0 : (0 : Int) ≤ (k : Int) := by omega
  have k1 : (k : Int) < (x.vs.length : Int) := by omega
  have k2 : (x.vs.length : Int) ≤ 9223372036854775807 := by have := hC.1; omega
  have k3 : (0 : Int) ≤ (kv : Int) := by omega
  have k4 : (kv : Int) < (x.vs.length : Int) := by omega
  have HVV := hid (And.intro v0 (And.intro v1 (And.intro v2 v3)))
  have HF := hid hF
  have HB3 := hid (below3a w (.cells #[.slice sa n sc, .slice ca m cc] 25) (.cells (CoV x (some ⟨bv, ov, none⟩) vc fa fc ia ic) 37) (.cells (InV ⟨11, d, k, kv, tt, el, f, nn, l, c, sg, xs, ms⟩ ao ac mo mc) 49))
  have HC3 := hid (chain3 w #[.slice sa n sc, .slice ca m cc] (CoV x (some ⟨bv, ov, none⟩) vc fa fc ia ic) (InV ⟨11, d, k, kv, tt, el, f, nn, l, c, sg, xs, ms⟩ ao ac mo mc) 25 37 49)
  clear hF hC h1 h2 h3 h4 hcv hcv2 hbv hbv2 v0 v1 v2 v3 hkv hkv2
  have hne : (g != 0) = true := by simpa using hg
  go_enter Try.func56, Try.ntmps56
  go_wp2_with (first
    | (go_at_call 73; refine (HF.out _ HB3.out).mono ?_; rintro e w1 ⟨rfl, hb1⟩; have HB1 := hid (after HB3.out hb1.out HB3.out.size); have b1 := fun o => cells_at1 (lay hb1.out HC3.out.2.1) o; have b2 := fun o => cells_at1 (lay hb1.out HC3.out.2.2) o; have b3 := fun o q => cells_at2 (lay hb1.out HC3.out.2.1) o q; have b4 := fun o q => cells_at2 (lay hb1.out HC3.out.2.2) o q; have d0 := fun o => kept1 o (cell_keep HB1.out (cell_lt HVV.out.1) HVV.out.1); have d1 := fun o => kept1 o (cell_keep HB1.out (cell_lt HVV.out.2.1) HVV.out.2.1); have d2 := fun o q => kept1 q (kept1 o (cell_keep HB1.out (cell_lt HVV.out.2.2.1) HVV.out.2.2.1)); have d3 := fun o q => kept1 q (kept1 o (cell_keep HB1.out (cell_lt HVV.out.2.2.2) HVV.out.2.2.2))))
  go_ret
  exact ⟨rfl, hid (after HB1.out (below1 _ _) HB1.out.size)⟩
set_option maxRecDepth 100000 in
set_option maxHeartbeats 8000000 in
theorem heap11_yes (sa ca : Option Addr) (n m sc cc : Nat) (x : CoD) (va fa ia : Option Addr) (vc fc ic : Nat) (k kv : Nat) (d tt el f nn l c : Int) (sg : ByteArray) (xs ms : List Int) (ao mo : Option Addr) (ac mc : Nat) (pp p2 tp : Bool) (nm nm2 tn : ByteArray) (w : World) (hC : RowM 3 VaAt w va x.vs) (hv : KindIs x k pp nm) (hv2 : KindIs x kv p2 nm2)
    (hF : ∀ W, Below w.heap.size w W → Calls Try.prog 73 #[.agg #[.slice sa n sc, .slice ca m cc], .agg (CoV x va vc fa fc ia ic), .int .i64 k, .int .i64 f] W fun e w' => e = .returned (.tuple #[.agg #[.bool tp, .string tn], .int .i64 0]) ∧ Hid (Below W.heap.size W w')) :
    Calls Try.prog 56 #[.agg #[.slice sa n sc, .slice ca m cc], .agg (CoV x va vc fa fc ia ic), .agg (InV ⟨11, d, k, kv, tt, el, f, nn, l, c, sg, xs, ms⟩ ao ac mo mc)] w fun e w' => e = .returned (.int .i64 (if tyEq ⟨tp, tn⟩ ⟨p2, nm2⟩ && !(tp == false) then 0 else 7)) ∧ Hid (Below w.heap.size w w') := by
  obtain ⟨v, h1, h2⟩ := hv
  obtain ⟨v', h3, h4⟩ := hv2
  obtain ⟨bv, ov, hva, hbv, hcv⟩ := hC.2 k v h1
  obtain ⟨bv2, ov2, hva2, hbv2, hcv2⟩ := hC.2 kv v' h3
  subst hva
  cases hva2
  have v0 : w.cell? ⟨bv, ov + k * 3, none⟩ = some (.bool pp) := by have := hcv 0 (.bool v.t.p) rfl; rw [h2] at this; exact this
  have v1 : w.cell? ⟨bv, ov + k * 3 + 1, none⟩ = some (.string nm) := by have := hcv 1 (.string v.t.name) rfl; rw [h2] at this; exact this
  have v2 : w.cell? ⟨bv, ov + kv * 3, none⟩ = some (.bool p2) := by have := hcv2 0 (.bool v'.t.p) rfl; rw [h4] at this; exact this
  have v3 : w.cell? ⟨bv, ov + kv * 3 + 1, none⟩ = some (.string nm2) := by have := hcv2 1 (.string v'.t.name) rfl; rw [h4] at this; exact this
  have hkv : k < x.vs.length := (List.getElem?_eq_some_iff.1 h1).1
  have hkv2 : kv < x.vs.length := (List.getElem?_eq_some_iff.1 h3).1
  have k0 : (0 : Int) ≤ (k : Int) := by omega
  have k1 : (k : Int) < (x.vs.length : Int) := by omega
  have k2 : (x.vs.length : Int) ≤ 9223372036854775807 := by have := hC.1; omega
  have k3 : (0 : Int) ≤ (kv : Int) := by omega
  have k4 : (kv : Int) < (x.vs.length : Int) := by omega
  have HVV := hid (And.intro v0 (And.intro v1 (And.intro v2 v3)))
  have HF := hid hF
  have HB3 := hid (below3a w (.cells #[.slice sa n sc, .slice ca m cc] 25) (.cells (CoV x (some ⟨bv, ov, none⟩) vc fa fc ia ic) 37) (.cells (InV ⟨11, d, k, kv, tt, el, f, nn, l, c, sg, xs, ms⟩ ao ac mo mc) 49))
  have HC3 := hid (chain3 w #[.slice sa n sc, .slice ca m cc] (CoV x (some ⟨bv, ov, none⟩) vc fa fc ia ic) (InV ⟨11, d, k, kv, tt, el, f, nn, l, c, sg, xs, ms⟩ ao ac mo mc) 25 37 49)
  clear hF hC h1 h2 h3 h4 hcv hcv2 hbv hbv2 v0 v1 v2 v3 hkv hkv2
  obtain ⟨q2, hq2⟩ : ∃ q, (tn.toList == nm2.toList) = q := ⟨_, rfl⟩
  have hf : (if tyEq ⟨tp, tn⟩ ⟨p2, nm2⟩ && !(tp == false) then (0 : Int) else 7) = if ((tp == p2) && q2) && !(tp == false) then 0 else 7 := by simp only [tyEq, sEq, hq2]
  rw [hf]
  clear hf
  cases tp
  all_goals cases p2
  all_goals cases q2
  all_goals
    go_enter Try.func56, Try.ntmps56
    go_wp2_with (first
      | (go_at_call 73; refine (HF.out _ HB3.out).mono ?_; rintro e w1 ⟨rfl, hb1⟩; have HB1 := hid (after HB3.out hb1.out HB3.out.size); have b1 := fun o => cells_at1 (lay hb1.out HC3.out.2.1) o; have b2 := fun o => cells_at1 (lay hb1.out HC3.out.2.2) o; have b3 := fun o q => cells_at2 (lay hb1.out HC3.out.2.1) o q; have b4 := fun o q => cells_at2 (lay hb1.out HC3.out.2.2) o q; have d0 := fun o => kept1 o (cell_keep HB1.out (cell_lt HVV.out.1) HVV.out.1); have d1 := fun o => kept1 o (cell_keep HB1.out (cell_lt HVV.out.2.1) HVV.out.2.1); have d2 := fun o q => kept1 q (kept1 o (cell_keep HB1.out (cell_lt HVV.out.2.2.1) HVV.out.2.2.1)); have d3 := fun o q => kept1 q (kept1 o (cell_keep HB1.out (cell_lt HVV.out.2.2.2) HVV.out.2.2.2)))
      | (go_at_call 40; refine (one_i _ _ _).mono ?_; rintro e w' ⟨rfl, rfl⟩))
    all_goals go_ret
    all_goals exact ⟨rfl, hid (after HB1.out (below2 _ _ _) HB1.out.size)⟩
end Go.Proofs.Ytfhdiahjfnphkaa
