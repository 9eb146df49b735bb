/- The table in memory: is a variable, an instruction there? Who is asked ahead, and behind? No conditions but sizes. -/
import Derived.Test.YtlbcinanpnjjjaaDoorLvD
import Derived.Deep.RegionHeld3
namespace Go.Proofs.YtlbcinanpnjjjaaDoor
open Go.RowKit Go.Maps
set_option linter.unusedVariables false
set_option linter.unusedSimpArgs false
/-- The table's cells. -/
abbrev TabV (c : CoD) (va : Option Addr) (vc : Nat) (fa : Option Addr) (fc : Nat) (ia : Option Addr) (ic : Nat) (TA TB n : Nat) : Array Value :=
  #[.string c.nm, .int .i64 c.pr, .slice va c.vs.length vc, .bool c.rt.t.p, .string c.rt.t.name, .int .i64 c.rt.cls, .slice fa c.fr.length fc, .slice ia c.ins.length ic, .slice (some ⟨TA, 0, none⟩) n n, .slice (some ⟨TB, 0, none⟩) n n]
/-- The table of x in memory, n instructions. -/
structure LT (w : World) (x : CoD) (va fa ia : Option Addr) (vc fc ic n nw P TA TB : Nat) (gA gB : Nat → Nat) (mA mB : Nat → Nat → Bool) (W : World) : Prop where
  bel : Below w.heap.size w W
  box : W.heap[P]? = some (.cells (TabV x va vc fa fc ia ic TA TB n) 60 (0, 0))
  ra : RowsM W TA n n nw w.heap.size gA mA
  rb : RowsM W TB n n nw w.heap.size gB mB
  lo : w.heap.size ≤ P
  ap : ∀ i j, i < n → j < n → gA i ≠ gB j
section
variable {w W W' : World} {x : CoD} {va fa ia : Option Addr} {vc fc ic n nw P TA TB : Nat} {gA gB : Nat → Nat} {mA mB mA' mB' : Nat → Nat → Bool}
theorem LT.later (h : LT w x va fa ia vc fc ic n nw P TA TB gA gB mA mB W) (hb : Below W.heap.size W W') : LT w x va fa ia vc fc ic n nw P TA TB gA gB mA mB W' :=
  ⟨after h.bel hb h.bel.size, lay hb h.box, h.ra.later hb, h.rb.later hb, h.lo, h.ap⟩
theorem LT.drew (h : LT w x va fa ia vc fc ic n nw P TA TB gA gB mA mB W) (k : Nat) : LT w x va fa ia vc fc ic n nw P TA TB gA gB mA mB (W.drewN k) := h.later (below_drewN (Below.refl _ _) k)
theorem LT.neA {i j : Nat} (h : LT w x va fa ia vc fc ic n nw P TA TB gA gB mA mB W) (hi : i < n) : TB ≠ gA i ∧ P ≠ gA i := by
  obtain ⟨cs, h1, -⟩ := h.rb.blk
  exact ⟨(h.ra.row i hi).ne h1 (by decide), (h.ra.row i hi).ne h.box (by decide)⟩
theorem LT.neB {i j : Nat} (h : LT w x va fa ia vc fc ic n nw P TA TB gA gB mA mB W) (hi : i < n) : TA ≠ gB i ∧ P ≠ gB i := by
  obtain ⟨cs, h1, -⟩ := h.ra.blk
  exact ⟨(h.rb.row i hi).ne h1 (by decide), (h.rb.row i hi).ne h.box (by decide)⟩
theorem LT.setA {i : Nat} {f : Nat → Bool} (h : LT w x va fa ia vc fc ic n nw P TA TB gA gB mA mB W) (hi : i < n) (hk : Kept (gA i) W W') (hf : BitM W' (gA i) nw f) : LT w x va fa ia vc fc ic n nw P TA TB gA gB (upd mA i f) mB W' :=
  ⟨h.bel.trans (hk.below.mono (h.ra.lo i hi)), (hk.block _ (h.neA (j := 0) hi).2).trans h.box, h.ra.set hi hk hf, h.rb.keep (fun j hj e => h.ap i j hi hj e.symm) (h.neA (j := 0) hi).1 hk, h.lo, h.ap⟩
theorem LT.setB {i : Nat} {f : Nat → Bool} (h : LT w x va fa ia vc fc ic n nw P TA TB gA gB mA mB W) (hi : i < n) (hk : Kept (gB i) W W') (hf : BitM W' (gB i) nw f) : LT w x va fa ia vc fc ic n nw P TA TB gA gB mA (upd mB i f) W' :=
  ⟨h.bel.trans (hk.below.mono (h.rb.lo i hi)), (hk.block _ (h.neB (j := 0) hi).2).trans h.box, h.ra.keep (fun j hj e => h.ap j i hj hi e) (h.neB (j := 0) hi).1 hk, h.rb.set hi hk hf, h.lo, h.ap⟩
theorem LT.as (h : LT w x va fa ia vc fc ic n nw P TA TB gA gB mA mB W) (ha : ∀ i v, i < n → v < 64 * nw → mA i v = mA' i v) (hb : ∀ i v, i < n → v < 64 * nw → mB i v = mB' i v) : LT w x va fa ia vc fc ic n nw P TA TB gA gB mA' mB' W :=
  ⟨h.bel, h.box, h.ra.as ha, h.rb.as hb, h.lo, h.ap⟩
end
theorem variable_f (vs : Array Value) (P V : Nat) (va : Option Addr) (vc : Nat) (v : Int) (r : Bool) (w : World) (hb : w.heap[P]? = some (.cells vs 60 (0, 0))) (h2 : vs[2]? = some (.slice va V vc)) (hr : inN V v = r) :
    Calls Tryd.prog 24 #[.pointer (some ⟨P, 0, none⟩), .int .i64 v] w fun e w' => e = .returned (.bool r) ∧ w' = w := by
  have hc : w.cell? ⟨P, 2, none⟩ = some (.slice va V vc) := by rw [cells_at hb]; exact h2
  have HR := hid hr
  clear hr hb h2
  by_cases e1 : 0 ≤ v
  · by_cases e2 : v < (V : Int)
    · obtain rfl : r = true := HR.out.symm.trans (inN_t (by omega) (by omega))
      go_enter Tryd.func24, Tryd.ntmps24
      go_wp2
      go_ret
      exact ⟨by simp [e1, e2], rfl⟩
    · obtain rfl : r = false := HR.out.symm.trans (inN_f2 (by omega))
      go_enter Tryd.func24, Tryd.ntmps24
      go_wp2
      go_ret
      exact ⟨by simp [e1, e2], rfl⟩
  · obtain rfl : r = false := HR.out.symm.trans (inN_f1 (by omega))
    go_enter Tryd.func24, Tryd.ntmps24
    go_wp2
    go_ret
    exact ⟨by simp [e1], rfl⟩
theorem there_f (vs : Array Value) (P n : Nat) (A : Option Addr) (c : Nat) (v : Int) (r : Bool) (w : World) (hb : w.heap[P]? = some (.cells vs 60 (0, 0))) (h2 : vs[8]? = some (.slice A n c)) (hr : inN n v = r) :
    Calls Tryd.prog 28 #[.pointer (some ⟨P, 0, none⟩), .int .i64 v] w fun e w' => e = .returned (.bool r) ∧ w' = w := by
  have hc : w.cell? ⟨P, 8, none⟩ = some (.slice A n c) := by rw [cells_at hb]; exact h2
  have HR := hid hr
  clear hr hb h2
  by_cases e1 : 0 ≤ v
  · by_cases e2 : v < (n : Int)
    · obtain rfl : r = true := HR.out.symm.trans (inN_t (by omega) (by omega))
      go_enter Tryd.func28, Tryd.ntmps28
      go_wp2
      go_ret
      exact ⟨by simp [e1, e2], rfl⟩
    · obtain rfl : r = false := HR.out.symm.trans (inN_f2 (by omega))
      go_enter Tryd.func28, Tryd.ntmps28
      go_wp2
      go_ret
      exact ⟨by simp [e1, e2], rfl⟩
  · obtain rfl : r = false := HR.out.symm.trans (inN_f1 (by omega))
    go_enter Tryd.func28, Tryd.ntmps28
    go_wp2
    go_ret
    exact ⟨by simp [e1], rfl⟩
section
variable {w W : World} {x : CoD} {va fa ia : Option Addr} {vc fc ic n nw P TA TB : Nat} {gA gB : Nat → Nat} {mA mB : Nat → Nat → Bool}
set_option maxRecDepth 100000 in
set_option maxHeartbeats 4000000 in
/-- Ahead, of what is there. -/
theorem ahead_f (i v : Nat) (h : LT w x va fa ia vc fc ic n nw P TA TB gA gB mA mB W) (hi : i < n) (hv : v < x.vs.length) (hw : x.vs.length ≤ 64 * nw) (hn : nw < 1000000) (hn2 : n < 1000000) :
    Calls Tryd.prog 17 #[.pointer (some ⟨P, 0, none⟩), .int .i64 i, .int .i64 v] W fun e w' => e = .returned (.bool (mA i v)) ∧ w' = W := by
  have HT := hid (there_f _ P n (some ⟨TA, 0, none⟩) n (i : Int) true W h.box rfl (inN_t (by omega) (by omega)))
  have HV := hid (variable_f _ P x.vs.length va vc (v : Int) true W h.box rfl (inN_t (by omega) (by omega)))
  have HH := hid (has_f (gA i) nw v (mA i) W (h.ra.row i hi) (by omega) hn)
  have hc8 := cells_at h.box 8
  have hrow := h.ra.cell hi
  have i0 : (0 : Int) ≤ (i : Int) := by omega
  have i1 : (i : Int) < (n : Int) := by omega
  clear h
  go_enter Tryd.func17, Tryd.ntmps17
  go_wp2_with (first
    | (go_at_call 28; refine HT.out.mono ?_; rintro e w' ⟨rfl, rfl⟩)
    | (go_at_call 24; refine HV.out.mono ?_; rintro e w' ⟨rfl, rfl⟩)
    | (go_at_call 38; refine HH.out.mono ?_; rintro e w' ⟨rfl, rfl⟩))
  go_ret
  exact ⟨by simp, rfl⟩
set_option maxRecDepth 100000 in
set_option maxHeartbeats 4000000 in
theorem behind_f (i v : Nat) (h : LT w x va fa ia vc fc ic n nw P TA TB gA gB mA mB W) (hi : i < n) (hv : v < x.vs.length) (hw : x.vs.length ≤ 64 * nw) (hn : nw < 1000000) (hn2 : n < 1000000) :
    Calls Tryd.prog 18 #[.pointer (some ⟨P, 0, none⟩), .int .i64 i, .int .i64 v] W fun e w' => e = .returned (.bool (mB i v)) ∧ w' = W := by
  have HT := hid (there_f _ P n (some ⟨TA, 0, none⟩) n (i : Int) true W h.box rfl (inN_t (by omega) (by omega)))
  have HV := hid (variable_f _ P x.vs.length va vc (v : Int) true W h.box rfl (inN_t (by omega) (by omega)))
  have HH := hid (has_f (gB i) nw v (mB i) W (h.rb.row i hi) (by omega) hn)
  have hc9 := cells_at h.box 9
  have hrow := h.rb.cell hi
  have i0 : (0 : Int) ≤ (i : Int) := by omega
  have i1 : (i : Int) < (n : Int) := by omega
  clear h
  go_enter Tryd.func18, Tryd.ntmps18
  go_wp2_with (first
    | (go_at_call 28; refine HT.out.mono ?_; rintro e w' ⟨rfl, rfl⟩)
    | (go_at_call 24; refine HV.out.mono ?_; rintro e w' ⟨rfl, rfl⟩)
    | (go_at_call 38; refine HH.out.mono ?_; rintro e w' ⟨rfl, rfl⟩))
  go_ret
  exact ⟨by simp, rfl⟩
end
end Go.Proofs.YtlbcinanpnjjjaaDoor
