/- Words that many texts share. No conditions. -/
import Derived.Test.YtlbcinanpnjjjaaDoorProg
import Derived.WalkKit
import Derived.BigQuiet
import Derived.Deep.QuietTactic
import Derived.Deep.LoopGhost
import Derived.RegionTactic
import Derived.WalkSpells
import Derived.Outline
import Derived.Lib.Strings
import Derived.Laws.NewBlocks
import Derived.Laws.ResultCell
import Derived.Maps.Own
import Derived.Maps.OwnOps
import Derived.Maps.OwnSet
import Derived.Deep.RegionWith
import Derived.Laws.StructEq
import Derived.WalkMore
import Derived.Deep.CutBlock
import Derived.Maps.AppendAt
import Derived.Lib.SliceRun
namespace Go.Proofs.YtlbcinanpnjjjaaDoor
open Go.RowKit Go.Maps
set_option linter.unusedVariables false
set_option linter.unusedSimpArgs false
theorem hid {p : Prop} (h : p) : Hid p := h
abbrev i0 : Value := .int .i64 0
abbrev s0 : Value := .string ⟨#[]⟩
abbrev n0 : Value := .slice none 0 0
abbrev smallV (F : Nat) : Value := .agg #[n0, .slice (some ⟨F, 0, none⟩) 1 1]
theorem old_block {n : Nat} {w W : World} {o : Obj} {k : Nat} (h : Below n w W) (hk : k < n) (hb : w.heap[k]? = some o) : W.heap[k]? = some o := (h.block k hk).trans hb
theorem cells_at {W : World} {k t : Nat} {vs : Array Value} (h : W.heap[k]? = some (.cells vs t (0, 0))) (i : Nat) : W.cell? ⟨k, i, none⟩ = vs[i]? := by
  simp [World.cell?, h]
theorem cells_at1 {W : World} {k t : Nat} {vs : Array Value} (h : W.heap[k]? = some (.cells vs t (0, 0))) (o : Obj) (i : Nat) : (W.alloc o).cell? ⟨k, i, none⟩ = vs[i]? :=
  cells_at ((Below.heap_alloc W o k (Array.getElem?_eq_some_iff.1 h).1).trans h) i
theorem cells_at2 {W : World} {k t : Nat} {vs : Array Value} (h : W.heap[k]? = some (.cells vs t (0, 0))) (o o2 : Obj) (i : Nat) : ((W.alloc o).alloc o2).cell? ⟨k, i, none⟩ = vs[i]? :=
  cells_at1 ((Below.heap_alloc W o k (Array.getElem?_eq_some_iff.1 h).1).trans h) o2 i
theorem step_grown {w wr w2 w3 : World} {B : Nat} {o : Obj} (h : Below w.heap.size w wr) (h2 : Below (wr.alloc o).heap.size (wr.alloc o) w2) (hg : w2.grownBy w3 (some B)) (hB : w.heap.size ≤ B) : Below w.heap.size w w3 := by
  have h3 := h.alloc h.size o
  have h4 := h3.trans (h2.mono h3.size)
  exact h4.grown hg h4.size (by rintro k e; cases e; exact hB)
def mapAt : Nat → DataW Unit
  | 0 => .map []
  | _ + 1 => DataW.put (.map []) (.string [109, 97, 105, 110]) (.lit (.int .i64 0))
theorem size_at1 : Maps.size (mapAt 1) = 1 := by rfl
theorem after {n : Nat} {w w1 w2 : World} (h : Below n w w1) (h2 : Below w1.heap.size w1 w2) (hn : n ≤ w1.heap.size) : Below n w w2 := h.trans (h2.mono hn)
theorem below1 (w : World) (o : Obj) : Below w.heap.size w (w.alloc o) := (Below.refl _ _).alloc (Nat.le_refl _) _
theorem below2 (w : World) (o p : Obj) : Below w.heap.size w ((w.alloc o).alloc p) := (below1 w o).alloc (by simp) _
abbrev ins1 : Value := .agg #[.int .i64 1, i0, i0, i0, i0, .int .i64 7, s0, n0, n0, i0, i0, i0, i0]
abbrev ins2 : Value := .agg #[.int .i64 18, i0, i0, i0, i0, i0, s0, n0, n0, i0, i0, i0, i0]
theorem new_cell (w : World) (o : Obj) (v : Value) (t : TypeId) : ((w.alloc o).alloc (.cells #[v] t)).cell? ⟨w.heap.size + 1, 0, none⟩ = some v := by
  have := heap_alloc_new (w.alloc o) (.cells #[v] t)
  rw [World.size_alloc] at this
  exact cells_at this 0
structure Wrote (J : Nat) (vs : Array Value) (w W : World) : Prop where
  here : W.heap[J]? = some (.cells vs 77 (0, 0))
  below : Below J w W
  size : W.heap.size = w.heap.size
  block : ∀ k, k ≠ J → W.heap[k]? = w.heap[k]?
theorem Wrote.set {J : Nat} {vs : Array Value} {w W : World} (h : Wrote J vs w W) (i : Nat) (v : Value) : Wrote J (vs.setIfInBounds i v) w (W.setCell ⟨J, i, none⟩ v) := by
  refine ⟨?_, h.below.setCell (Nat.le_refl _) v, by rw [← h.size]; simp [World.setCell], fun k hk => (Below.heap_setCell _ _ _ _ hk).trans (h.block k hk)⟩
  have := h.here
  simp only [World.setCell, Array.getElem?_modify]
  simp [this]
theorem cast_w {J : Nat} {vs vs' : Array Value} {w W : World} (e : vs = vs') (h : Wrote J vs w W) : Wrote J vs' w W := e ▸ h
theorem frozen_no {W : World} {k t : Nat} {vs : Array Value} (h : W.heap[k]? = some (.cells vs t (0, 0))) (i : Nat) : W.frozen? ⟨k, i, none⟩ = false := by
  simp [World.frozen?, h]
structure TyD where
  (p : Bool) (name : ByteArray)
structure VaD where
  (t : TyD) (cls : Int)
structure FdD where
  (nm : ByteArray) (t : TyD) (l c : Int)
structure InD where
  (op d a b tt el f n l c : Int) (sg : ByteArray) (xs ms : List Int)
structure StD where
  (nm : ByteArray) (fs : List FdD) (l c : Int)
structure CoD where
  (nm : ByteArray) (pr : Int) (vs : List VaD) (rt : VaD) (fr : List Int) (ins : List InD)
def sEq (a b : ByteArray) : Bool := a.toList == b.toList
def tyEq (a b : TyD) : Bool := (a.p == b.p) && sEq a.name b.name
def vaEq (a b : VaD) : Bool := tyEq a.t b.t && (a.cls == b.cls)
def fdEq (a b : FdD) : Bool := sEq a.nm b.nm && tyEq a.t b.t
def eqL {α : Type} (f : α → α → Bool) : List α → List α → Bool
  | [], [] => true
  | x :: xs, y :: ys => f x y && eqL f xs ys
  | _, _ => false
def inEq (a b : InD) : Bool := (a.op == b.op) && (a.d == b.d) && (a.a == b.a) && (a.b == b.b) && (a.f == b.f) && (a.n == b.n) && sEq a.sg b.sg && eqL (· == ·) a.xs b.xs && eqL (· == ·) a.ms b.ms && (a.tt == b.tt) && (a.el == b.el)
def stEq (a b : StD) : Bool := sEq a.nm b.nm && eqL fdEq a.fs b.fs
def coEq (a b : CoD) : Bool := sEq a.nm b.nm && (a.pr == b.pr) && vaEq a.rt b.rt && eqL vaEq a.vs b.vs && eqL (· == ·) a.fr b.fr && eqL inEq a.ins b.ins
section
variable {α : Type} {f : α → α → Bool}
theorem eqL_len : ∀ {l m : List α}, l.length ≠ m.length → eqL f l m = false
  | [], [], h => absurd rfl h
  | [], _ :: _, _ => rfl
  | _ :: _, [], _ => rfl
  | x :: xs, y :: ys, h => by
    unfold eqL
    rw [eqL_len (l := xs) (m := ys) (by simpa using h), Bool.and_false]
theorem eqL_no : ∀ {l m : List α} {i : Nat} {x y : α}, l[i]? = some x → m[i]? = some y → f x y = false → eqL f l m = false
  | [], _, i, x, y, h, _, _ => by simp at h
  | _ :: _, [], i, x, y, _, h, _ => by simp at h
  | a :: l, b :: m, 0, x, y, h1, h2, h3 => by
    simp at h1 h2
    subst h1 h2
    simp [eqL, h3]
  | a :: l, b :: m, i + 1, x, y, h1, h2, h3 => by
    simp at h1 h2
    unfold eqL
    rw [eqL_no h1 h2 h3, Bool.and_false]
theorem eqL_yes : ∀ {l m : List α}, l.length = m.length → (∀ i x y, i < l.length → l[i]? = some x → m[i]? = some y → f x y = true) → eqL f l m = true
  | [], [], _, _ => rfl
  | [], _ :: _, h, _ => by simp at h
  | _ :: _, [], h, _ => by simp at h
  | x :: xs, y :: ys, h, k => by
    unfold eqL
    rw [k 0 x y (by simp) rfl rfl, eqL_yes (l := xs) (m := ys) (by simpa using h) (fun i a b hi ha hb => k (i + 1) a b (by simpa using hi) (by simpa using ha) (by simpa using hb))]
    rfl
end
/-- A slice's elements, each of k cells. -/
def RowM {α : Type} (k : Nat) (P : World → Nat → Nat → α → Prop) (W : World) (A : Option Addr) (l : List α) : Prop :=
  l.length ≤ 9223372036854775807 ∧ ∀ (i : Nat) (x : α), l[i]? = some x → ∃ b o, A = some ⟨b, o, none⟩ ∧ b < W.heap.size ∧ P W b (o + i * k) x
abbrev CellsAt (W : World) (b o : Nat) (vs : Array Value) : Prop := ∀ (j : Nat) (v : Value), vs[j]? = some v → W.cell? ⟨b, o + j, none⟩ = some v
def IntAt (W : World) (b o : Nat) (x : Int) : Prop := W.cell? ⟨b, o, none⟩ = some (.int .i64 x)
abbrev VaV (v : VaD) : Array Value := #[.bool v.t.p, .string v.t.name, .int .i64 v.cls]
def VaAt (W : World) (b o : Nat) (v : VaD) : Prop := CellsAt W b o (VaV v)
abbrev FdV (v : FdD) : Array Value := #[.string v.nm, .bool v.t.p, .string v.t.name, .int .i64 v.l, .int .i64 v.c]
def FdAt (W : World) (b o : Nat) (v : FdD) : Prop := CellsAt W b o (FdV v)
abbrev InV (r : InD) (ao : Option Addr) (ac : Nat) (mo : Option Addr) (mc : Nat) : Array Value :=
  #[.int .i64 r.op, .int .i64 r.d, .int .i64 r.a, .int .i64 r.b, .int .i64 r.f, .int .i64 r.n, .string r.sg, .slice ao r.xs.length ac, .slice mo r.ms.length mc, .int .i64 r.tt, .int .i64 r.el, .int .i64 r.l, .int .i64 r.c]
abbrev IntsM := RowM 1 IntAt
structure InM (W : World) (r : InD) (ao mo : Option Addr) : Prop where
  xs : IntsM W ao r.xs
  ms : IntsM W mo r.ms
def InAt (W : World) (b o : Nat) (r : InD) : Prop := ∃ ao ac mo mc, CellsAt W b o (InV r ao ac mo mc) ∧ InM W r ao mo
abbrev StV (s : StD) (fa : Option Addr) (fc : Nat) : Array Value := #[.string s.nm, .slice fa s.fs.length fc, .int .i64 s.l, .int .i64 s.c]
abbrev FdsM := RowM 5 FdAt
def StAt (W : World) (b o : Nat) (s : StD) : Prop := ∃ fa fc, CellsAt W b o (StV s fa fc) ∧ FdsM W fa s.fs
abbrev CoV (c : CoD) (va : Option Addr) (vc : Nat) (fa : Option Addr) (fc : Nat) (ia : Option Addr) (ic : Nat) : Array Value :=
  #[.string c.nm, .int .i64 c.pr, .slice va c.vs.length vc, .bool c.rt.t.p, .string c.rt.t.name, .int .i64 c.rt.cls, .slice fa c.fr.length fc, .slice ia c.ins.length ic]
structure CoM (W : World) (c : CoD) (va fa ia : Option Addr) : Prop where
  vs : RowM 3 VaAt W va c.vs
  fr : IntsM W fa c.fr
  ins : RowM 13 InAt W ia c.ins
def CoAt (W : World) (b o : Nat) (c : CoD) : Prop := ∃ va vc fa fc ia ic, CellsAt W b o (CoV c va vc fa fc ia ic) ∧ CoM W c va fa ia
/-- What keeps blocks keeps all this. -/
def Stays {α : Type} (P : World → Nat → Nat → α → Prop) : Prop := ∀ (W W' : World) (b o : Nat) (x : α), Below W.heap.size W W' → b < W.heap.size → P W b o x → P W' b o x
theorem RowM.later {α : Type} {k : Nat} {P : World → Nat → Nat → α → Prop} (hP : Stays P) {W W' : World} {A : Option Addr} {l : List α} (h : RowM k P W A l) (hb : Below W.heap.size W W') : RowM k P W' A l := by
  refine ⟨h.1, fun i x hx => ?_⟩
  obtain ⟨b, o, e, hlt, hp⟩ := h.2 i x hx
  exact ⟨b, o, e, Nat.lt_of_lt_of_le hlt hb.size, hP _ _ _ _ _ hb hlt hp⟩
theorem cells_stay {W W' : World} {b o : Nat} {vs : Array Value} (hb : Below W.heap.size W W') (hlt : b < W.heap.size) (h : CellsAt W b o vs) : CellsAt W' b o vs :=
  fun j v hv => (hb.cell (p := ⟨b, o + j, none⟩) hlt).trans (h j v hv)
theorem int_stays : Stays IntAt := fun W W' b o x hb hlt h => (hb.cell (p := ⟨b, o, none⟩) hlt).trans h
theorem va_stays : Stays VaAt := fun W W' b o x hb hlt h => cells_stay hb hlt h
theorem fd_stays : Stays FdAt := fun W W' b o x hb hlt h => cells_stay hb hlt h
theorem InM.later {W W' : World} {r : InD} {ao mo : Option Addr} (h : InM W r ao mo) (hb : Below W.heap.size W W') : InM W' r ao mo := ⟨h.xs.later int_stays hb, h.ms.later int_stays hb⟩
theorem in_stays : Stays InAt := fun W W' b o x hb hlt h => by
  obtain ⟨ao, ac, mo, mc, h1, h2⟩ := h
  exact ⟨ao, ac, mo, mc, cells_stay hb hlt h1, h2.later hb⟩
theorem st_stays : Stays StAt := fun W W' b o x hb hlt h => by
  obtain ⟨fa, fc, h1, h2⟩ := h
  exact ⟨fa, fc, cells_stay hb hlt h1, h2.later fd_stays hb⟩
theorem CoM.later {W W' : World} {c : CoD} {va fa ia : Option Addr} (h : CoM W c va fa ia) (hb : Below W.heap.size W W') : CoM W' c va fa ia := ⟨h.vs.later va_stays hb, h.fr.later int_stays hb, h.ins.later in_stays hb⟩
theorem co_stays : Stays CoAt := fun W W' b o x hb hlt h => by
  obtain ⟨va, vc, fa, fc, ia, ic, h1, h2⟩ := h
  exact ⟨va, vc, fa, fc, ia, ic, cells_stay hb hlt h1, h2.later hb⟩
theorem below_drewN {n : Nat} {w W : World} (h : Below n w W) (k : Nat) : Below n w (W.drewN k) := ⟨h.os, h.tape, h.output, h.size, h.block⟩
theorem below_drew1 (w : World) : Below w.heap.size w w.drew := ⟨rfl, rfl, rfl, Nat.le_refl _, fun _ _ => rfl⟩
theorem get_some {α : Type} {l : List α} {n i : Nat} (h : l.length = n) (hi : i < n) : ∃ x, l[i]? = some x := ⟨_, List.getElem?_eq_getElem (by omega)⟩
theorem boxes' (w : World) (a : Array Value) (t : TypeId) (b : Array Value) (u : TypeId) : ((w.alloc (.cells a t)).alloc (.cells b u)).heap[w.heap.size]? = some (.cells a t (0, 0)) ∧ ((w.alloc (.cells a t)).alloc (.cells b u)).heap[w.heap.size + 1]? = some (.cells b u (0, 0)) := by
  refine ⟨(Below.heap_alloc _ _ _ (by simp)).trans (heap_alloc_new w _), ?_⟩
  have := heap_alloc_new (w.alloc (.cells a t)) (.cells b u)
  rwa [World.size_alloc] at this
/-- Is it one of the first n? -/
def inN (n : Nat) (v : Int) : Bool := decide (0 ≤ v) && decide (v < n)
theorem inN_f1 {n : Nat} {v : Int} (h : v < 0) : inN n v = false := by simp [inN]; omega
theorem inN_f2 {n : Nat} {v : Int} (h : (n : Int) ≤ v) : inN n v = false := by simp [inN]; omega
theorem inN_t {n : Nat} {v : Int} (h1 : ¬ v < 0) (h2 : ¬ (n : Int) ≤ v) : inN n v = true := by simp [inN]; omega
theorem all_no {xs : List Int} {n k : Nat} {x : Int} (h : xs[k]? = some x) (hx : inN n x = false) : xs.all (inN n) = false := by
  rw [List.all_eq_false]
  exact ⟨x, List.mem_of_getElem? h, by simp [hx]⟩
theorem all_yes {xs : List Int} {n : Nat} (h : ∀ k x, k < xs.length → xs[k]? = some x → inN n x = true) : xs.all (inN n) = true := by
  rw [List.all_eq_true]
  intro x hx
  obtain ⟨k, hk⟩ := List.getElem?_of_mem hx
  exact h k x (List.getElem?_eq_some_iff.1 hk).1 hk
theorem cell_keep {w W : World} {b o : Nat} {v : Value} (hb : Below w.heap.size w W) (hlt : b < w.heap.size) (h : w.cell? ⟨b, o, none⟩ = some v) : W.cell? ⟨b, o, none⟩ = some v := (hb.cell (p := ⟨b, o, none⟩) hlt).trans h
theorem cell_lt {w : World} {b o : Nat} {v : Value} (h : w.cell? ⟨b, o, none⟩ = some v) : b < w.heap.size := by
  by_cases hb : b < w.heap.size
  · exact hb
  · simp [World.cell?, Array.getElem?_eq_none (Nat.le_of_not_lt hb)] at h
def eqS (s : ByteArray) : Bool := s.toList == [61, 61] || s.toList == [33, 61]
theorem ints1 {W : World} {b : Nat} {d : Int} (h : W.cell? ⟨b, 0, none⟩ = some (.int .i64 d)) : IntsM W (some ⟨b, 0, none⟩) [d] := by
  refine ⟨by simp, fun i x hx => ⟨b, 0, rfl, cell_lt h, ?_⟩⟩
  match i, hx with
  | 0, hx => simp at hx; subst hx; exact h
  | i + 1, hx => simp at hx
theorem ints2 {W : World} {b : Nat} {d e : Int} (h : W.cell? ⟨b, 0, none⟩ = some (.int .i64 d)) (h1 : W.cell? ⟨b, 1, none⟩ = some (.int .i64 e)) : IntsM W (some ⟨b, 0, none⟩) [d, e] := by
  refine ⟨by simp, fun i x hx => ⟨b, 0, rfl, cell_lt h, ?_⟩⟩
  match i, hx with
  | 0, hx => simp at hx; subst hx; exact h
  | 1, hx => simp at hx; subst hx; exact h1
  | i + 2, hx => simp at hx
def KindIs (x : CoD) (k : Nat) (p : Bool) (nm : ByteArray) : Prop := ∃ v, x.vs[k]? = some v ∧ v.t = ⟨p, nm⟩
def tyOf (x : CoD) (d : Int) : TyD := match x.vs[d.toNat]? with | some v => v.t | none => ⟨false, ⟨#[]⟩⟩
theorem inN_get {x : CoD} {d : Int} (h : inN x.vs.length d = true) : ∃ (k : Nat) (pp : Bool) (nm : ByteArray), d = k ∧ KindIs x k pp nm ∧ tyOf x d = ⟨pp, nm⟩ := by
  simp only [inN, Bool.and_eq_true, decide_eq_true_eq] at h
  obtain ⟨v, hv⟩ := get_some (l := x.vs) (i := d.toNat) rfl (by omega)
  exact ⟨d.toNat, v.t.p, v.t.name, by omega, ⟨v, hv, rfl⟩, by simp [tyOf, hv]⟩
def numF (x : CoD) (r : InD) : Int := if inN x.vs.length r.d then (if (tyOf x r.d).p then 7 else 0) else 15
def nullF (x : CoD) (r : InD) : Int := if inN x.vs.length r.d then (if (tyOf x r.d).p then 0 else 7) else 15
def freeF (x : CoD) (r : InD) : Int := if inN x.vs.length r.a then (if (tyOf x r.a).p then 0 else 7) else 15
def jumpF (x : CoD) (r : InD) : Int := if inN x.ins.length r.tt then 0 else 15
def askF (x : CoD) (r : InD) : Int := if inN x.vs.length r.a && (!(r.op == 17) || (inN x.ins.length r.tt && inN x.ins.length r.el)) then (if (tyOf x r.a).p then 7 else 0) else 15
def isNF (x : CoD) (r : InD) : Int := if inN x.vs.length r.d && inN x.vs.length r.a then (if (tyOf x r.d).p || !(tyOf x r.a).p then 7 else if eqS r.sg then 0 else 3) else 15
theorem boxA (w : World) (vs : Array Value) (t : TypeId) (o : Obj) : ((w.alloc (.cells vs t)).alloc o).heap[w.heap.size]? = some (.cells vs t (0, 0)) :=
  (Below.heap_alloc _ _ _ (by simp)).trans (heap_alloc_new w _)
theorem lay {W W' : World} {k t : Nat} {vs : Array Value} (hb : Below W.heap.size W W') (h : W.heap[k]? = some (.cells vs t (0, 0))) : W'.heap[k]? = some (.cells vs t (0, 0)) := old_block hb (Array.getElem?_eq_some_iff.1 h).1 h
theorem new_cell3a (w : World) (o p : Obj) (v u : Value) (t : TypeId) : (((w.alloc o).alloc p).alloc (.cells #[v, u] t)).cell? ⟨w.heap.size + 1 + 1, 0, none⟩ = some v := by
  have := heap_alloc_new ((w.alloc o).alloc p) (.cells #[v, u] t)
  rw [World.size_alloc, World.size_alloc] at this
  exact cells_at this 0
theorem new_cell3b (w : World) (o p : Obj) (v u : Value) (t : TypeId) : (((w.alloc o).alloc p).alloc (.cells #[v, u] t)).cell? ⟨w.heap.size + 1 + 1, 1, none⟩ = some u := by
  have := heap_alloc_new ((w.alloc o).alloc p) (.cells #[v, u] t)
  rw [World.size_alloc, World.size_alloc] at this
  exact cells_at this 1
theorem new_cell2b (w : World) (o : Obj) (v u : Value) (t : TypeId) : ((w.alloc o).alloc (.cells #[v, u] t)).cell? ⟨w.heap.size + 1, 1, none⟩ = some u := by
  have := heap_alloc_new (w.alloc o) (.cells #[v, u] t)
  rw [World.size_alloc] at this
  exact cells_at this 1
theorem new_cell2a (w : World) (o : Obj) (v u : Value) (t : TypeId) : ((w.alloc o).alloc (.cells #[v, u] t)).cell? ⟨w.heap.size + 1, 0, none⟩ = some v := by
  have := heap_alloc_new (w.alloc o) (.cells #[v, u] t)
  rw [World.size_alloc] at this
  exact cells_at this 0
theorem below3a (w : World) (o p q : Obj) : Below w.heap.size w (((w.alloc o).alloc p).alloc q) := (below2 w o p).alloc (by simp; omega) _
theorem box3a (w : World) (vs : Array Value) (t : TypeId) (o p : Obj) : (((w.alloc (.cells vs t)).alloc o).alloc p).heap[w.heap.size]? = some (.cells vs t (0, 0)) :=
  (Below.heap_alloc _ _ _ (by simp; omega)).trans (boxA w vs t o)
theorem box3b (w : World) (vs : Array Value) (t : TypeId) (o p : Obj) : (((w.alloc o).alloc (.cells vs t)).alloc p).heap[w.heap.size + 1]? = some (.cells vs t (0, 0)) := by
  refine (Below.heap_alloc _ _ _ (by simp)).trans ?_
  have := heap_alloc_new (w.alloc o) (.cells vs t)
  rwa [World.size_alloc] at this
theorem set_here {W : World} {k t : Nat} {vs : Array Value} (h : W.heap[k]? = some (.cells vs t (0, 0))) (i : Nat) (v : Value) : (W.setCell ⟨k, i, none⟩ v).heap[k]? = some (.cells (vs.setIfInBounds i v) t (0, 0)) := by
  simp [World.setCell, Array.getElem?_modify, h]
theorem two_set {W : World} {k t : Nat} {a b : Value} (h : W.heap[k]? = some (.cells #[a, b] t (0, 0))) (x y : Value) :
    ((W.setCell ⟨k, 0, none⟩ x).setCell ⟨k, 1, none⟩ y).cell? ⟨k, 0, none⟩ = some x ∧ ((W.setCell ⟨k, 0, none⟩ x).setCell ⟨k, 1, none⟩ y).cell? ⟨k, 1, none⟩ = some y := by
  have h2 := set_here (set_here h 0 x) 1 y
  exact ⟨by rw [cells_at h2 0]; rfl, by rw [cells_at h2 1]; rfl⟩
theorem one_set {W : World} {k t : Nat} {a b : Value} (h : W.heap[k]? = some (.cells #[a, b] t (0, 0))) (x : Value) : (W.setCell ⟨k, 0, none⟩ x).cell? ⟨k, 1, none⟩ = some b ∧ (W.setCell ⟨k, 0, none⟩ x).frozen? ⟨k, 1, none⟩ = false := by
  have h2 := set_here h 0 x
  exact ⟨by rw [cells_at h2 1]; rfl, frozen_no h2 1⟩
theorem bytes_eq {a b : ByteArray} (h : (a.toList == b.toList) = true) : a = b := by
  have h' : a.toList = b.toList := by simpa using h
  rw [ByteArray.toList_eq, ByteArray.toList_eq] at h'
  cases a
  cases b
  simpa [Array.toList_inj] using h'
theorem ints_new (w : World) (L : List Int) (cs : Array Value) (k : Nat) (hk : w.heap.size = k) (hc : cs.toList = L.map (Value.int .i64)) (hl : L.length ≤ 9223372036854775807) : IntsM (w.alloc (.cells cs 3)) (some ⟨k, 0, none⟩) L := by
  refine ⟨hl, fun i x hx => ⟨k, 0, rfl, by rw [World.size_alloc]; omega, ?_⟩⟩
  have h := cells_at (heap_alloc_new w (.cells cs 3)) i
  rw [hk] at h
  have h2 : cs[i]? = some (.int .i64 x) := by rw [← Array.getElem?_toList, hc, List.getElem?_map, hx]; rfl
  show (w.alloc (.cells cs 3)).cell? ⟨k, 0 + i * 1, none⟩ = _
  rw [show 0 + i * 1 = i by omega, h, h2]
def wrL : List Int := [1, 2, 3, 4, 5, 7, 9, 10, 12, 14, 15]
def wrB (op : Int) : Bool := wrL.any (fun x => x == op)
theorem chain4 (w : World) (a1 a2 a3 a4 : Array Value) (t1 t2 t3 t4 : TypeId) :
    ((((w.alloc (.cells a1 t1)).alloc (.cells a2 t2)).alloc (.cells a3 t3)).alloc (.cells a4 t4)).heap[w.heap.size]? = some (.cells a1 t1 (0, 0)) ∧
    ((((w.alloc (.cells a1 t1)).alloc (.cells a2 t2)).alloc (.cells a3 t3)).alloc (.cells a4 t4)).heap[w.heap.size + 1 + 1]? = some (.cells a3 t3 (0, 0)) ∧
    ((((w.alloc (.cells a1 t1)).alloc (.cells a2 t2)).alloc (.cells a3 t3)).alloc (.cells a4 t4)).heap[w.heap.size + 1 + 1 + 1]? = some (.cells a4 t4 (0, 0)) := by
  refine ⟨lay (below3a _ _ _ _) (heap_alloc_new w _), ?_, ?_⟩
  · have h := lay (below1 _ (.cells a4 t4)) (heap_alloc_new ((w.alloc (.cells a1 t1)).alloc (.cells a2 t2)) (.cells a3 t3))
    rwa [World.size_alloc, World.size_alloc] at h
  · have h := heap_alloc_new (((w.alloc (.cells a1 t1)).alloc (.cells a2 t2)).alloc (.cells a3 t3)) (.cells a4 t4)
    rwa [World.size_alloc, World.size_alloc, World.size_alloc] at h
theorem chain3 (w : World) (a1 a2 a3 : Array Value) (t1 t2 t3 : TypeId) :
    (((w.alloc (.cells a1 t1)).alloc (.cells a2 t2)).alloc (.cells a3 t3)).heap[w.heap.size]? = some (.cells a1 t1 (0, 0)) ∧
    (((w.alloc (.cells a1 t1)).alloc (.cells a2 t2)).alloc (.cells a3 t3)).heap[w.heap.size + 1]? = some (.cells a2 t2 (0, 0)) ∧
    (((w.alloc (.cells a1 t1)).alloc (.cells a2 t2)).alloc (.cells a3 t3)).heap[w.heap.size + 1 + 1]? = some (.cells a3 t3 (0, 0)) := by
  refine ⟨lay (below2 _ _ _) (heap_alloc_new w _), ?_, ?_⟩
  · have h := lay (below1 _ (.cells a3 t3)) (heap_alloc_new (w.alloc (.cells a1 t1)) (.cells a2 t2))
    rwa [World.size_alloc] at h
  · have h := heap_alloc_new ((w.alloc (.cells a1 t1)).alloc (.cells a2 t2)) (.cells a3 t3)
    rwa [World.size_alloc, World.size_alloc] at h
def rdL : List Int := [3, 4, 6, 7, 8, 9, 10, 11, 13, 14, 17, 18]
def rd2L : List Int := [4, 8, 11]
def rd1 (op : Int) : Bool := rdL.any (fun x => x == op)
def rd2 (op : Int) : Bool := rd2L.any (fun x => x == op)
/-- What an instruction reads. -/
def rdsF (r : InD) : List Int := if r.op = 15 then r.xs else (if rd1 r.op then [r.a] else []) ++ (if rd2 r.op then [r.b] else [])
/-- A slice of these numbers. -/
def IsInts (W : World) (v : Value) (xs : List Int) : Prop := ∃ A c, v = .slice A xs.length c ∧ IntsM W A xs
theorem IsInts.later {W W' : World} {v : Value} {xs : List Int} (h : IsInts W v xs) (hb : Below W.heap.size W W') : IsInts W' v xs := by
  obtain ⟨A, c, e, h⟩ := h
  exact ⟨A, c, e, h.later int_stays hb⟩
theorem row_cell {W : World} {base : Nat} {n : Nat} {v : Value} {xs : List Value} (h : W.ownsRow base 3 1 v n xs) (hn : n ≠ 0) :
    ∃ g cap, v = .slice (some ⟨g, 0, none⟩) n cap ∧ g < W.heap.size ∧ base ≤ g ∧ ∀ j u, xs[j]? = some u → W.cell? ⟨g, j, none⟩ = some u := by
  rcases h.2 with ⟨-, e⟩ | ⟨g, cap, cur, hv, hb, hg, hc, hm, -⟩
  · exact absurd e hn
  · refine ⟨g, cap, hv, (Array.getElem?_eq_some_iff.1 hg).1, hb, fun j u hu => ?_⟩
    have := h.cells (g := g) (by rw [hv]; rfl) j u hu
    unfold Addr.add at this
    split at this
    · rename_i hj; subst hj; exact this
    · simpa using this
theorem ints_owns {W : World} {base n : Nat} {v : Value} {xs : List Int} (h : W.ownsRow base 3 1 v n (xs.map (Value.int .i64))) (hl : xs.length ≤ 9223372036854775807) : IsInts W v xs := by
  have hn : n = xs.length := by have := h.1; simp at this; omega
  subst hn
  by_cases h0 : xs = []
  · subst h0
    rcases h.2 with ⟨rfl, -⟩ | ⟨g, cap, cur, rfl, -⟩
    · exact ⟨_, _, rfl, by simp, fun i x hx => by simp at hx⟩
    · exact ⟨_, _, rfl, by simp, fun i x hx => by simp at hx⟩
  · obtain ⟨g, cap, rfl, hg, -, hc⟩ := row_cell h (fun q => h0 (List.length_eq_zero_iff.1 q))
    exact ⟨_, _, rfl, hl, fun j x hj => ⟨g, 0, rfl, hg, by
      show W.cell? ⟨g, 0 + j * 1, none⟩ = _
      rw [show 0 + j * 1 = j by omega]
      exact hc j _ (by rw [List.getElem?_map, hj]; rfl)⟩⟩
theorem one_at (W : World) (v : Value) (k : Nat) (hk : W.heap.size = k) : ∀ j u, [v][j]? = some u → (W.alloc (.cells #[v] 3)).cell? ((⟨k, 0, none⟩ : Addr).add j) = some u := by
  subst hk
  intro j u hj
  cases j with
  | zero => simp at hj; subst hj; exact cells_at (heap_alloc_new W _) 0
  | succ j => simp at hj
theorem keep_box {W w1 : World} {row : Option Nat} {n : Nat} {o : Obj} (h : W.heap[n]? = some o) (hg : W.grownBy w1 row) (hr : ∀ k, row = some k → n + 1 ≤ k) : w1.heap[n]? = some o :=
  (hg.block n (Array.getElem?_eq_some_iff.1 h).1 (by intro q; have := hr n q.symm; omega)).trans h
theorem chain5 (w : World) (a1 a2 a3 a4 : Array Value) (t1 t2 t3 t4 : TypeId) :
    ((((w.alloc (.cells a1 t1)).alloc (.cells a2 t2)).alloc (.cells a3 t3)).alloc (.cells a4 t4)).heap[w.heap.size + 1]? = some (.cells a2 t2 (0, 0)) ∧
    ((((w.alloc (.cells a1 t1)).alloc (.cells a2 t2)).alloc (.cells a3 t3)).alloc (.cells a4 t4)).heap[w.heap.size + 1 + 1]? = some (.cells a3 t3 (0, 0)) ∧
    ((((w.alloc (.cells a1 t1)).alloc (.cells a2 t2)).alloc (.cells a3 t3)).alloc (.cells a4 t4)).heap[w.heap.size + 1 + 1 + 1]? = some (.cells a4 t4 (0, 0)) := by
  refine ⟨?_, ?_, ?_⟩
  · have h := lay (below2 _ (.cells a3 t3) (.cells a4 t4)) (heap_alloc_new (w.alloc (.cells a1 t1)) (.cells a2 t2))
    rwa [World.size_alloc] at h
  · have h := lay (below1 _ (.cells a4 t4)) (heap_alloc_new ((w.alloc (.cells a1 t1)).alloc (.cells a2 t2)) (.cells a3 t3))
    rwa [World.size_alloc, World.size_alloc] at h
  · have h := heap_alloc_new (((w.alloc (.cells a1 t1)).alloc (.cells a2 t2)).alloc (.cells a3 t3)) (.cells a4 t4)
    rwa [World.size_alloc, World.size_alloc, World.size_alloc] at h
theorem below4a (w : World) (o p q s : Obj) : Below w.heap.size w ((((w.alloc o).alloc p).alloc q).alloc s) := (below3a w o p q).alloc (by simp; omega) _
theorem step_append_at {P : Program} {ops : Array Oper} {o : Oper} {a : Act} {w : World} {K : Act → World → Prop} {Q : Exit → Act → World → Prop} {E : Prop} (hgd : o.guard = none) (s x : Operand) (t : TypeId)
    (ho : o.op = .call { callee := .builtin .append, args := #[s, x], argTypes := #[t, t] })
    (base : Nat) (e : TypeId) (i : TypeInfo) (z : Value) (size bytes : Nat) (ht : P.underlying t = some (.slice e)) (hi : P.info? e = some i) (hz : i.zero = some z)
    (hsize : i.size = size) (hby : i.bytes = bytes) (hzs : z.cells.size = size) (hsz : 0 < size)
    (v : Value) (n : Nat) (xs : List Value) (hs : a.eval s = v) (hown : w.ownsRow base e size v n xs)
    (ad : Addr) (m c : Nat) (news : List Value) (hx : a.eval x = .slice (some ad) m c) (hl : news.length = m * size) (hnews : ∀ j u, news[j]? = some u → w.cell? (ad.add j) = some u) (h1 : ∀ u ∈ news, u.oneCell' = true)
    (h63 : n + m ≤ maxLen) (hbytes : (n + m) * bytes ≤ 140737488355328) (hbase : base ≤ w.heap.size)
    (h : ∀ v' w', w'.ownsRow base e size v' (n + m) (xs ++ news) → w.grownBy w' v.ownBlock → (v'.ownBlock = v.ownBlock ∨ v'.ownBlock = some w.heap.size) → K (a.put o.dst v') w') :
    if Region.wanted o (yielded ops a.tmps) = true then Oper.wp P o a w K Q else E := by
  have hw : Region.wanted o (yielded ops a.tmps) = true := by simp [Region.wanted, hgd]
  rw [if_pos hw]
  obtain ⟨v', w', hr, h2, h3, h4, h5⟩ := run_append_own_at (P := P) w base t o.type e i z size bytes ht hi hz hsize hby hzs hsz v n xs hown ad m c news hl hnews h1 h63 hbytes hbase
  unfold Oper.wp execOp
  simp only [ho, resolve, invoke, builtin, Sem.run_bind, Sem.run_pure, Result.andThen_ok, List.map_toArray, List.map_cons, List.map_nil, hs, hx, hr]
  exact h v' w' h2 h3 h5
theorem owns_at {W : World} {g base : Nat} (cs : Array Value) (L : List Int) (h : W.heap[g]? = some (.cells cs 3 (0, 0))) (hc : cs.toList = L.map (Value.int .i64)) (hb : base ≤ g) (hl : L.length ≤ 10) :
    W.ownsRow base 3 1 (.slice (some ⟨g, 0, none⟩) L.length L.length) L.length (L.map (Value.int .i64)) := by
  have hs : cs.size = L.length := by rw [← Array.length_toList, hc, List.length_map]
  exact ⟨by simp, .inr ⟨g, L.length, cs, rfl, hb, h, Nat.le_refl _, by unfold maxLen; omega, by omega, by rw [Nat.mul_one, hc, ← List.length_map (f := Value.int .i64), List.take_length]⟩⟩
theorem heap_a (w : World) (B X A D : Obj) : ((((w.alloc B).alloc X).alloc A).alloc D).drew.heap[w.heap.size + 1 + 1]? = some A := by
  show ((((w.alloc B).alloc X).alloc A).alloc D).heap[w.heap.size + 1 + 1]? = some A
  have h := old_block (below1 _ D) (by simp) (heap_alloc_new ((w.alloc B).alloc X) A)
  rwa [World.size_alloc, World.size_alloc] at h
theorem heap_d (w : World) (B X A D : Obj) : ((((w.alloc B).alloc X).alloc A).alloc D).drew.heap[w.heap.size + 1 + 1 + 1]? = some D := by
  show ((((w.alloc B).alloc X).alloc A).alloc D).heap[w.heap.size + 1 + 1 + 1]? = some D
  have h := heap_alloc_new (((w.alloc B).alloc X).alloc A) D
  rwa [World.size_alloc, World.size_alloc, World.size_alloc] at h
theorem heap_b (w : World) (B X A D : Obj) : ((((w.alloc B).alloc X).alloc A).alloc D).drew.heap[w.heap.size + 1]? = some X := by
  show ((((w.alloc B).alloc X).alloc A).alloc D).heap[w.heap.size + 1]? = some X
  have h := old_block (below2 _ A D) (by simp) (heap_alloc_new (w.alloc B) X)
  rwa [World.size_alloc] at h
theorem heap_0 (w : World) (B X A D : Obj) : ((((w.alloc B).alloc X).alloc A).alloc D).drew.heap[w.heap.size]? = some B := by
  show ((((w.alloc B).alloc X).alloc A).alloc D).heap[w.heap.size]? = some B
  exact old_block (below3a _ X A D) (by simp) (heap_alloc_new w B)
theorem cell_of {W : World} {k : Nat} {v : Value} (h : W.heap[k]? = some (.cells #[v] 3 (0, 0))) : ∀ j u, [v][j]? = some u → W.cell? ((⟨k, 0, none⟩ : Addr).add j) = some u := by
  intro j u hj
  cases j with
  | zero => simp at hj; subst hj; exact cells_at h 0
  | succ j => simp at hj
section
variable {α : Type} {f : α → List Value} {k : Nat}
theorem flat_get (hk : ∀ x, (f x).length = k) : ∀ {l : List α} {i : Nat} {x : α} {j : Nat} {u : Value}, l[i]? = some x → (f x)[j]? = some u → (l.flatMap f)[i * k + j]? = some u
  | [], _, _, _, _, h, _ => by simp at h
  | a :: l, 0, x, j, u, h, hu => by
    simp at h
    subst h
    rw [List.flatMap_cons, Nat.zero_mul, Nat.zero_add, List.getElem?_append_left (List.getElem?_eq_some_iff.1 hu).1]
    exact hu
  | a :: l, i + 1, x, j, u, h, hu => by
    rw [List.flatMap_cons, List.getElem?_append_right (by rw [hk, Nat.add_mul]; omega), hk, show (i + 1) * k + j - k = i * k + j by rw [Nat.add_mul]; omega]
    exact flat_get hk (by simpa using h) hu
theorem flat_inv (hk : ∀ x, (f x).length = k) : ∀ {l : List α} {j : Nat} {u : Value}, (l.flatMap f)[j]? = some u → ∃ i x r, l[i]? = some x ∧ (f x)[r]? = some u ∧ j = i * k + r
  | [], j, u, h => by simp at h
  | a :: l, j, u, h => by
    rw [List.flatMap_cons] at h
    by_cases hj : j < (f a).length
    · rw [List.getElem?_append_left hj] at h
      exact ⟨0, a, j, rfl, h, by omega⟩
    · rw [List.getElem?_append_right (by omega), hk] at h
      obtain ⟨i, x, r, h1, h2, h3⟩ := flat_inv hk h
      exact ⟨i + 1, x, r, by simpa using h1, h2, by rw [hk] at hj; rw [Nat.add_mul]; omega⟩
theorem flat_len (hk : ∀ x, (f x).length = k) (l : List α) : (l.flatMap f).length = l.length * k := by
  induction l with
  | nil => simp
  | cons a l ih => rw [List.flatMap_cons, List.length_append, hk, ih, List.length_cons, Nat.add_mul]; omega
end
theorem row_cells {W : World} {base n e size : Nat} {v : Value} {xs : List Value} (h : W.ownsRow base e size v n xs) (hn : n ≠ 0) :
    ∃ g cap, v = .slice (some ⟨g, 0, none⟩) n cap ∧ g < W.heap.size ∧ base ≤ g ∧ ∀ j u, xs[j]? = some u → W.cell? ⟨g, j, none⟩ = some u := by
  rcases h.2 with ⟨-, e⟩ | ⟨g, cap, cur, hv, hb, hg, hc, hm, -⟩
  · exact absurd e hn
  · refine ⟨g, cap, hv, (Array.getElem?_eq_some_iff.1 hg).1, hb, fun j u hu => ?_⟩
    have := h.cells (g := g) (by rw [hv]; rfl) j u hu
    unfold Addr.add at this
    split at this
    · rename_i hj; subst hj; exact this
    · simpa using this
abbrev vaF (v : VaD) : List Value := (VaV v).toList
theorem vaF_len (v : VaD) : (vaF v).length = 3 := rfl
/-- The cells of variables that came in. -/
theorem vars_news {W : World} {b o : Nat} {vs : List VaD} (h : RowM 3 VaAt W (some ⟨b, o, none⟩) vs) : ∀ j u, (vs.flatMap vaF)[j]? = some u → W.cell? ((⟨b, o, none⟩ : Addr).add j) = some u := by
  intro j u hu
  obtain ⟨i, x, r, h1, h2, rfl⟩ := flat_inv vaF_len hu
  obtain ⟨b', o', e, -, hc⟩ := h.2 i x h1
  cases e
  have := hc r u (by rw [← h2]; simp)
  rw [Nat.add_assoc] at this
  unfold Addr.add
  split
  · rename_i hj; rw [hj] at this; exact this
  · exact this
theorem vars_one (vs : List VaD) : ∀ u ∈ vs.flatMap vaF, u.oneCell' = true := by
  intro u hu
  obtain ⟨v, -, h⟩ := List.mem_flatMap.1 hu
  simp only [vaF, List.mem_cons, List.not_mem_nil, or_false] at h
  rcases h with rfl | rfl | rfl <;> rfl
theorem row_kept {α : Type} {k : Nat} {P : World → Nat → Nat → α → Prop} {W W' : World} {b o : Nat} {l : List α} (h : RowM k P W (some ⟨b, o, none⟩) l) (hs : W.heap.size ≤ W'.heap.size) (hP : ∀ q x, P W b q x → P W' b q x) : RowM k P W' (some ⟨b, o, none⟩) l := by
  refine ⟨h.1, fun i x hx => ?_⟩
  obtain ⟨b', o', e, hlt, hp⟩ := h.2 i x hx
  cases e
  exact ⟨b, o, rfl, by omega, hP _ _ hp⟩
/-- A block that does not change keeps its variables. -/
theorem va_kept {W W' : World} {b : Nat} (hb : W'.heap[b]? = W.heap[b]?) : ∀ q x, VaAt W b q x → VaAt W' b q x := fun q x h j v hv => by
  have := h j v hv
  rw [← this]
  exact World.cell?_of_block (a := ⟨b, q + j, none⟩) hb
theorem flat_get' {k : Nat} : ∀ {l : List (Array Value)}, (∀ x ∈ l, x.toList.length = k) → ∀ {i : Nat} {x : Array Value} {j : Nat} {u : Value}, l[i]? = some x → x[j]? = some u → (l.flatMap (·.toList))[i * k + j]? = some u
  | [], _, _, _, _, _, h, _ => by simp at h
  | a :: l, hk, 0, x, j, u, h, hu => by
    simp at h
    subst h
    have hj := (Array.getElem?_eq_some_iff.1 hu).1
    rw [List.flatMap_cons, Nat.zero_mul, Nat.zero_add, List.getElem?_append_left (by simpa using hj)]
    simpa using hu
  | a :: l, hk, i + 1, x, j, u, h, hu => by
    have ha := hk a (by simp)
    rw [List.flatMap_cons, List.getElem?_append_right (by rw [ha, Nat.add_mul]; omega), ha, show (i + 1) * k + j - k = i * k + j by rw [Nat.add_mul]; omega]
    exact flat_get' (fun x hx => hk x (by simp [hx])) (by simpa using h) hu
theorem row_at {W W' : World} {base n e size : Nat} {v : Value} {xs : List Value} (h : W.ownsRow base e size v n xs) (hb : ∀ g, v.ownBlock = some g → W'.heap[g]? = W.heap[g]?) : W'.ownsRow base e size v n xs := by
  refine ⟨h.1, ?_⟩
  rcases h.2 with h0 | ⟨g, cap, cur, hv, hbg, hg, rest⟩
  · exact .inl h0
  · exact .inr ⟨g, cap, cur, hv, hbg, (hb g (by rw [hv]; rfl)).trans hg, rest⟩
theorem row_lt {W : World} {base n e size : Nat} {v : Value} {xs : List Value} (h : W.ownsRow base e size v n xs) {g : Nat} (hg : v.ownBlock = some g) : base ≤ g ∧ g < W.heap.size := by
  rcases h.2 with ⟨rfl, -⟩ | ⟨g', cap, cur, rfl, hbg, hgs, rest⟩
  · cases hg
  · cases hg
    exact ⟨hbg, (Array.getElem?_eq_some_iff.1 hgs).1⟩
end Go.Proofs.YtlbcinanpnjjjaaDoor
