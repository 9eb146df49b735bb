/- A module's parts, and how they lie in memory; when lists are alike. No conditions. -/
import Derived.Test.YtfhdiahjfnphkaaCR02
import Derived.Laws.StructEq
import Derived.Deep.CutBlock
namespace Go.Proofs.Ytfhdiahjfnphkaa
open Go.RowKit Go.Maps
set_option linter.unusedVariables false
set_option linter.unusedSimpArgs false
structure TyD where
  (p : Bool) (name : ByteArray)
structure VaD where
  (t : TyD) (cls : Int)
structure FdD where
  (nm : ByteArray) (t : TyD) (l c : Int)
structure InD where
  (op d a b tt el f n l c : Int) (sg : ByteArray) (xs ms : List Int)
structure StD where
  (nm : ByteArray) (fs : List FdD) (l c : Int)
structure CoD where
  (nm : ByteArray) (pr : Int) (vs : List VaD) (rt : VaD) (fr : List Int) (ins : List InD)
def sEq (a b : ByteArray) : Bool := a.toList == b.toList
def tyEq (a b : TyD) : Bool := (a.p == b.p) && sEq a.name b.name
def vaEq (a b : VaD) : Bool := tyEq a.t b.t && (a.cls == b.cls)
def fdEq (a b : FdD) : Bool := sEq a.nm b.nm && tyEq a.t b.t
def eqL {α : Type} (f : α → α → Bool) : List α → List α → Bool
  | [], [] => true
  | x :: xs, y :: ys => f x y && eqL f xs ys
  | _, _ => false
def inEq (a b : InD) : Bool := (a.op == b.op) && (a.d == b.d) && (a.a == b.a) && (a.b == b.b) && (a.f == b.f) && (a.n == b.n) && sEq a.sg b.sg && eqL (· == ·) a.xs b.xs && eqL (· == ·) a.ms b.ms && (a.tt == b.tt) && (a.el == b.el)
def stEq (a b : StD) : Bool := sEq a.nm b.nm && eqL fdEq a.fs b.fs
def coEq (a b : CoD) : Bool := sEq a.nm b.nm && (a.pr == b.pr) && vaEq a.rt b.rt && eqL vaEq a.vs b.vs && eqL (· == ·) a.fr b.fr && eqL inEq a.ins b.ins
section
variable {α : Type} {f : α → α → Bool}
theorem eqL_len : ∀ {l m : List α}, l.length ≠ m.length → eqL f l m = false
  | [], [], h => absurd rfl h
  | [], _ :: _, _ => rfl
  | _ :: _, [], _ => rfl
  | x :: xs, y :: ys, h => by
    unfold eqL
    rw [eqL_len (l := xs) (m := ys) (by simpa using h), Bool.and_false]
theorem eqL_no : ∀ {l m : List α} {i : Nat} {x y : α}, l[i]? = some x → m[i]? = some y → f x y = false → eqL f l m = false
  | [], _, i, x, y, h, _, _ => by simp at h
  | _ :: _, [], i, x, y, _, h, _ => by simp at h
  | a :: l, b :: m, 0, x, y, h1, h2, h3 => by
    simp at h1 h2
    subst h1 h2
    simp [eqL, h3]
  | a :: l, b :: m, i + 1, x, y, h1, h2, h3 => by
    simp at h1 h2
    unfold eqL
    rw [eqL_no h1 h2 h3, Bool.and_false]
theorem eqL_yes : ∀ {l m : List α}, l.length = m.length → (∀ i x y, i < l.length → l[i]? = some x → m[i]? = some y → f x y = true) → eqL f l m = true
  | [], [], _, _ => rfl
  | [], _ :: _, h, _ => by simp at h
  | _ :: _, [], h, _ => by simp at h
  | x :: xs, y :: ys, h, k => by
    unfold eqL
    rw [k 0 x y (by simp) rfl rfl, eqL_yes (l := xs) (m := ys) (by simpa using h) (fun i a b hi ha hb => k (i + 1) a b (by simpa using hi) (by simpa using ha) (by simpa using hb))]
    rfl
end
/-- A slice's elements, each of k cells. -/
def RowM {α : Type} (k : Nat) (P : World → Nat → Nat → α → Prop) (W : World) (A : Option Addr) (l : List α) : Prop :=
  l.length ≤ 9223372036854775807 ∧ ∀ (i : Nat) (x : α), l[i]? = some x → ∃ b o, A = some ⟨b, o, none⟩ ∧ b < W.heap.size ∧ P W b (o + i * k) x
abbrev CellsAt (W : World) (b o : Nat) (vs : Array Value) : Prop := ∀ (j : Nat) (v : Value), vs[j]? = some v → W.cell? ⟨b, o + j, none⟩ = some v
def IntAt (W : World) (b o : Nat) (x : Int) : Prop := W.cell? ⟨b, o, none⟩ = some (.int .i64 x)
abbrev VaV (v : VaD) : Array Value := #[.bool v.t.p, .string v.t.name, .int .i64 v.cls]
def VaAt (W : World) (b o : Nat) (v : VaD) : Prop := CellsAt W b o (VaV v)
abbrev FdV (v : FdD) : Array Value := #[.string v.nm, .bool v.t.p, .string v.t.name, .int .i64 v.l, .int .i64 v.c]
def FdAt (W : World) (b o : Nat) (v : FdD) : Prop := CellsAt W b o (FdV v)
abbrev InV (r : InD) (ao : Option Addr) (ac : Nat) (mo : Option Addr) (mc : Nat) : Array Value :=
  #[.int .i64 r.op, .int .i64 r.d, .int .i64 r.a, .int .i64 r.b, .int .i64 r.f, .int .i64 r.n, .string r.sg, .slice ao r.xs.length ac, .slice mo r.ms.length mc, .int .i64 r.tt, .int .i64 r.el, .int .i64 r.l, .int .i64 r.c]
abbrev IntsM := RowM 1 IntAt
structure InM (W : World) (r : InD) (ao mo : Option Addr) : Prop where
  xs : IntsM W ao r.xs
  ms : IntsM W mo r.ms
def InAt (W : World) (b o : Nat) (r : InD) : Prop := ∃ ao ac mo mc, CellsAt W b o (InV r ao ac mo mc) ∧ InM W r ao mo
abbrev StV (s : StD) (fa : Option Addr) (fc : Nat) : Array Value := #[.string s.nm, .slice fa s.fs.length fc, .int .i64 s.l, .int .i64 s.c]
abbrev FdsM := RowM 5 FdAt
def StAt (W : World) (b o : Nat) (s : StD) : Prop := ∃ fa fc, CellsAt W b o (StV s fa fc) ∧ FdsM W fa s.fs
abbrev CoV (c : CoD) (va : Option Addr) (vc : Nat) (fa : Option Addr) (fc : Nat) (ia : Option Addr) (ic : Nat) : Array Value :=
  #[.string c.nm, .int .i64 c.pr, .slice va c.vs.length vc, .bool c.rt.t.p, .string c.rt.t.name, .int .i64 c.rt.cls, .slice fa c.fr.length fc, .slice ia c.ins.length ic]
structure CoM (W : World) (c : CoD) (va fa ia : Option Addr) : Prop where
  vs : RowM 3 VaAt W va c.vs
  fr : IntsM W fa c.fr
  ins : RowM 13 InAt W ia c.ins
def CoAt (W : World) (b o : Nat) (c : CoD) : Prop := ∃ va vc fa fc ia ic, CellsAt W b o (CoV c va vc fa fc ia ic) ∧ CoM W c va fa ia
/-- What keeps blocks keeps all this. -/
def Stays {α : Type} (P : World → Nat → Nat → α → Prop) : Prop := ∀ (W W' : World) (b o : Nat) (x : α), Below W.heap.size W W' → b < W.heap.size → P W b o x → P W' b o x
theorem RowM.later {α : Type} {k : Nat} {P : World → Nat → Nat → α → Prop} (hP : Stays P) {W W' : World} {A : Option Addr} {l : List α} (h : RowM k P W A l) (hb : Below W.heap.size W W') : RowM k P W' A l := by
  refine ⟨h.1, fun i x hx => ?_⟩
  obtain ⟨b, o, e, hlt, hp⟩ := h.2 i x hx
  exact ⟨b, o, e, Nat.lt_of_lt_of_le hlt hb.size, hP _ _ _ _ _ hb hlt hp⟩
theorem cells_stay {W W' : World} {b o : Nat} {vs : Array Value} (hb : Below W.heap.size W W') (hlt : b < W.heap.size) (h : CellsAt W b o vs) : CellsAt W' b o vs :=
  fun j v hv => (hb.cell (p := ⟨b, o + j, none⟩) hlt).trans (h j v hv)
theorem int_stays : Stays IntAt := fun W W' b o x hb hlt h => (hb.cell (p := ⟨b, o, none⟩) hlt).trans h
theorem va_stays : Stays VaAt := fun W W' b o x hb hlt h => cells_stay hb hlt h
theorem fd_stays : Stays FdAt := fun W W' b o x hb hlt h => cells_stay hb hlt h
theorem InM.later {W W' : World} {r : InD} {ao mo : Option Addr} (h : InM W r ao mo) (hb : Below W.heap.size W W') : InM W' r ao mo := ⟨h.xs.later int_stays hb, h.ms.later int_stays hb⟩
theorem in_stays : Stays InAt := fun W W' b o x hb hlt h => by
  obtain ⟨ao, ac, mo, mc, h1, h2⟩ := h
  exact ⟨ao, ac, mo, mc, cells_stay hb hlt h1, h2.later hb⟩
theorem st_stays : Stays StAt := fun W W' b o x hb hlt h => by
  obtain ⟨fa, fc, h1, h2⟩ := h
  exact ⟨fa, fc, cells_stay hb hlt h1, h2.later fd_stays hb⟩
theorem CoM.later {W W' : World} {c : CoD} {va fa ia : Option Addr} (h : CoM W c va fa ia) (hb : Below W.heap.size W W') : CoM W' c va fa ia := ⟨h.vs.later va_stays hb, h.fr.later int_stays hb, h.ins.later in_stays hb⟩
theorem co_stays : Stays CoAt := fun W W' b o x hb hlt h => by
  obtain ⟨va, vc, fa, fc, ia, ic, h1, h2⟩ := h
  exact ⟨va, vc, fa, fc, ia, ic, cells_stay hb hlt h1, h2.later hb⟩
theorem below_drewN {n : Nat} {w W : World} (h : Below n w W) (k : Nat) : Below n w (W.drewN k) := ⟨h.os, h.tape, h.output, h.size, h.block⟩
theorem below_drew1 (w : World) : Below w.heap.size w w.drew := ⟨rfl, rfl, rfl, Nat.le_refl _, fun _ _ => rfl⟩
theorem get_some {α : Type} {l : List α} {n i : Nat} (h : l.length = n) (hi : i < n) : ∃ x, l[i]? = some x := ⟨_, List.getElem?_eq_getElem (by omega)⟩
theorem boxes' (w : World) (a : Array Value) (t : TypeId) (b : Array Value) (u : TypeId) : ((w.alloc (.cells a t)).alloc (.cells b u)).heap[w.heap.size]? = some (.cells a t (0, 0)) ∧ ((w.alloc (.cells a t)).alloc (.cells b u)).heap[w.heap.size + 1]? = some (.cells b u (0, 0)) := by
  refine ⟨(Below.heap_alloc _ _ _ (by simp)).trans (heap_alloc_new w _), ?_⟩
  have := heap_alloc_new (w.alloc (.cells a t)) (.cells b u)
  rwa [World.size_alloc] at this
/-- slices.Equal of numbers. -/
theorem eqInts_i (xs ys : List Int) (A A2 : Option Addr) (c c2 : Nat) (r : Bool) (w : World) (h1 : IntsM w A xs) (h2 : IntsM w A2 ys) (hr : eqL (· == ·) xs ys = r) :
    Calls Try.prog 22 #[.slice A xs.length c, .slice A2 ys.length c2] w fun e w' => e = .returned (.bool r) ∧ Hid (Below w.heap.size w w') := by
  have hl := h1.1
  obtain ⟨n, hn⟩ : ∃ n : Nat, xs.length = n := ⟨_, rfl⟩
  obtain ⟨m, hm⟩ : ∃ m : Nat, ys.length = m := ⟨_, rfl⟩
  rw [hn, hm]
  rw [hn] at hl
  have H1 := hid h1
  have H2 := hid h2
  have HN := hid hn
  have HM := hid hm
  have HR := hid hr
  clear h1 h2 hn hm hr
  by_cases hnm : n = m
  · subst hnm
    have e0 : ((n : Int) != (n : Int)) = false := by simp
    go_enter Try.func22, Try.ntmps22
    go_wp2
    go_loopg [13] n (fun gk v13 wr => ∃ k : Nat, k ≤ n ∧ gk = n - k ∧ v13 = .int .i64 k ∧ Hid (Below w.heap.size w wr) ∧ Hid (∀ i x y, i < k → xs[i]? = some x → ys[i]? = some y → (x == y) = true))
    case atStart => exact ⟨0, by omega, rfl, rfl, hid (Below.refl _ _), hid (fun i x y hi => absurd hi (by omega))⟩
    case round =>
      obtain ⟨k, hk, rfl, rfl, HB, HA⟩ := hrel
      by_cases hlt : k < n
      · have hlt' : (k : Int) < (n : Int) := by omega
        obtain ⟨x, hx⟩ := get_some HN.out hlt
        obtain ⟨y, hy⟩ := get_some HM.out hlt
        obtain ⟨b, o, rfl, hb1, hc1⟩ := (H1.out.later int_stays HB.out).2 k x hx
        obtain ⟨b2, o2, rfl, hb2, hc2⟩ := (H2.out.later int_stays HB.out).2 k y hy
        simp only [IntAt, Nat.mul_one] at hc1 hc2
        have HX := hid hx
        have HY := hid hy
        clear hx hy
        cases e : (x != y)
        case true =>
          have hf : r = false := HR.out.symm.trans (eqL_no HX.out HY.out (by simpa using e))
          subst hf
          have HBA := HB
          go_wp2
          go_quiet (fail)
          go_wp2
          go_ret
          exact ⟨rfl, hid (below_drewN HBA.out _)⟩
        case false =>
          have HBA := HB
          go_wp2
          go_quiet (fail)
          go_wp2
          go_roundg (n - (k + 1))
          case measure => omega
          case rel => exact ⟨k + 1, by omega, rfl, rfl, hid (below_drewN HBA.out _), hid (fun i x' y' hi h1 h2 => by
            by_cases hik : i < k
            · exact HA.out i x' y' hik h1 h2
            · obtain rfl : i = k := by omega
              rw [HX.out] at h1
              rw [HY.out] at h2
              cases h1
              cases h2
              simpa using e)⟩
      · have hlt' : ¬ (k : Int) < (n : Int) := by omega
        have hf : r = true := HR.out.symm.trans (eqL_yes (HN.out.trans HM.out.symm) (fun i x y hi h1 h2 => HA.out i x y (by have := HN.out; omega) h1 h2))
        subst hf
        go_wp2
        go_ret
        exact ⟨rfl, HB⟩
  · have e0 : ((n : Int) != (m : Int)) = true := by simp; omega
    have hf : r = false := HR.out.symm.trans (eqL_len (by rw [HN.out, HM.out]; exact hnm))
    subst hf
    go_enter Try.func22, Try.ntmps22
    go_wp2
    go_ret
    exact ⟨rfl, hid (Below.refl _ _)⟩
end Go.Proofs.Ytfhdiahjfnphkaa
