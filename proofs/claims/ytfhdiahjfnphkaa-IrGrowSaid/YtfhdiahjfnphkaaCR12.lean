/- A judge in memory, and what it says of some instructions. No conditions. -/
import Derived.Test.YtfhdiahjfnphkaaCR11
namespace Go.Proofs.Ytfhdiahjfnphkaa
open Go.RowKit Go.Maps
set_option linter.unusedVariables false
set_option linter.unusedSimpArgs false
structure JP where
  (ss : List StD) (cs : List CoD) (x : CoD) (sa ca va fa ia : Option Addr) (sc cc vc fc ic B n : Nat) (D : DataW Unit)
abbrev JP.obj (p : JP) : Array Value :=
  #[.slice p.sa p.ss.length p.sc, .slice p.ca p.cs.length p.cc, .map (some p.B), .string p.x.nm, .int .i64 p.x.pr, .slice p.va p.x.vs.length p.vc, .bool p.x.rt.t.p, .string p.x.rt.t.name, .int .i64 p.x.rt.cls, .slice p.fa p.x.fr.length p.fc, .slice p.ia p.x.ins.length p.ic]
structure JG (W : World) (J : Nat) (p : JP) : Prop where
  j : W.heap[J]? = some (.cells p.obj 70 (0, 0))
  st : RowM 4 StAt W p.sa p.ss
  fn : RowM 8 CoAt W p.ca p.cs
  co : CoM W p.x p.va p.fa p.ia
  mp : W.ownsMap Try.prog 9 (plainElem (H := Unit) Try.prog 3) p.B p.n p.D
theorem owns_later {W W' : World} {k b n : Nat} {R : Value → Option (DataW Unit × List MemPlace)} {D : DataW Unit} (h : W.ownsMap Try.prog k R b n D) (hb : Below W.heap.size W W') : W'.ownsMap Try.prog k R b n D := by
  obtain ⟨es, clock, h1, h2⟩ := h
  exact ⟨es, clock, (hb.block b (Array.getElem?_eq_some_iff.1 h1).1).trans h1, h2⟩
theorem JG.later {W W' : World} {J : Nat} {p : JP} (h : JG W J p) (hb : Below W.heap.size W W') : JG W' J p :=
  ⟨old_block hb (Array.getElem?_eq_some_iff.1 h.j).1 h.j, h.st.later st_stays hb, h.fn.later co_stays hb, h.co.later hb, owns_later h.mp hb⟩
theorem JG.vars {W : World} {J : Nat} {p : JP} (h : JG W J p) : W.cell? ⟨J, 5, none⟩ = some (.slice p.va p.x.vs.length p.vc) := cells_at h.j 5
theorem JG.inss {W : World} {J : Nat} {p : JP} (h : JG W J p) : W.cell? ⟨J, 10, none⟩ = some (.slice p.ia p.x.ins.length p.ic) := cells_at h.j 10
theorem ints1 {W : World} {b : Nat} {d : Int} (h : W.cell? ⟨b, 0, none⟩ = some (.int .i64 d)) : IntsM W (some ⟨b, 0, none⟩) [d] := by
  refine ⟨by simp, fun i x hx => ⟨b, 0, rfl, cell_lt h, ?_⟩⟩
  match i, hx with
  | 0, hx => simp at hx; subst hx; exact h
  | i + 1, hx => simp at hx
theorem ints2 {W : World} {b : Nat} {d e : Int} (h : W.cell? ⟨b, 0, none⟩ = some (.int .i64 d)) (h1 : W.cell? ⟨b, 1, none⟩ = some (.int .i64 e)) : IntsM W (some ⟨b, 0, none⟩) [d, e] := by
  refine ⟨by simp, fun i x hx => ⟨b, 0, rfl, cell_lt h, ?_⟩⟩
  match i, hx with
  | 0, hx => simp at hx; subst hx; exact h
  | 1, hx => simp at hx; subst hx; exact h1
  | i + 2, hx => simp at hx
theorem there_1 (p : JP) (d : Int) (b J : Nat) (r : Bool) (w : World) (h : w.cell? ⟨b, 0, none⟩ = some (.int .i64 d)) (hj : JG w J p) (hr : inN p.x.vs.length d = r) :
    Calls Try.prog 74 #[.pointer (some ⟨J, 0, none⟩), .slice (some ⟨b, 0, none⟩) 1 1] w fun e w' => e = .returned (.bool r) ∧ w' = w :=
  there_g [d] _ 1 J _ _ _ r w (ints1 h) hj.vars (by simp [hr])
theorem there_2 (p : JP) (d e : Int) (b J : Nat) (r : Bool) (w : World) (h : w.cell? ⟨b, 0, none⟩ = some (.int .i64 d)) (h1 : w.cell? ⟨b, 1, none⟩ = some (.int .i64 e)) (hj : JG w J p) (hr : (inN p.x.vs.length d && inN p.x.vs.length e) = r) :
    Calls Try.prog 74 #[.pointer (some ⟨J, 0, none⟩), .slice (some ⟨b, 0, none⟩) 2 2] w fun e w' => e = .returned (.bool r) ∧ w' = w :=
  there_g [d, e] _ 2 J _ _ _ r w (ints2 h h1) hj.vars (by simpa using hr)
theorem place_1 (p : JP) (d : Int) (b J : Nat) (r : Bool) (w : World) (h : w.cell? ⟨b, 0, none⟩ = some (.int .i64 d)) (hj : JG w J p) (hr : inN p.x.ins.length d = r) :
    Calls Try.prog 79 #[.pointer (some ⟨J, 0, none⟩), .slice (some ⟨b, 0, none⟩) 1 1] w fun e w' => e = .returned (.bool r) ∧ w' = w :=
  place_g [d] _ 1 J _ _ _ r w (ints1 h) hj.inss (by simp [hr])
theorem place_2 (p : JP) (d e : Int) (b J : Nat) (r : Bool) (w : World) (h : w.cell? ⟨b, 0, none⟩ = some (.int .i64 d)) (h1 : w.cell? ⟨b, 1, none⟩ = some (.int .i64 e)) (hj : JG w J p) (hr : (inN p.x.ins.length d && inN p.x.ins.length e) = r) :
    Calls Try.prog 79 #[.pointer (some ⟨J, 0, none⟩), .slice (some ⟨b, 0, none⟩) 2 2] w fun e w' => e = .returned (.bool r) ∧ w' = w :=
  place_g [d, e] _ 2 J _ _ _ r w (ints2 h h1) hj.inss (by simpa using hr)
def KindIs (x : CoD) (k : Nat) (p : Bool) (nm : ByteArray) : Prop := ∃ v, x.vs[k]? = some v ∧ v.t = ⟨p, nm⟩
theorem kind_j (p : JP) (k : Nat) (pp : Bool) (nm : ByteArray) (J : Nat) (w : World) (hj : JG w J p) (hv : KindIs p.x k pp nm) :
    Calls Try.prog 76 #[.pointer (some ⟨J, 0, none⟩), .int .i64 k] w fun e w' => e = .returned (.agg #[.bool pp, .string nm]) ∧ Hid (Below w.heap.size w w') := by
  obtain ⟨v, hv, ht⟩ := hv
  obtain ⟨b, o, e, hb, hc⟩ := hj.co.vs.2 k v hv
  have h5 := hj.vars
  rw [e] at h5
  have := kind_g v k b o J _ _ w h5 (List.getElem?_eq_some_iff.1 hv).1 hc
  rw [ht] at this
  exact this
def tyOf (x : CoD) (d : Int) : TyD := match x.vs[d.toNat]? with | some v => v.t | none => ⟨false, ⟨#[]⟩⟩
theorem inN_get {x : CoD} {d : Int} (h : inN x.vs.length d = true) : ∃ (k : Nat) (pp : Bool) (nm : ByteArray), d = k ∧ KindIs x k pp nm ∧ tyOf x d = ⟨pp, nm⟩ := by
  simp only [inN, Bool.and_eq_true, decide_eq_true_eq] at h
  obtain ⟨v, hv⟩ := get_some (l := x.vs) (i := d.toNat) rfl (by omega)
  exact ⟨d.toNat, v.t.p, v.t.name, by omega, ⟨v, hv, rfl⟩, by simp [tyOf, hv]⟩
def numF (x : CoD) (r : InD) : Int := if inN x.vs.length r.d then (if (tyOf x r.d).p then 7 else 0) else 15
def nullF (x : CoD) (r : InD) : Int := if inN x.vs.length r.d then (if (tyOf x r.d).p then 0 else 7) else 15
def freeF (x : CoD) (r : InD) : Int := if inN x.vs.length r.a then (if (tyOf x r.a).p then 0 else 7) else 15
def jumpF (x : CoD) (r : InD) : Int := if inN x.ins.length r.tt then 0 else 15
def askF (x : CoD) (r : InD) : Int := if inN x.vs.length r.a && (!(r.op == 17) || (inN x.ins.length r.tt && inN x.ins.length r.el)) then (if (tyOf x r.a).p then 7 else 0) else 15
theorem number_g (p : JP) (J : Nat) (r : InD) (ao mo : Option Addr) (ac mc : Nat) (w : World) (hj : JG w J p) :
    Calls Try.prog 58 #[.pointer (some ⟨J, 0, none⟩), .agg (InV r ao ac mo mc)] w fun e w' => e = .returned (.int .i64 (numF p.x r)) ∧ Hid (Below w.heap.size w w') := by
  obtain ⟨op, d, a, b, tt, el, f, n, l, c, sg, xs, ms⟩ := r
  have HJ := hid (fun W (hb : Below w.heap.size w W) => hj.later hb)
  have HB := hid (below2 w)
  have hfd : ∀ b n (w : World), (Instr.field 31 (.agg #[.bool b, .string n]) 0).run Try.prog w = .ok (.bool b) w := fun _ _ _ => by kernel_rfl
  clear hj
  cases e : inN p.x.vs.length d
  case false =>
    have hf : numF p.x ⟨op, d, a, b, tt, el, f, n, l, c, sg, xs, ms⟩ = 15 := by simp [numF, e]
    rw [hf]
    clear hf
    go_enter Try.func58, Try.ntmps58
    go_wp2_with (first
      | (go_at_call 74; refine (there_1 p d _ _ _ _ (new_cell _ _ _ _) (HJ.out _ (HB.out _ _)) e).mono ?_; rintro e w' ⟨rfl, rfl⟩))
    go_ret
    exact ⟨rfl, hid (HB.out _ _)⟩
  case true =>
    obtain ⟨k, pp, nm, rfl, hv, ht⟩ := inN_get e
    have HV := hid hv
    clear hv
    have hf : numF p.x ⟨op, (k : Int), a, b, tt, el, f, n, l, c, sg, xs, ms⟩ = numF p.x ⟨op, (k : Int), a, b, tt, el, f, n, l, c, sg, xs, ms⟩ := rfl
    rw [numF, if_pos (by simpa using e), ht]
    clear hf ht
    cases pp
    all_goals
      go_enter Try.func58, Try.ntmps58
      go_wp2_with (first
        | (go_at_call 74; refine (there_1 p k _ _ _ _ (new_cell _ _ _ _) (HJ.out _ (HB.out _ _)) e).mono ?_; rintro e w' ⟨rfl, rfl⟩)
        | (go_at_call 76; refine (kind_j p k _ _ _ _ (HJ.out _ (HB.out _ _)) HV.out).mono ?_; rintro e w1 ⟨rfl, hb1⟩)
        | (go_at_call 75; refine (mist_i _ _).mono ?_; rintro e w' ⟨rfl, rfl⟩))
      all_goals go_ret
      all_goals exact ⟨rfl, hid (after (HB.out _ _) hb1.out (HB.out _ _).size)⟩
theorem null_g (p : JP) (J : Nat) (r : InD) (ao mo : Option Addr) (ac mc : Nat) (w : World) (hj : JG w J p) :
    Calls Try.prog 59 #[.pointer (some ⟨J, 0, none⟩), .agg (InV r ao ac mo mc)] w fun e w' => e = .returned (.int .i64 (nullF p.x r)) ∧ Hid (Below w.heap.size w w') := by
  obtain ⟨op, d, a, b, tt, el, f, n, l, c, sg, xs, ms⟩ := r
  have HJ := hid (fun W (hb : Below w.heap.size w W) => hj.later hb)
  have HB := hid (below2 w)
  have hfd : ∀ b n (w : World), (Instr.field 31 (.agg #[.bool b, .string n]) 0).run Try.prog w = .ok (.bool b) w := fun _ _ _ => by kernel_rfl
  clear hj
  cases e : inN p.x.vs.length d
  case false =>
    have hf : nullF p.x ⟨op, d, a, b, tt, el, f, n, l, c, sg, xs, ms⟩ = 15 := by simp [nullF, e]
    rw [hf]
    clear hf
    go_enter Try.func59, Try.ntmps59
    go_wp2_with (first
      | (go_at_call 74; refine (there_1 p d _ _ _ _ (new_cell _ _ _ _) (HJ.out _ (HB.out _ _)) e).mono ?_; rintro e w' ⟨rfl, rfl⟩))
    go_ret
    exact ⟨rfl, hid (HB.out _ _)⟩
  case true =>
    obtain ⟨k, pp, nm, rfl, hv, ht⟩ := inN_get e
    have HV := hid hv
    clear hv
    have hf : nullF p.x ⟨op, (k : Int), a, b, tt, el, f, n, l, c, sg, xs, ms⟩ = nullF p.x ⟨op, (k : Int), a, b, tt, el, f, n, l, c, sg, xs, ms⟩ := rfl
    rw [nullF, if_pos (by simpa using e), ht]
    clear hf ht
    cases pp
    all_goals
      go_enter Try.func59, Try.ntmps59
      go_wp2_with (first
        | (go_at_call 74; refine (there_1 p k _ _ _ _ (new_cell _ _ _ _) (HJ.out _ (HB.out _ _)) e).mono ?_; rintro e w' ⟨rfl, rfl⟩)
        | (go_at_call 76; refine (kind_j p k _ _ _ _ (HJ.out _ (HB.out _ _)) HV.out).mono ?_; rintro e w1 ⟨rfl, hb1⟩)
        | (go_at_call 75; refine (mist_i _ _).mono ?_; rintro e w' ⟨rfl, rfl⟩))
      all_goals go_ret
      all_goals exact ⟨rfl, hid (after (HB.out _ _) hb1.out (HB.out _ _).size)⟩
theorem free_g (p : JP) (J : Nat) (r : InD) (ao mo : Option Addr) (ac mc : Nat) (w : World) (hj : JG w J p) :
    Calls Try.prog 66 #[.pointer (some ⟨J, 0, none⟩), .agg (InV r ao ac mo mc)] w fun e w' => e = .returned (.int .i64 (freeF p.x r)) ∧ Hid (Below w.heap.size w w') := by
  obtain ⟨op, d, a, b, tt, el, f, n, l, c, sg, xs, ms⟩ := r
  have HJ := hid (fun W (hb : Below w.heap.size w W) => hj.later hb)
  have HB := hid (below2 w)
  have hfd : ∀ b n (w : World), (Instr.field 31 (.agg #[.bool b, .string n]) 0).run Try.prog w = .ok (.bool b) w := fun _ _ _ => by kernel_rfl
  clear hj
  cases e : inN p.x.vs.length a
  case false =>
    have hf : freeF p.x ⟨op, d, a, b, tt, el, f, n, l, c, sg, xs, ms⟩ = 15 := by simp [freeF, e]
    rw [hf]
    clear hf
    go_enter Try.func66, Try.ntmps66
    go_wp2_with (first
      | (go_at_call 74; refine (there_1 p a _ _ _ _ (new_cell _ _ _ _) (HJ.out _ (HB.out _ _)) e).mono ?_; rintro e w' ⟨rfl, rfl⟩))
    go_ret
    exact ⟨rfl, hid (HB.out _ _)⟩
  case true =>
    obtain ⟨k, pp, nm, rfl, hv, ht⟩ := inN_get e
    have HV := hid hv
    clear hv
    have hf : freeF p.x ⟨op, d, (k : Int), b, tt, el, f, n, l, c, sg, xs, ms⟩ = freeF p.x ⟨op, d, (k : Int), b, tt, el, f, n, l, c, sg, xs, ms⟩ := rfl
    rw [freeF, if_pos (by simpa using e), ht]
    clear hf ht
    cases pp
    all_goals
      go_enter Try.func66, Try.ntmps66
      go_wp2_with (first
        | (go_at_call 74; refine (there_1 p k _ _ _ _ (new_cell _ _ _ _) (HJ.out _ (HB.out _ _)) e).mono ?_; rintro e w' ⟨rfl, rfl⟩)
        | (go_at_call 76; refine (kind_j p k _ _ _ _ (HJ.out _ (HB.out _ _)) HV.out).mono ?_; rintro e w1 ⟨rfl, hb1⟩)
        | (go_at_call 75; refine (mist_i _ _).mono ?_; rintro e w' ⟨rfl, rfl⟩))
      all_goals go_ret
      all_goals exact ⟨rfl, hid (after (HB.out _ _) hb1.out (HB.out _ _).size)⟩
theorem jump_g (p : JP) (J : Nat) (r : InD) (ao mo : Option Addr) (ac mc : Nat) (w : World) (hj : JG w J p) :
    Calls Try.prog 69 #[.pointer (some ⟨J, 0, none⟩), .agg (InV r ao ac mo mc)] w fun e w' => e = .returned (.int .i64 (jumpF p.x r)) ∧ Hid (Below w.heap.size w w') := by
  obtain ⟨op, d, a, b, tt, el, f, n, l, c, sg, xs, ms⟩ := r
  have HJ := hid (fun W (hb : Below w.heap.size w W) => hj.later hb)
  have HB := hid (below2 w)
  clear hj
  cases e : inN p.x.ins.length tt
  all_goals
    simp only [jumpF, e]
    go_enter Try.func69, Try.ntmps69
    go_wp2_with (first
      | (go_at_call 79; refine (place_1 p tt _ _ _ _ (new_cell _ _ _ _) (HJ.out _ (HB.out _ _)) e).mono ?_; rintro e w' ⟨rfl, rfl⟩))
    go_ret
    exact ⟨rfl, hid (HB.out _ _)⟩
end Go.Proofs.Ytfhdiahjfnphkaa
