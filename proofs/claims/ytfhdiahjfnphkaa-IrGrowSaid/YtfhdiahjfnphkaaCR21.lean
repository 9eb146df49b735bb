/- What a return, and a move, ask. No conditions. -/
import Derived.Test.YtfhdiahjfnphkaaCR13
import Derived.Test.YtfhdiahjfnphkaaCR17
import Derived.Test.YtfhdiahjfnphkaaCR19
import Derived.Test.YtfhdiahjfnphkaaCR20
namespace Go.Proofs.Ytfhdiahjfnphkaa
open Go.RowKit Go.Maps
set_option linter.unusedVariables false
set_option linter.unusedSimpArgs false
def retF (x : CoD) (r : InD) : Int := if inN x.vs.length r.a then (if tyEq (tyOf x r.a) x.rt.t then 0 else 7) else 15
set_option maxHeartbeats 4000000 in
theorem retj_g (p : JP) (J : Nat) (r : InD) (ao mo : Option Addr) (ac mc : Nat) (w : World) (hj : JG w J p) :
    Calls Try.prog 70 #[.pointer (some ⟨J, 0, none⟩), .agg (InV r ao ac mo mc)] w fun e w' => e = .returned (.int .i64 (retF p.x r)) ∧ Hid (Below w.heap.size w w') := by
  obtain ⟨op, d, a, b, tt, el, f, n, l, c, sg, xs, ms⟩ := r
  have HJ := hid (fun W (hb : Below w.heap.size w W) => hj.later hb)
  have HB := hid (below2 w)
  have hc := fun o q => cells_at2 hj.j o q
  clear hj
  cases e : inN p.x.vs.length a
  case false =>
    have hf : retF p.x ⟨op, d, a, b, tt, el, f, n, l, c, sg, xs, ms⟩ = 15 := by simp [retF, e]
    rw [hf]
    clear hf
    go_enter Try.func70, Try.ntmps70
    go_wp2_with (first
      | (go_at_call 74; refine (there_1 p a _ _ _ _ (new_cell _ _ _ _) (HJ.out _ (HB.out _ _)) e).mono ?_; rintro e w' ⟨rfl, rfl⟩))
    go_ret
    exact ⟨rfl, hid (HB.out _ _)⟩
  case true =>
    obtain ⟨k, pp, nm, rfl, hv, ht⟩ := inN_get e
    have HV := hid hv
    clear hv
    obtain ⟨q, hq⟩ : ∃ q, (pp == p.x.rt.t.p) = q := ⟨_, rfl⟩
    obtain ⟨q2, hq2⟩ : ∃ q, (nm.toList == p.x.rt.t.name.toList) = q := ⟨_, rfl⟩
    have hf : retF p.x ⟨op, d, (k : Int), b, tt, el, f, n, l, c, sg, xs, ms⟩ = if q && q2 then 0 else 7 := by simp only [retF, e, ht, tyEq, sEq, hq, hq2]; rfl
    rw [hf]
    clear hf ht
    cases q
    all_goals cases q2
    all_goals
      go_enter Try.func70, Try.ntmps70
      go_wp2_with (first
        | (go_at_call 74; refine (there_1 p k _ _ _ _ (new_cell _ _ _ _) (HJ.out _ (HB.out _ _)) e).mono ?_; rintro e w' ⟨rfl, rfl⟩))
      go_region_with (first
        | (go_at_call 76; refine (kind_j p k _ _ _ _ (HJ.out _ (HB.out _ _).drew) HV.out).mono ?_; rintro e w1 ⟨rfl, hb1⟩; have HB1 := hid (after (HB.out _ _).drew hb1.out (HB.out _ _).drew.size); have hc1 := cells_at (lay hb1.out (HJ.out _ (HB.out _ _).drew).j))
        | (go_at_call 75; refine (mist_i _ _).mono ?_; rintro e w' ⟨rfl, rfl⟩))
      all_goals go_wp2
      all_goals go_ret
      all_goals exact ⟨rfl, HB1⟩
end Go.Proofs.Ytfhdiahjfnphkaa
/- What all operations ask, as plain functions. No conditions. -/
namespace Go.Proofs.Ytfhdiahjfnphkaa
open Go.RowKit Go.Maps
set_option linter.unusedVariables false
set_option linter.unusedSimpArgs false
def numsF (x : CoD) (r : InD) : Int :=
  if r.op = 4 then
    (if inN x.vs.length r.a && (inN x.vs.length r.b && inN x.vs.length r.d) then (if (tyOf x r.a).p || ((tyOf x r.b).p || (tyOf x r.d).p) then 7 else if sgF r.sg then 0 else 3) else 15)
  else (if inN x.vs.length r.a && inN x.vs.length r.d then (if (tyOf x r.a).p || (tyOf x r.d).p then 7 else 0) else 15)
def argsEq (x : CoD) : List Int → List VaD → Bool
  | [], _ => true
  | _ :: _, [] => false
  | a :: l, v :: vs => tyEq (tyOf x a) v.t && argsEq x l vs
/-- A call of a function that is there. -/
def calF (g : CoD) (x : CoD) (r : InD) : Int :=
  if decide ((r.xs.length : Int) = g.pr) && decide (r.xs.length ≤ g.vs.length) then (if argsEq x r.xs g.vs && tyEq (tyOf x r.d) g.rt.t then 0 else 7) else 7
def callF (cs : List CoD) (x : CoD) (r : InD) : Int :=
  if inN x.vs.length r.d && r.xs.all (inN x.vs.length) then (if 0 ≤ r.f then (match cs[r.f.toNat]? with | some g => calF g x r | none => 15) else 15) else 15
def jF (ss : List StD) (cs : List CoD) (x : CoD) (r : InD) : Int :=
  if r.op = 1 then numF x r else if r.op = 2 then nullF x r else if r.op = 3 then numsF x r else if r.op = 4 then numsF x r else
  if r.op = 5 then numF x r else if r.op = 6 then askF x r else if r.op = 7 then fitsF ss x r r.d false else if r.op = 8 then fitsF ss x r r.b false else
  if r.op = 9 then giveF x r else if r.op = 10 then fitsF ss x r r.d true else if r.op = 11 then fitsF ss x r r.b true else if r.op = 12 then cellF ss x r else
  if r.op = 13 then freeF x r else if r.op = 14 then isNF x r else if r.op = 15 then callF cs x r else if r.op = 16 then jumpF x r else
  if r.op = 17 then askF x r else if r.op = 18 then retF x r else 3
theorem wr_cases {op : Int} (h : wrB op = true) : op = 1 ∨ op = 2 ∨ op = 3 ∨ op = 4 ∨ op = 5 ∨ op = 7 ∨ op = 9 ∨ op = 10 ∨ op = 12 ∨ op = 14 ∨ op = 15 := by
  simp only [wrB, wrL, List.any_cons, List.any_nil, Bool.or_false, Bool.or_eq_true, beq_iff_eq] at h
  omega
theorem nw_cases {op : Int} (h : wrB op = false) (h1 : ¬ op < 1) (h2 : ¬ 18 < op) : op = 6 ∨ op = 8 ∨ op = 11 ∨ op = 13 ∨ op = 16 ∨ op = 17 ∨ op = 18 := by
  simp only [wrB, wrL, List.any_cons, List.any_nil, Bool.or_false, Bool.or_eq_false_iff, beq_eq_false_iff_ne, ne_eq] at h
  omega
theorem fits_loose {ss : List StD} {x : CoD} {r : InD} {v : Int} {p : Bool} (h : (inN x.vs.length r.a && inN x.vs.length v) = false) : fitsF ss x r v p = 15 := by
  have : (fieldF ss x r v).2 = 15 := by rw [fieldF, h]; rfl
  rw [fitsF, this]; rfl
/-- What is not there. -/
theorem jF_loose (ss : List StD) (cs : List CoD) (x : CoD) (r : InD) (h1 : ¬ r.op < 1) (h2 : ¬ 18 < r.op)
    (h : (wrB r.op = true ∧ inN x.vs.length r.d = false) ∨ (rdsF r).all (inN x.vs.length) = false) : jF ss cs x r = 15 := by
  obtain ⟨op, d, a, b, tt, el, f, n, l, c, sg, xs, ms⟩ := r
  simp only at h1 h2 h
  have ho : op = 1 ∨ op = 2 ∨ op = 3 ∨ op = 4 ∨ op = 5 ∨ op = 6 ∨ op = 7 ∨ op = 8 ∨ op = 9 ∨ op = 10 ∨ op = 11 ∨ op = 12 ∨ op = 13 ∨ op = 14 ∨ op = 15 ∨ op = 16 ∨ op = 17 ∨ op = 18 := by omega
  rcases ho with rfl | rfl | rfl | rfl | rfl | rfl | rfl | rfl | rfl | rfl | rfl | rfl | rfl | rfl | rfl | rfl | rfl | rfl
  all_goals
    cases qa : inN x.vs.length a <;> cases qb : inN x.vs.length b <;> cases qd : inN x.vs.length d <;> simp [wrB, wrL, rdsF, rd1, rd2, rdL, rd2L, qa, qb, qd] at h
    all_goals first
      | (simp [jF, numF, nullF, numsF, askF, giveF, cellF, freeF, isNF, callF, retF, qa, qb, qd]; done)
      | (simp [jF]; exact fits_loose (by simp [qa, qb, qd]))
      | skip
  all_goals
    have hx : xs.all (inN x.vs.length) = false := by
      simpa using h
    simp [jF, callF, hx]
theorem cell_same {w W : World} {b o : Nat} (h : Below w.heap.size w W) (hb : b < w.heap.size) : W.cell? ⟨b, o, none⟩ = w.cell? ⟨b, o, none⟩ := h.cell (p := ⟨b, o, none⟩) hb
theorem kind_cells {x : CoD} {w : World} {va : Option Addr} {k : Nat} {pp : Bool} {nm : ByteArray} (hC : RowM 3 VaAt w va x.vs) (hv : KindIs x k pp nm) :
    ∃ b o, va = some ⟨b, o, none⟩ ∧ w.cell? ⟨b, o + k * 3, none⟩ = some (.bool pp) ∧ w.cell? ⟨b, o + k * 3 + 1, none⟩ = some (.string nm) ∧ k < x.vs.length := by
  obtain ⟨v, hv1, hv2⟩ := hv
  obtain ⟨bv, ov, hva, hbv, hcv⟩ := hC.2 k v hv1
  refine ⟨bv, ov, hva, ?_, ?_, (List.getElem?_eq_some_iff.1 hv1).1⟩
  · have := hcv 0 (.bool v.t.p) rfl; rw [hv2] at this; exact this
  · have := hcv 1 (.string v.t.name) rfl; rw [hv2] at this; exact this
theorem kind_at {x : CoD} {w : World} {b o : Nat} {k : Nat} {pp : Bool} {nm : ByteArray} (hC : RowM 3 VaAt w (some ⟨b, o, none⟩) x.vs) (hv : KindIs x k pp nm) :
    w.cell? ⟨b, o + k * 3, none⟩ = some (.bool pp) ∧ w.cell? ⟨b, o + k * 3 + 1, none⟩ = some (.string nm) ∧ k < x.vs.length := by
  obtain ⟨b', o', e, h⟩ := kind_cells hC hv
  cases e
  exact h
end Go.Proofs.Ytfhdiahjfnphkaa
