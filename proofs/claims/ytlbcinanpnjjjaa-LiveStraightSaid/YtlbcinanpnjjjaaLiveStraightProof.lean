/- LiveStraight (usufructlaw10): for any list of triples and any number the law returns true, and its arguments read behind the call as they read before. No conditions. -/
import Derived.Test.YtlbcinanpnjjjaaRows
import Derived.WalkKit
import Derived.ProofKit
import Derived.OpenShut
import Derived.Test.YtlbcinanpnjjjaaFmD
import Derived.Test.YtlbcinanpnjjjaaLvT
namespace Go.Proofs.Ytlbcinanpnjjjaa
open Go.ChangeShapes Go.WideShapes Go.ChangeAt Go.RowKit
set_option linter.unusedVariables false

theorem ls_laid : laidOutB Try.prog = true := by kernel_rfl
theorem ls_own : ownKnob Try.prog.godebug = none := by kernel_rfl
theorem open_tris {H : Type} {enc : TypeId × Value → H} {w : World} {base : Nat} {spare : Nat → Bool} {held : Bool} {fuel : Nat} {v : Value} {x : DataW H × List MemPlace} (h : DataW.trod enc Try.prog w base spare held fuel 48 [v] = some x) :
    ∃ (A : Option Addr) (c : Nat) (l : List TrD), v = .slice A l.length c ∧ RowM 3 TrAt w A l := by
  refine open_row ⟨0, 0, 0⟩ TrAt Try.underlying48 (k := 3) (by kernel_rfl) (by decide) (fun n cs x hx => ?_) h
  obtain ⟨xs, m, rfl, hx1, hlen, hn3, hel⟩ := DataW.trod_array Try.underlying49 hx
  have c3 : Try.prog.cellsOf 3 = 1 := by kernel_rfl
  have c49 : Try.prog.cellsOf 49 = 3 := by kernel_rfl
  rw [c49] at hlen
  match cs, hlen with
  | [v0, v1, v2], _ =>
    have f0 : DataW.trod enc Try.prog w base spare held m 3 (([v0, v1, v2].drop (0 * Try.prog.cellsOf 3)).take (Try.prog.cellsOf 3)) = xs[0]? := hel 0 (by decide)
    have f1 : DataW.trod enc Try.prog w base spare held m 3 (([v0, v1, v2].drop (1 * Try.prog.cellsOf 3)).take (Try.prog.cellsOf 3)) = xs[1]? := hel 1 (by decide)
    have f2 : DataW.trod enc Try.prog w base spare held m 3 (([v0, v1, v2].drop (2 * Try.prog.cellsOf 3)).take (Try.prog.cellsOf 3)) = xs[2]? := hel 2 (by decide)
    rw [c3] at f0 f1 f2
    obtain ⟨a, rfl⟩ := tr_int Try.underlying3 f0 (at_some hn3 (by omega))
    obtain ⟨b, rfl⟩ := tr_int Try.underlying3 f1 (at_some hn3 (by omega))
    obtain ⟨c, rfl⟩ := tr_int Try.underlying3 f2 (at_some hn3 (by omega))
    exact ⟨⟨a, b, c⟩, fun b o hh => hh⟩

set_option maxRecDepth 100000 in
theorem ls_lifted (os : Os) (started : os.Started) (H : Type) (enc : TypeId × Value → H) :
    ReturnsInHanded {} Try.checked os 5 .any (Rows.liveStraightSpec.pre6 enc Try.prog Try.f5 Rows.liveStraightRow.domain false) (Rows.liveStraightSpec.post enc Try.prog Try.f5 false true false false) := by
  refine returnsInHanded_of_change (C := Try.checked) ls_own started (by kernel_rfl) Try.func5
    (ChangeSpec.witness6 (enc := enc) (C := Try.checked) false ⟨#[], #[.slice none 0 0, .int .i64 0], []⟩ 8 (by kernel_rfl) (by kernel_rfl) (by kernel_rfl) (by kernel_rfl)) ?_
  intro W base args ds gs before hval0 hW hcnd _
  have hval : ∀ (j : Nat) t v, Try.f5.params[j]? = some t → args[j]? = some v → Value.okWide Try.prog W .any base t v := hval0
  have hW' := hW
  obtain ⟨p, q, hA0, hV, rfl, hfz, hnd⟩ := hW
  have hA : DataW.TrodAll enc Try.prog W 0 (fun _ => true) true Try.f5.params.toList args.toList ds p := hA0
  rw [Try.params5] at hA hval
  obtain ⟨v0, vs0, d0, ds0, p0, q0, hargs, rfl, rfl, h0, r0⟩ := trodAll_cons hA
  obtain ⟨v1, vs1, d1, ds1, p1, q1, hargs1, rfl, rfl, h1, r1⟩ := trodAll_cons r0
  obtain ⟨rfl, rfl, rfl⟩ := trodAll_nil r1
  obtain rfl : args = #[v0, v1] := by cases args; simp_all
  obtain ⟨rfl, rfl⟩ := trodVars_none hV
  have k0 := h0
  have lt0 : ∀ x ∈ p0, x.block < W.heap.size := by obtain ⟨m, hm⟩ := k0; exact DataW.trod_lt m _ _ _ hm
  obtain ⟨A, m0, c, rfl⟩ := okWide_slice Try.underlying48 (hval 0 48 v0 rfl rfl)
  obtain ⟨l, hl0, hl⟩ : ∃ l : List TrD, m0 = l.length ∧ RowM 3 TrAt W A l := by
    obtain ⟨fuel, hf⟩ := h0
    obtain ⟨A', c', l, e, hl⟩ := open_tris hf
    injection e with e1 e2 e3
    exact ⟨l, e2, e1 ▸ hl⟩
  subst hl0
  obtain ⟨n1, rfl, rfl, rfl, w1⟩ := open_int Try.underlying3 (hval 1 3 v1 rfl rfl) h1
  clear hA0 hval0
  refine (straight_law l A c n1 W hl).mono fun e W' ⟨he, hg0⟩ => ?_
  have hg : Below W.heap.size W W' := hg0.out
  subst he
  exact ⟨_, rfl, _, _, _, [], _, [], hW', (trodAll_cons_mk (shut_bool Try.underlying4 _) trodAll_mk0), (trodAll_cons_mk (Below.trod ls_laid (by kernel_rfl) (of_decide_eq_true (by kernel_rfl)) k0 hg lt0) (trodAll_cons_mk (shut_int Try.underlying3 w1) trodAll_mk0)), rfl, hg.frame _, fun h => by cases h⟩

theorem ls_over : Rows.liveStraightRow.holds Try.pinned (OpenSpec.ofChange Rows.liveStraightSpec) :=
  OpenClaim.holds_of_wide 5 Try.f5 rfl rfl rfl rfl rfl rfl rfl ⟨rfl, rfl, rfl, rfl, rfl⟩ rfl rfl rfl rfl rfl (by kernel_rfl) Try.func5 (by kernel_rfl)
    (of_decide_eq_true (by kernel_rfl)) (by unfold Func.isWrapper; first | (rw [if_pos (by decide +kernel)]; kernel_rfl) | (rw [if_neg (by decide +kernel)]; exact ⟨rfl, rfl⟩))
    (fun os started H enc _ => ls_lifted os started H enc)

theorem liveStraight_holds : Rows.LiveStraightSaid :=
  ls_over
end Go.Proofs.Ytlbcinanpnjjjaa
