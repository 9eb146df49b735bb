/- IrSames (usufructlaw05): for any two modules and any name the law returns true, and its arguments read behind the call as they read before. No conditions. -/
import Derived.Test.YtfhdiahjfnphkaaRows
import Derived.WalkKit
import Derived.ProofKit
import Derived.OpenShut
import Derived.ShutString
import Derived.Test.YtfhdiahjfnphkaaSmN
import Derived.Test.YtfhdiahjfnphkaaSmM
namespace Go.Proofs.Ytfhdiahjfnphkaa
open Go.ChangeShapes Go.WideShapes Go.ChangeAt Go.RowKit
open Go.ChangeMaps (open_string shut_string)
set_option linter.unusedVariables false

theorem is_slaid : laidOutB Try.prog = true := by kernel_rfl
theorem is_sown : ownKnob Try.prog.godebug = none := by kernel_rfl

set_option maxRecDepth 100000 in
theorem is_slifted (os : Os) (started : os.Started) (H : Type) (enc : TypeId × Value → H) :
    ReturnsInHanded {} Try.checked os 3 .any (Rows.irSamesSpec.pre6 enc Try.prog Try.f3 Rows.irSamesRow.domain false) (Rows.irSamesSpec.post enc Try.prog Try.f3 false true false false) := by
  refine returnsInHanded_of_change (C := Try.checked) is_sown started (by kernel_rfl) Try.func3
    (ChangeSpec.witness6 (enc := enc) (C := Try.checked) false ⟨#[], #[.agg #[.slice none 0 0, .slice none 0 0], .agg #[.slice none 0 0, .slice none 0 0], .string ByteArray.empty], []⟩ 8 (by kernel_rfl) (by kernel_rfl) (by kernel_rfl) (by kernel_rfl)) ?_
  intro W base args ds gs before hval0 hW hcnd _
  have hval : ∀ (j : Nat) t v, Try.f3.params[j]? = some t → args[j]? = some v → Value.okWide Try.prog W .any base t v := hval0
  have hW' := hW
  obtain ⟨p, q, hA0, hV, rfl, hfz, hnd⟩ := hW
  have hA : DataW.TrodAll enc Try.prog W 0 (fun _ => true) true Try.f3.params.toList args.toList ds p := hA0
  rw [Try.params3] at hA hval
  obtain ⟨v0, vs0, d0, ds0, p0, q0, hargs, rfl, rfl, h0, r0⟩ := trodAll_cons hA
  obtain ⟨v1, vs1, d1, ds1, p1, q1, hargs1, rfl, rfl, h1, r1⟩ := trodAll_cons r0
  obtain ⟨v2, vs2, d2, ds2, p2, q2, hargs2, rfl, rfl, h2, r2⟩ := trodAll_cons r1
  obtain ⟨rfl, rfl, rfl⟩ := trodAll_nil r2
  obtain rfl : args = #[v0, v1, v2] := by cases args; simp_all
  obtain ⟨rfl, rfl⟩ := trodVars_none hV
  have k0 := h0
  have lt0 : ∀ x ∈ p0, x.block < W.heap.size := by obtain ⟨m, hm⟩ := k0; exact DataW.trod_lt m _ _ _ hm
  have k1 := h1
  have lt1 : ∀ x ∈ p1, x.block < W.heap.size := by obtain ⟨m, hm⟩ := k1; exact DataW.trod_lt m _ _ _ hm
  obtain ⟨cs, rfl, hsz⟩ := okWide_struct Try.underlying25 (hval 0 25 v0 rfl rfl)
  obtain ⟨cs2, rfl, hsz2⟩ := okWide_struct Try.underlying25 (hval 1 25 v1 rfl rfl)
  obtain ⟨ss, ks, sa, ca, sc, cc, hcs, hss, hks⟩ : ∃ (ss : List StD) (ks : List CoD) (sa ca : Option Addr) (sc cc : Nat), cs.toList = [.slice sa ss.length sc, .slice ca ks.length cc] ∧ RowM 4 StAt W sa ss ∧ RowM 8 CoAt W ca ks := by
    obtain ⟨fuel, hf⟩ := h0
    exact open_mod hf
  obtain ⟨ss2, ks2, sa2, ca2, sc2, cc2, hcs2, hss2, hks2⟩ : ∃ (ss : List StD) (ks : List CoD) (sa ca : Option Addr) (sc cc : Nat), cs2.toList = [.slice sa ss.length sc, .slice ca ks.length cc] ∧ RowM 4 StAt W sa ss ∧ RowM 8 CoAt W ca ks := by
    obtain ⟨fuel, hf⟩ := h1
    exact open_mod hf
  obtain rfl : cs = #[.slice sa ss.length sc, .slice ca ks.length cc] := by
    cases cs; simp at hcs; simp [hcs]
  obtain rfl : cs2 = #[.slice sa2 ss2.length sc2, .slice ca2 ks2.length cc2] := by
    cases cs2; simp at hcs2; simp [hcs2]
  obtain ⟨s0, rfl, rfl, rfl, w2⟩ := open_string Try.underlying9 (hval 2 9 v2 rfl rfl) h2
  clear hA0 hval0
  refine (sames_law ss ss2 ks ks2 sa sa2 ca ca2 sc sc2 cc cc2 s0 W hss hss2 hks hks2).mono fun e W' ⟨he, hg0⟩ => ?_
  have hg : Below W.heap.size W W' := hg0.out
  subst he
  exact ⟨_, rfl, _, _, _, [], _, [], hW', (trodAll_cons_mk (shut_bool Try.underlying4 _) trodAll_mk0), (trodAll_cons_mk (Below.trod is_slaid (by kernel_rfl) (of_decide_eq_true (by kernel_rfl)) k0 hg lt0) (trodAll_cons_mk (Below.trod is_slaid (by kernel_rfl) (of_decide_eq_true (by kernel_rfl)) k1 hg lt1) (trodAll_cons_mk (shut_string Try.underlying9 w2) trodAll_mk0))), rfl, hg.frame _, fun h => by cases h⟩

theorem is_sover : Rows.irSamesRow.holds Try.pinned (OpenSpec.ofChange Rows.irSamesSpec) :=
  OpenClaim.holds_of_wide 3 Try.f3 rfl rfl rfl rfl rfl rfl rfl ⟨rfl, rfl, rfl, rfl, rfl⟩ rfl rfl rfl rfl rfl (by kernel_rfl) Try.func3 (by kernel_rfl)
    (of_decide_eq_true (by kernel_rfl)) (by unfold Func.isWrapper; first | (rw [if_pos (by decide +kernel)]; kernel_rfl) | (rw [if_neg (by decide +kernel)]; exact ⟨rfl, rfl⟩))
    (fun os started H enc _ => is_slifted os started H enc)

theorem irSames_holds : Rows.IrSamesSaid :=
  is_sover
end Go.Proofs.Ytfhdiahjfnphkaa
