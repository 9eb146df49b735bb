/- What must come at any rate: alive. No conditions. -/
import Derived.Test.YtfhdiahjfnphkaaIrG
import Derived.Test.YtfhdiahjfnphkaaIrI
namespace Go.Proofs.Ytfhdiahjfnphkaa
open Go.RowKit Go.Maps
set_option linter.unusedVariables false
set_option linter.unusedSimpArgs false
theorem newW : wrD 12 4 = 4 := by decide
theorem newB : wrB 12 = true := by decide
set_option maxRecDepth 100000 in
set_option maxHeartbeats 4000000 in
theorem alive_i (w : World) : Calls Try.prog 7 #[] w fun e w' => e = .returned (.bool true) ∧ Hid (Below w.heap.size w w') := by
  have HC := hid (Below.refl w.heap.size w)
  go_enter Try.func7, Try.ntmps7
  go_wp2_with (first
    | (go_at_call 18; have tok := HC; clear HC; go_must (refine (writes_i 12 4 0 0 0 0 i0 i0 s0 n0 n0 i0 i0 w).mono ?_); rintro e w1 ⟨rfl, B1⟩; have HC := hid (after tok.out B1.out tok.out.size); clear B1 tok; rw [newW, newB])
    | (go_at_call 19; have tok := HC; clear HC; go_must (refine (small_i _).mono ?_); rintro e w2 ⟨V, I, F, rfl, HS, B2⟩; have HC := hid (after tok.out B2.out tok.out.size); clear B2 tok)
    | (go_at_call 16; have hh := HS.out; clear HS; have tok := HC; clear HC; go_must (refine (right_s _ _ _ _ hh).mono ?_); rintro e w3 ⟨rfl, B3⟩; have HC := hid (after tok.out B3.out tok.out.size); clear B3 tok hh)
    | (go_at_call 16; refine (right_e _).mono ?_; rintro e w4 ⟨rfl, B4⟩; have tok := HC; clear HC; have HC := hid (after tok.out B4.out tok.out.size); clear B4 tok)
    | (go_at_call 20; have tok := HC; clear HC; go_must (refine (word_ret _).mono ?_); rintro e w5 ⟨rfl, B5⟩; have HC := hid (after tok.out B5.out tok.out.size); clear B5 tok)
    | (go_at_call 12; have tok := HC; clear HC; go_must (refine (func_s _ _ _ _ HS.out).mono ?_); rintro e w7 ⟨rfl, B7⟩; have HC := hid (after tok.out B7.out tok.out.size); clear B7 tok HS))
  go_ret
  exact ⟨rfl, HC⟩
end Go.Proofs.Ytfhdiahjfnphkaa
