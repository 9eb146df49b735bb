/- Are lists of numbers, of truths, the same? No conditions. -/
import Derived.Test.YtlbcinanpnjjjaaDoorFlD
namespace Go.Proofs.YtlbcinanpnjjjaaDoor
open Go.RowKit Go.Maps
set_option linter.unusedVariables false
set_option linter.unusedSimpArgs false
def BoolAt (W : World) (b o : Nat) (x : Bool) : Prop := W.cell? ⟨b, o, none⟩ = some (.bool x)
abbrev BoolsM := RowM 1 BoolAt
theorem bool_stays : Stays BoolAt := fun W W' b o x hb hlt h => (hb.cell (p := ⟨b, o, none⟩) hlt).trans h
end Go.Proofs.YtlbcinanpnjjjaaDoor
