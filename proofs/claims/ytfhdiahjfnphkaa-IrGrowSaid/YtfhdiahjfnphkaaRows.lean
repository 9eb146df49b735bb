/-
  No cell of these rows narrows 'for every input' (looked for: loops, veiled, ifaces, maps, wideKeys, modest, calm, conditions, laid).
  DERIVED. THE GIVEN ROWS OF THIS SEAT. 3 by the template 'for every input the law returns true; each argument reads behind the call as it read before'; 0 by the template 'total and deterministic' (their statements: YtfhdiahjfnphkaaTotals.lean).
  GIVEN WITH THE SEED: the statements are not yours to turn. If you find one false, say at which input.
  Laid BY PROGRAM, IN A SANDBOX (cutbox-rows.mjs): the forced cells as the released guide's own fill.sh prints them over the translation 62853a69666cc978… (all of the seat's roots in one cut). By AI agents, Wed Nov 11 2026. No macro, syntax, notation, axiom, sorry.
-/
import Derived.Test.YtfhdiahjfnphkaaChecked
import GoSem.Claim
import GoSem.ClaimJoined
import GoSem.ClaimMapViews
import Derived.JoinedTies
import Derived.KernelRfl
namespace Go.Proofs.Ytfhdiahjfnphkaa
/- THE CELL 'sum', in the pinned program and in every row, IS THE sha256 OF THE DUMP (.gsa) THAT YtfhdiahjfnphkaaProg.lean LOADS. Nothing in Lean hashes anything: it is a label: what it is worth is what the hold of that sum in a sandbox is worth. -/
noncomputable def Try.pinned : Pinned := { name := "ytfhdiahjfnphkaa", sum := "62853a69666cc9781af6169daf2d6669c9082feb8f21a54c5f11617cd5e4d232", checked := Try.checked }
namespace Rows
def none {H : Type} : Left H := { results := [], args := [] }

/-- 'usufructlaw05.IrSames': WHATEVER THE INPUT: true; the input reads as it did. -/
def irSamesSpec : ChangeSpec := { name := "irSames", fn := fun _ => fun
  | [d1, d2, d3] => { results := [.lit (.bool true)], args := [d1, d2, d3] }
  | _ => none }
def irSamesRow : OpenClaim := { program := "ytfhdiahjfnphkaa", sum := "62853a69666cc9781af6169daf2d6669c9082feb8f21a54c5f11617cd5e4d232", func := "usufruct/usufructlaw05.IrSames", spec := "irSames", unfollowed := true, recurses := true, apart := false }
def IrSamesSaid : Prop := irSamesRow.holds Try.pinned (OpenSpec.ofChange irSamesSpec)

/-- ITS FALSE NEIGHBOUR: 'it returns false'. Refute it at one input. -/
def irSamesWrong : ChangeSpec := { name := "irSames", fn := fun _ => fun
  | [d1, d2, d3] => { results := [.lit (.bool false)], args := [d1, d2, d3] }
  | _ => none }
def IrSamesWrongFalsely : Prop := irSamesRow.holds Try.pinned (OpenSpec.ofChange irSamesWrong)

/-- 'usufructlaw05.IrRights': WHATEVER THE INPUT: true; the input reads as it did. -/
def irRightsSpec : ChangeSpec := { name := "irRights", fn := fun _ => fun
  | [d] => { results := [.lit (.bool true)], args := [d] }
  | _ => none }
def irRightsRow : OpenClaim := { program := "ytfhdiahjfnphkaa", sum := "62853a69666cc9781af6169daf2d6669c9082feb8f21a54c5f11617cd5e4d232", func := "usufruct/usufructlaw05.IrRights", spec := "irRights", unfollowed := true, recurses := true, apart := false }
def IrRightsSaid : Prop := irRightsRow.holds Try.pinned (OpenSpec.ofChange irRightsSpec)

/-- ITS FALSE NEIGHBOUR: 'it returns false'. Refute it at one input. -/
def irRightsWrong : ChangeSpec := { name := "irRights", fn := fun _ => fun
  | [d] => { results := [.lit (.bool false)], args := [d] }
  | _ => none }
def IrRightsWrongFalsely : Prop := irRightsRow.holds Try.pinned (OpenSpec.ofChange irRightsWrong)

/-- 'usufructlaw05.IrGrow': WHATEVER THE INPUT: true; the input reads as it did. -/
def irGrowSpec : ChangeSpec := { name := "irGrow", fn := fun _ => fun
  | [d] => { results := [.lit (.bool true)], args := [d] }
  | _ => none }
def irGrowRow : OpenClaim := { program := "ytfhdiahjfnphkaa", sum := "62853a69666cc9781af6169daf2d6669c9082feb8f21a54c5f11617cd5e4d232", func := "usufruct/usufructlaw05.IrGrow", spec := "irGrow", unfollowed := true, recurses := true, apart := false }
def IrGrowSaid : Prop := irGrowRow.holds Try.pinned (OpenSpec.ofChange irGrowSpec)

/-- ITS FALSE NEIGHBOUR: 'it returns false'. Refute it at one input. -/
def irGrowWrong : ChangeSpec := { name := "irGrow", fn := fun _ => fun
  | [d] => { results := [.lit (.bool false)], args := [d] }
  | _ => none }
def IrGrowWrongFalsely : Prop := irGrowRow.holds Try.pinned (OpenSpec.ofChange irGrowWrong)

/- THE SECOND FORM. 'bulk': how many values and letters a reading holds, each counted each time it is reached (what is shared counts as often as it is met; a slice's spare places count too). A statement '..UptoSaid' is the law's where the arguments, and the package variables that the reading takes, are together of bulk at most 1048576: NARROWER than '..Said'. Prove '..Said' where nothing that the law and all that it calls make is longer than what came in: it says more and counts as full. Else prove '..UptoSaid'. A law counts once. -/
mutual
def uptoBulk {H : Type} : DataW H → Nat
  | .lit (.string bytes) => bytes.length + 1
  | .lit _ => 1
  | .nil => 1
  | .ptr d => uptoBulk d + 1
  | .slice elems spare => uptoBulkAll elems + uptoBulkAll spare + 1
  | .agg parts => uptoBulkAll parts + 1
  | .iface _ d => uptoBulk d + 1
  | .map entries => uptoBulkEntries entries + 1
  | .held _ => 1
def uptoBulkAll {H : Type} : List (DataW H) → Nat
  | [] => 0
  | d :: r => uptoBulk d + uptoBulkAll r
def uptoBulkEntries {H : Type} : List (Lit × DataW H) → Nat
  | [] => 0
  | x :: r => uptoBulkEntry x + uptoBulkEntries r
def uptoBulkEntry {H : Type} : Lit × DataW H → Nat
  | (.string bytes, d) => bytes.length + uptoBulk d + 1
  | (_, d) => uptoBulk d + 1
 end
def uptoSmall : (H : Type) → List (DataW H) → Bool := fun _ ds => decide (uptoBulkAll ds ≤ 1048576)
def OpenSpec.upto (s : _root_.Go.ChangeSpec) : _root_.Go.OpenSpec := { _root_.Go.OpenSpec.ofChange s with cond := some uptoSmall }

/-- 'usufructlaw05.IrSames', WHERE WHAT IT READS IS OF BULK AT MOST 1048576: true; the input reads as it did. -/
def irSamesUptoRow : OpenClaim := { program := "ytfhdiahjfnphkaa", sum := "62853a69666cc9781af6169daf2d6669c9082feb8f21a54c5f11617cd5e4d232", func := "usufruct/usufructlaw05.IrSames", spec := "irSames", unfollowed := true, recurses := true, apart := false, narrowed := true }
def IrSamesUptoSaid : Prop := irSamesUptoRow.holds Try.pinned (OpenSpec.upto irSamesSpec)

/-- 'usufructlaw05.IrRights', WHERE WHAT IT READS IS OF BULK AT MOST 1048576: true; the input reads as it did. -/
def irRightsUptoRow : OpenClaim := { program := "ytfhdiahjfnphkaa", sum := "62853a69666cc9781af6169daf2d6669c9082feb8f21a54c5f11617cd5e4d232", func := "usufruct/usufructlaw05.IrRights", spec := "irRights", unfollowed := true, recurses := true, apart := false, narrowed := true }
def IrRightsUptoSaid : Prop := irRightsUptoRow.holds Try.pinned (OpenSpec.upto irRightsSpec)

/-- 'usufructlaw05.IrGrow', WHERE WHAT IT READS IS OF BULK AT MOST 1048576: true; the input reads as it did. -/
def irGrowUptoRow : OpenClaim := { program := "ytfhdiahjfnphkaa", sum := "62853a69666cc9781af6169daf2d6669c9082feb8f21a54c5f11617cd5e4d232", func := "usufruct/usufructlaw05.IrGrow", spec := "irGrow", unfollowed := true, recurses := true, apart := false, narrowed := true }
def IrGrowUptoSaid : Prop := irGrowUptoRow.holds Try.pinned (OpenSpec.upto irGrowSpec)

end Rows
end Go.Proofs.Ytfhdiahjfnphkaa
