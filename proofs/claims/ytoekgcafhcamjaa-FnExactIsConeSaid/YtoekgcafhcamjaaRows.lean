/-
  No cell of these rows narrows 'for every input' (looked for: loops, veiled, ifaces, maps, wideKeys, modest, calm, conditions, laid).
  DERIVED. THE GIVEN ROWS OF THIS SEAT. 9 by the template 'for every input the law returns true; each argument reads behind the call as it read before'; 0 by the template 'total and deterministic' (their statements: YtoekgcafhcamjaaTotals.lean).
  GIVEN WITH THE SEED: the statements are not yours to turn. If you find one false, say at which input.
  Laid BY PROGRAM, IN A SANDBOX (cutbox-rows.mjs): the forced cells as the released guide's own fill.sh prints them over the translation 55d9719ff12a0dc3… (all of the seat's roots in one cut). By AI agents, Wed Nov 11 2026. No macro, syntax, notation, axiom, sorry.
-/
import Derived.Test.YtoekgcafhcamjaaChecked
import GoSem.Claim
import GoSem.ClaimJoined
import GoSem.ClaimMapViews
import Derived.JoinedTies
import Derived.KernelRfl
namespace Go.Proofs.Ytoekgcafhcamjaa
/- THE CELL 'sum', in the pinned program and in every row, IS THE sha256 OF THE DUMP (.gsa) THAT YtoekgcafhcamjaaProg.lean LOADS. Nothing in Lean hashes anything: it is a label: what it is worth is what the hold of that sum in a sandbox is worth. -/
noncomputable def Try.pinned : Pinned := { name := "ytoekgcafhcamjaa", sum := "55d9719ff12a0dc39c20bfd5f1b2eac456e86ab30d1ca6f1c8d6cef0b9f48add", checked := Try.checked }
namespace Rows
def none {H : Type} : Left H := { results := [], args := [] }

/-- 'laws.FnCones': WHATEVER THE INPUT: true; the input reads as it did. -/
def fnConesSpec : ChangeSpec := { name := "fnCones", fn := fun _ => fun
  | [d] => { results := [.lit (.bool true)], args := [d] }
  | _ => none }
def fnConesRow : OpenClaim := { program := "ytoekgcafhcamjaa", sum := "55d9719ff12a0dc39c20bfd5f1b2eac456e86ab30d1ca6f1c8d6cef0b9f48add", func := "loop.example/g00959/laws.FnCones", spec := "fnCones", unfollowed := true, recurses := true, apart := false }
def FnConesSaid : Prop := fnConesRow.holds Try.pinned (OpenSpec.ofChange fnConesSpec)

/-- ITS FALSE NEIGHBOUR: 'it returns false'. Refute it at one input. -/
def fnConesWrong : ChangeSpec := { name := "fnCones", fn := fun _ => fun
  | [d] => { results := [.lit (.bool false)], args := [d] }
  | _ => none }
def FnConesWrongFalsely : Prop := fnConesRow.holds Try.pinned (OpenSpec.ofChange fnConesWrong)

/-- 'laws.FnExactHullOf': WHATEVER THE INPUT: true; the input reads as it did. -/
def fnExactHullOfSpec : ChangeSpec := { name := "fnExactHullOf", fn := fun _ => fun
  | [d] => { results := [.lit (.bool true)], args := [d] }
  | _ => none }
def fnExactHullOfRow : OpenClaim := { program := "ytoekgcafhcamjaa", sum := "55d9719ff12a0dc39c20bfd5f1b2eac456e86ab30d1ca6f1c8d6cef0b9f48add", func := "loop.example/g00959/laws.FnExactHullOf", spec := "fnExactHullOf", unfollowed := true, recurses := true, apart := false }
def FnExactHullOfSaid : Prop := fnExactHullOfRow.holds Try.pinned (OpenSpec.ofChange fnExactHullOfSpec)

/-- ITS FALSE NEIGHBOUR: 'it returns false'. Refute it at one input. -/
def fnExactHullOfWrong : ChangeSpec := { name := "fnExactHullOf", fn := fun _ => fun
  | [d] => { results := [.lit (.bool false)], args := [d] }
  | _ => none }
def FnExactHullOfWrongFalsely : Prop := fnExactHullOfRow.holds Try.pinned (OpenSpec.ofChange fnExactHullOfWrong)

/-- 'laws.FnExactIsPolygon': WHATEVER THE INPUT: true; the input reads as it did. -/
def fnExactIsPolygonSpec : ChangeSpec := { name := "fnExactIsPolygon", fn := fun _ => fun
  | [d] => { results := [.lit (.bool true)], args := [d] }
  | _ => none }
def fnExactIsPolygonRow : OpenClaim := { program := "ytoekgcafhcamjaa", sum := "55d9719ff12a0dc39c20bfd5f1b2eac456e86ab30d1ca6f1c8d6cef0b9f48add", func := "loop.example/g00959/laws.FnExactIsPolygon", spec := "fnExactIsPolygon", unfollowed := true, recurses := true, apart := false }
def FnExactIsPolygonSaid : Prop := fnExactIsPolygonRow.holds Try.pinned (OpenSpec.ofChange fnExactIsPolygonSpec)

/-- ITS FALSE NEIGHBOUR: 'it returns false'. Refute it at one input. -/
def fnExactIsPolygonWrong : ChangeSpec := { name := "fnExactIsPolygon", fn := fun _ => fun
  | [d] => { results := [.lit (.bool false)], args := [d] }
  | _ => none }
def FnExactIsPolygonWrongFalsely : Prop := fnExactIsPolygonRow.holds Try.pinned (OpenSpec.ofChange fnExactIsPolygonWrong)

/-- 'laws.FnExactAreaTwice': WHATEVER THE INPUT: true; the input reads as it did. -/
def fnExactAreaTwiceSpec : ChangeSpec := { name := "fnExactAreaTwice", fn := fun _ => fun
  | [d] => { results := [.lit (.bool true)], args := [d] }
  | _ => none }
def fnExactAreaTwiceRow : OpenClaim := { program := "ytoekgcafhcamjaa", sum := "55d9719ff12a0dc39c20bfd5f1b2eac456e86ab30d1ca6f1c8d6cef0b9f48add", func := "loop.example/g00959/laws.FnExactAreaTwice", spec := "fnExactAreaTwice", unfollowed := true, recurses := true, apart := false }
def FnExactAreaTwiceSaid : Prop := fnExactAreaTwiceRow.holds Try.pinned (OpenSpec.ofChange fnExactAreaTwiceSpec)

/-- ITS FALSE NEIGHBOUR: 'it returns false'. Refute it at one input. -/
def fnExactAreaTwiceWrong : ChangeSpec := { name := "fnExactAreaTwice", fn := fun _ => fun
  | [d] => { results := [.lit (.bool false)], args := [d] }
  | _ => none }
def FnExactAreaTwiceWrongFalsely : Prop := fnExactAreaTwiceRow.holds Try.pinned (OpenSpec.ofChange fnExactAreaTwiceWrong)

/-- 'laws.FnExactBoundaryCount': WHATEVER THE INPUT: true; the input reads as it did. -/
def fnExactBoundaryCountSpec : ChangeSpec := { name := "fnExactBoundaryCount", fn := fun _ => fun
  | [d] => { results := [.lit (.bool true)], args := [d] }
  | _ => none }
def fnExactBoundaryCountRow : OpenClaim := { program := "ytoekgcafhcamjaa", sum := "55d9719ff12a0dc39c20bfd5f1b2eac456e86ab30d1ca6f1c8d6cef0b9f48add", func := "loop.example/g00959/laws.FnExactBoundaryCount", spec := "fnExactBoundaryCount", unfollowed := true, recurses := true, apart := false }
def FnExactBoundaryCountSaid : Prop := fnExactBoundaryCountRow.holds Try.pinned (OpenSpec.ofChange fnExactBoundaryCountSpec)

/-- ITS FALSE NEIGHBOUR: 'it returns false'. Refute it at one input. -/
def fnExactBoundaryCountWrong : ChangeSpec := { name := "fnExactBoundaryCount", fn := fun _ => fun
  | [d] => { results := [.lit (.bool false)], args := [d] }
  | _ => none }
def FnExactBoundaryCountWrongFalsely : Prop := fnExactBoundaryCountRow.holds Try.pinned (OpenSpec.ofChange fnExactBoundaryCountWrong)

/-- 'laws.FnExactInnerCount': WHATEVER THE INPUT: true; the input reads as it did. -/
def fnExactInnerCountSpec : ChangeSpec := { name := "fnExactInnerCount", fn := fun _ => fun
  | [d] => { results := [.lit (.bool true)], args := [d] }
  | _ => none }
def fnExactInnerCountRow : OpenClaim := { program := "ytoekgcafhcamjaa", sum := "55d9719ff12a0dc39c20bfd5f1b2eac456e86ab30d1ca6f1c8d6cef0b9f48add", func := "loop.example/g00959/laws.FnExactInnerCount", spec := "fnExactInnerCount", unfollowed := true, recurses := true, apart := false }
def FnExactInnerCountSaid : Prop := fnExactInnerCountRow.holds Try.pinned (OpenSpec.ofChange fnExactInnerCountSpec)

/-- ITS FALSE NEIGHBOUR: 'it returns false'. Refute it at one input. -/
def fnExactInnerCountWrong : ChangeSpec := { name := "fnExactInnerCount", fn := fun _ => fun
  | [d] => { results := [.lit (.bool false)], args := [d] }
  | _ => none }
def FnExactInnerCountWrongFalsely : Prop := fnExactInnerCountRow.holds Try.pinned (OpenSpec.ofChange fnExactInnerCountWrong)

/-- 'laws.FnExactPlaceOf': WHATEVER THE INPUT: true; the input reads as it did. -/
def fnExactPlaceOfSpec : ChangeSpec := { name := "fnExactPlaceOf", fn := fun _ => fun
  | [d1, d2] => { results := [.lit (.bool true)], args := [d1, d2] }
  | _ => none }
def fnExactPlaceOfRow : OpenClaim := { program := "ytoekgcafhcamjaa", sum := "55d9719ff12a0dc39c20bfd5f1b2eac456e86ab30d1ca6f1c8d6cef0b9f48add", func := "loop.example/g00959/laws.FnExactPlaceOf", spec := "fnExactPlaceOf", unfollowed := true, recurses := true, apart := false }
def FnExactPlaceOfSaid : Prop := fnExactPlaceOfRow.holds Try.pinned (OpenSpec.ofChange fnExactPlaceOfSpec)

/-- ITS FALSE NEIGHBOUR: 'it returns false'. Refute it at one input. -/
def fnExactPlaceOfWrong : ChangeSpec := { name := "fnExactPlaceOf", fn := fun _ => fun
  | [d1, d2] => { results := [.lit (.bool false)], args := [d1, d2] }
  | _ => none }
def FnExactPlaceOfWrongFalsely : Prop := fnExactPlaceOfRow.holds Try.pinned (OpenSpec.ofChange fnExactPlaceOfWrong)

/-- 'laws.FnExactPolygonPoints': WHATEVER THE INPUT: true; the input reads as it did. -/
def fnExactPolygonPointsSpec : ChangeSpec := { name := "fnExactPolygonPoints", fn := fun _ => fun
  | [d] => { results := [.lit (.bool true)], args := [d] }
  | _ => none }
def fnExactPolygonPointsRow : OpenClaim := { program := "ytoekgcafhcamjaa", sum := "55d9719ff12a0dc39c20bfd5f1b2eac456e86ab30d1ca6f1c8d6cef0b9f48add", func := "loop.example/g00959/laws.FnExactPolygonPoints", spec := "fnExactPolygonPoints", unfollowed := true, recurses := true, apart := false }
def FnExactPolygonPointsSaid : Prop := fnExactPolygonPointsRow.holds Try.pinned (OpenSpec.ofChange fnExactPolygonPointsSpec)

/-- ITS FALSE NEIGHBOUR: 'it returns false'. Refute it at one input. -/
def fnExactPolygonPointsWrong : ChangeSpec := { name := "fnExactPolygonPoints", fn := fun _ => fun
  | [d] => { results := [.lit (.bool false)], args := [d] }
  | _ => none }
def FnExactPolygonPointsWrongFalsely : Prop := fnExactPolygonPointsRow.holds Try.pinned (OpenSpec.ofChange fnExactPolygonPointsWrong)

/-- 'laws.FnExactIsCone': WHATEVER THE INPUT: true; the input reads as it did. -/
def fnExactIsConeSpec : ChangeSpec := { name := "fnExactIsCone", fn := fun _ => fun
  | [d] => { results := [.lit (.bool true)], args := [d] }
  | _ => none }
def fnExactIsConeRow : OpenClaim := { program := "ytoekgcafhcamjaa", sum := "55d9719ff12a0dc39c20bfd5f1b2eac456e86ab30d1ca6f1c8d6cef0b9f48add", func := "loop.example/g00959/laws.FnExactIsCone", spec := "fnExactIsCone", unfollowed := true, recurses := true, apart := false }
def FnExactIsConeSaid : Prop := fnExactIsConeRow.holds Try.pinned (OpenSpec.ofChange fnExactIsConeSpec)

/-- ITS FALSE NEIGHBOUR: 'it returns false'. Refute it at one input. -/
def fnExactIsConeWrong : ChangeSpec := { name := "fnExactIsCone", fn := fun _ => fun
  | [d] => { results := [.lit (.bool false)], args := [d] }
  | _ => none }
def FnExactIsConeWrongFalsely : Prop := fnExactIsConeRow.holds Try.pinned (OpenSpec.ofChange fnExactIsConeWrong)

/- THE SECOND FORM. 'bulk': how many values and letters a reading holds, each counted each time it is reached (what is shared counts as often as it is met; a slice's spare places count too). A statement '..UptoSaid' is the law's where the arguments, and the package variables that the reading takes, are together of bulk at most 1048576: NARROWER than '..Said'. Prove '..Said' where nothing that the law and all that it calls make is longer than what came in: it says more and counts as full. Else prove '..UptoSaid'. A law counts once. -/
mutual
def uptoBulk {H : Type} : DataW H → Nat
  | .lit (.string bytes) => bytes.length + 1
  | .lit _ => 1
  | .nil => 1
  | .ptr d => uptoBulk d + 1
  | .slice elems spare => uptoBulkAll elems + uptoBulkAll spare + 1
  | .agg parts => uptoBulkAll parts + 1
  | .iface _ d => uptoBulk d + 1
  | .map entries => uptoBulkEntries entries + 1
  | .held _ => 1
def uptoBulkAll {H : Type} : List (DataW H) → Nat
  | [] => 0
  | d :: r => uptoBulk d + uptoBulkAll r
def uptoBulkEntries {H : Type} : List (Lit × DataW H) → Nat
  | [] => 0
  | x :: r => uptoBulkEntry x + uptoBulkEntries r
def uptoBulkEntry {H : Type} : Lit × DataW H → Nat
  | (.string bytes, d) => bytes.length + uptoBulk d + 1
  | (_, d) => uptoBulk d + 1
 end
def uptoSmall : (H : Type) → List (DataW H) → Bool := fun _ ds => decide (uptoBulkAll ds ≤ 1048576)
def OpenSpec.upto (s : _root_.Go.ChangeSpec) : _root_.Go.OpenSpec := { _root_.Go.OpenSpec.ofChange s with cond := some uptoSmall }

/-- 'laws.FnCones', WHERE WHAT IT READS IS OF BULK AT MOST 1048576: true; the input reads as it did. -/
def fnConesUptoRow : OpenClaim := { program := "ytoekgcafhcamjaa", sum := "55d9719ff12a0dc39c20bfd5f1b2eac456e86ab30d1ca6f1c8d6cef0b9f48add", func := "loop.example/g00959/laws.FnCones", spec := "fnCones", unfollowed := true, recurses := true, apart := false, narrowed := true }
def FnConesUptoSaid : Prop := fnConesUptoRow.holds Try.pinned (OpenSpec.upto fnConesSpec)

/-- 'laws.FnExactHullOf', WHERE WHAT IT READS IS OF BULK AT MOST 1048576: true; the input reads as it did. -/
def fnExactHullOfUptoRow : OpenClaim := { program := "ytoekgcafhcamjaa", sum := "55d9719ff12a0dc39c20bfd5f1b2eac456e86ab30d1ca6f1c8d6cef0b9f48add", func := "loop.example/g00959/laws.FnExactHullOf", spec := "fnExactHullOf", unfollowed := true, recurses := true, apart := false, narrowed := true }
def FnExactHullOfUptoSaid : Prop := fnExactHullOfUptoRow.holds Try.pinned (OpenSpec.upto fnExactHullOfSpec)

/-- 'laws.FnExactIsPolygon', WHERE WHAT IT READS IS OF BULK AT MOST 1048576: true; the input reads as it did. -/
def fnExactIsPolygonUptoRow : OpenClaim := { program := "ytoekgcafhcamjaa", sum := "55d9719ff12a0dc39c20bfd5f1b2eac456e86ab30d1ca6f1c8d6cef0b9f48add", func := "loop.example/g00959/laws.FnExactIsPolygon", spec := "fnExactIsPolygon", unfollowed := true, recurses := true, apart := false, narrowed := true }
def FnExactIsPolygonUptoSaid : Prop := fnExactIsPolygonUptoRow.holds Try.pinned (OpenSpec.upto fnExactIsPolygonSpec)

/-- 'laws.FnExactAreaTwice', WHERE WHAT IT READS IS OF BULK AT MOST 1048576: true; the input reads as it did. -/
def fnExactAreaTwiceUptoRow : OpenClaim := { program := "ytoekgcafhcamjaa", sum := "55d9719ff12a0dc39c20bfd5f1b2eac456e86ab30d1ca6f1c8d6cef0b9f48add", func := "loop.example/g00959/laws.FnExactAreaTwice", spec := "fnExactAreaTwice", unfollowed := true, recurses := true, apart := false, narrowed := true }
def FnExactAreaTwiceUptoSaid : Prop := fnExactAreaTwiceUptoRow.holds Try.pinned (OpenSpec.upto fnExactAreaTwiceSpec)

/-- 'laws.FnExactBoundaryCount', WHERE WHAT IT READS IS OF BULK AT MOST 1048576: true; the input reads as it did. -/
def fnExactBoundaryCountUptoRow : OpenClaim := { program := "ytoekgcafhcamjaa", sum := "55d9719ff12a0dc39c20bfd5f1b2eac456e86ab30d1ca6f1c8d6cef0b9f48add", func := "loop.example/g00959/laws.FnExactBoundaryCount", spec := "fnExactBoundaryCount", unfollowed := true, recurses := true, apart := false, narrowed := true }
def FnExactBoundaryCountUptoSaid : Prop := fnExactBoundaryCountUptoRow.holds Try.pinned (OpenSpec.upto fnExactBoundaryCountSpec)

/-- 'laws.FnExactInnerCount', WHERE WHAT IT READS IS OF BULK AT MOST 1048576: true; the input reads as it did. -/
def fnExactInnerCountUptoRow : OpenClaim := { program := "ytoekgcafhcamjaa", sum := "55d9719ff12a0dc39c20bfd5f1b2eac456e86ab30d1ca6f1c8d6cef0b9f48add", func := "loop.example/g00959/laws.FnExactInnerCount", spec := "fnExactInnerCount", unfollowed := true, recurses := true, apart := false, narrowed := true }
def FnExactInnerCountUptoSaid : Prop := fnExactInnerCountUptoRow.holds Try.pinned (OpenSpec.upto fnExactInnerCountSpec)

/-- 'laws.FnExactPlaceOf', WHERE WHAT IT READS IS OF BULK AT MOST 1048576: true; the input reads as it did. -/
def fnExactPlaceOfUptoRow : OpenClaim := { program := "ytoekgcafhcamjaa", sum := "55d9719ff12a0dc39c20bfd5f1b2eac456e86ab30d1ca6f1c8d6cef0b9f48add", func := "loop.example/g00959/laws.FnExactPlaceOf", spec := "fnExactPlaceOf", unfollowed := true, recurses := true, apart := false, narrowed := true }
def FnExactPlaceOfUptoSaid : Prop := fnExactPlaceOfUptoRow.holds Try.pinned (OpenSpec.upto fnExactPlaceOfSpec)

/-- 'laws.FnExactPolygonPoints', WHERE WHAT IT READS IS OF BULK AT MOST 1048576: true; the input reads as it did. -/
def fnExactPolygonPointsUptoRow : OpenClaim := { program := "ytoekgcafhcamjaa", sum := "55d9719ff12a0dc39c20bfd5f1b2eac456e86ab30d1ca6f1c8d6cef0b9f48add", func := "loop.example/g00959/laws.FnExactPolygonPoints", spec := "fnExactPolygonPoints", unfollowed := true, recurses := true, apart := false, narrowed := true }
def FnExactPolygonPointsUptoSaid : Prop := fnExactPolygonPointsUptoRow.holds Try.pinned (OpenSpec.upto fnExactPolygonPointsSpec)

/-- 'laws.FnExactIsCone', WHERE WHAT IT READS IS OF BULK AT MOST 1048576: true; the input reads as it did. -/
def fnExactIsConeUptoRow : OpenClaim := { program := "ytoekgcafhcamjaa", sum := "55d9719ff12a0dc39c20bfd5f1b2eac456e86ab30d1ca6f1c8d6cef0b9f48add", func := "loop.example/g00959/laws.FnExactIsCone", spec := "fnExactIsCone", unfollowed := true, recurses := true, apart := false, narrowed := true }
def FnExactIsConeUptoSaid : Prop := fnExactIsConeUptoRow.holds Try.pinned (OpenSpec.upto fnExactIsConeSpec)

end Rows
end Go.Proofs.Ytoekgcafhcamjaa
