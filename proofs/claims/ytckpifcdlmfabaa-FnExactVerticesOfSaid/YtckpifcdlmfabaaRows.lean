/-
  No cell of these rows narrows 'for every input' (looked for: loops, veiled, ifaces, maps, wideKeys, modest, calm, conditions, laid).
  DERIVED. THE GIVEN ROWS OF THIS SEAT. 9 by the template 'for every input the law returns true; each argument reads behind the call as it read before'; 0 by the template 'total and deterministic' (their statements: YtckpifcdlmfabaaTotals.lean).
  GIVEN WITH THE SEED: the statements are not yours to turn. If you find one false, say at which input.
  Laid BY PROGRAM, IN A SANDBOX (cutbox-rows.mjs): the forced cells as the released guide's own fill.sh prints them over the translation 8e882bbbf12bd078… (all of the seat's roots in one cut). By AI agents, Wed Nov 11 2026. No macro, syntax, notation, axiom, sorry.
-/
import Derived.Test.YtckpifcdlmfabaaChecked
import GoSem.Claim
import GoSem.ClaimJoined
import GoSem.ClaimMapViews
import Derived.JoinedTies
import Derived.KernelRfl
namespace Go.Proofs.Ytckpifcdlmfabaa
/- THE CELL 'sum', in the pinned program and in every row, IS THE sha256 OF THE DUMP (.gsa) THAT YtckpifcdlmfabaaProg.lean LOADS. Nothing in Lean hashes anything: it is a label: what it is worth is what the hold of that sum in a sandbox is worth. -/
noncomputable def Try.pinned : Pinned := { name := "ytckpifcdlmfabaa", sum := "8e882bbbf12bd078c6a7f09fb5cf826ae5d1b45df102f1c5a3d8e91758d820ed", checked := Try.checked }
namespace Rows
def none {H : Type} : Left H := { results := [], args := [] }

/-- 'laws.FnExactVerticesOf': WHATEVER THE INPUT: true; the input reads as it did. -/
def fnExactVerticesOfSpec : ChangeSpec := { name := "fnExactVerticesOf", fn := fun _ => fun
  | [d] => { results := [.lit (.bool true)], args := [d] }
  | _ => none }
def fnExactVerticesOfRow : OpenClaim := { program := "ytckpifcdlmfabaa", sum := "8e882bbbf12bd078c6a7f09fb5cf826ae5d1b45df102f1c5a3d8e91758d820ed", func := "loop.example/g00959/laws.FnExactVerticesOf", spec := "fnExactVerticesOf", unfollowed := true, recurses := true, apart := false }
def FnExactVerticesOfSaid : Prop := fnExactVerticesOfRow.holds Try.pinned (OpenSpec.ofChange fnExactVerticesOfSpec)

/-- ITS FALSE NEIGHBOUR: 'it returns false'. Refute it at one input. -/
def fnExactVerticesOfWrong : ChangeSpec := { name := "fnExactVerticesOf", fn := fun _ => fun
  | [d] => { results := [.lit (.bool false)], args := [d] }
  | _ => none }
def FnExactVerticesOfWrongFalsely : Prop := fnExactVerticesOfRow.holds Try.pinned (OpenSpec.ofChange fnExactVerticesOfWrong)

/-- 'laws.FnExactIsWholeRegion': WHATEVER THE INPUT: true; the input reads as it did. -/
def fnExactIsWholeRegionSpec : ChangeSpec := { name := "fnExactIsWholeRegion", fn := fun _ => fun
  | [d] => { results := [.lit (.bool true)], args := [d] }
  | _ => none }
def fnExactIsWholeRegionRow : OpenClaim := { program := "ytckpifcdlmfabaa", sum := "8e882bbbf12bd078c6a7f09fb5cf826ae5d1b45df102f1c5a3d8e91758d820ed", func := "loop.example/g00959/laws.FnExactIsWholeRegion", spec := "fnExactIsWholeRegion", unfollowed := true, recurses := true, apart := false }
def FnExactIsWholeRegionSaid : Prop := fnExactIsWholeRegionRow.holds Try.pinned (OpenSpec.ofChange fnExactIsWholeRegionSpec)

/-- ITS FALSE NEIGHBOUR: 'it returns false'. Refute it at one input. -/
def fnExactIsWholeRegionWrong : ChangeSpec := { name := "fnExactIsWholeRegion", fn := fun _ => fun
  | [d] => { results := [.lit (.bool false)], args := [d] }
  | _ => none }
def FnExactIsWholeRegionWrongFalsely : Prop := fnExactIsWholeRegionRow.holds Try.pinned (OpenSpec.ofChange fnExactIsWholeRegionWrong)

/-- 'laws.FnExactHullOf': WHATEVER THE INPUT: true; the input reads as it did. -/
def fnExactHullOfSpec : ChangeSpec := { name := "fnExactHullOf", fn := fun _ => fun
  | [d] => { results := [.lit (.bool true)], args := [d] }
  | _ => none }
def fnExactHullOfRow : OpenClaim := { program := "ytckpifcdlmfabaa", sum := "8e882bbbf12bd078c6a7f09fb5cf826ae5d1b45df102f1c5a3d8e91758d820ed", func := "loop.example/g00959/laws.FnExactHullOf", spec := "fnExactHullOf", unfollowed := true, recurses := true, apart := false }
def FnExactHullOfSaid : Prop := fnExactHullOfRow.holds Try.pinned (OpenSpec.ofChange fnExactHullOfSpec)

/-- ITS FALSE NEIGHBOUR: 'it returns false'. Refute it at one input. -/
def fnExactHullOfWrong : ChangeSpec := { name := "fnExactHullOf", fn := fun _ => fun
  | [d] => { results := [.lit (.bool false)], args := [d] }
  | _ => none }
def FnExactHullOfWrongFalsely : Prop := fnExactHullOfRow.holds Try.pinned (OpenSpec.ofChange fnExactHullOfWrong)

/-- 'laws.FnExactIsPolygon': WHATEVER THE INPUT: true; the input reads as it did. -/
def fnExactIsPolygonSpec : ChangeSpec := { name := "fnExactIsPolygon", fn := fun _ => fun
  | [d] => { results := [.lit (.bool true)], args := [d] }
  | _ => none }
def fnExactIsPolygonRow : OpenClaim := { program := "ytckpifcdlmfabaa", sum := "8e882bbbf12bd078c6a7f09fb5cf826ae5d1b45df102f1c5a3d8e91758d820ed", func := "loop.example/g00959/laws.FnExactIsPolygon", spec := "fnExactIsPolygon", unfollowed := true, recurses := true, apart := false }
def FnExactIsPolygonSaid : Prop := fnExactIsPolygonRow.holds Try.pinned (OpenSpec.ofChange fnExactIsPolygonSpec)

/-- ITS FALSE NEIGHBOUR: 'it returns false'. Refute it at one input. -/
def fnExactIsPolygonWrong : ChangeSpec := { name := "fnExactIsPolygon", fn := fun _ => fun
  | [d] => { results := [.lit (.bool false)], args := [d] }
  | _ => none }
def FnExactIsPolygonWrongFalsely : Prop := fnExactIsPolygonRow.holds Try.pinned (OpenSpec.ofChange fnExactIsPolygonWrong)

/-- 'laws.FnExactAreaTwice': WHATEVER THE INPUT: true; the input reads as it did. -/
def fnExactAreaTwiceSpec : ChangeSpec := { name := "fnExactAreaTwice", fn := fun _ => fun
  | [d] => { results := [.lit (.bool true)], args := [d] }
  | _ => none }
def fnExactAreaTwiceRow : OpenClaim := { program := "ytckpifcdlmfabaa", sum := "8e882bbbf12bd078c6a7f09fb5cf826ae5d1b45df102f1c5a3d8e91758d820ed", func := "loop.example/g00959/laws.FnExactAreaTwice", spec := "fnExactAreaTwice", unfollowed := true, recurses := true, apart := false }
def FnExactAreaTwiceSaid : Prop := fnExactAreaTwiceRow.holds Try.pinned (OpenSpec.ofChange fnExactAreaTwiceSpec)

/-- ITS FALSE NEIGHBOUR: 'it returns false'. Refute it at one input. -/
def fnExactAreaTwiceWrong : ChangeSpec := { name := "fnExactAreaTwice", fn := fun _ => fun
  | [d] => { results := [.lit (.bool false)], args := [d] }
  | _ => none }
def FnExactAreaTwiceWrongFalsely : Prop := fnExactAreaTwiceRow.holds Try.pinned (OpenSpec.ofChange fnExactAreaTwiceWrong)

/-- 'laws.FnExactBoundaryCount': WHATEVER THE INPUT: true; the input reads as it did. -/
def fnExactBoundaryCountSpec : ChangeSpec := { name := "fnExactBoundaryCount", fn := fun _ => fun
  | [d] => { results := [.lit (.bool true)], args := [d] }
  | _ => none }
def fnExactBoundaryCountRow : OpenClaim := { program := "ytckpifcdlmfabaa", sum := "8e882bbbf12bd078c6a7f09fb5cf826ae5d1b45df102f1c5a3d8e91758d820ed", func := "loop.example/g00959/laws.FnExactBoundaryCount", spec := "fnExactBoundaryCount", unfollowed := true, recurses := true, apart := false }
def FnExactBoundaryCountSaid : Prop := fnExactBoundaryCountRow.holds Try.pinned (OpenSpec.ofChange fnExactBoundaryCountSpec)

/-- ITS FALSE NEIGHBOUR: 'it returns false'. Refute it at one input. -/
def fnExactBoundaryCountWrong : ChangeSpec := { name := "fnExactBoundaryCount", fn := fun _ => fun
  | [d] => { results := [.lit (.bool false)], args := [d] }
  | _ => none }
def FnExactBoundaryCountWrongFalsely : Prop := fnExactBoundaryCountRow.holds Try.pinned (OpenSpec.ofChange fnExactBoundaryCountWrong)

/-- 'laws.FnExactInnerCount': WHATEVER THE INPUT: true; the input reads as it did. -/
def fnExactInnerCountSpec : ChangeSpec := { name := "fnExactInnerCount", fn := fun _ => fun
  | [d] => { results := [.lit (.bool true)], args := [d] }
  | _ => none }
def fnExactInnerCountRow : OpenClaim := { program := "ytckpifcdlmfabaa", sum := "8e882bbbf12bd078c6a7f09fb5cf826ae5d1b45df102f1c5a3d8e91758d820ed", func := "loop.example/g00959/laws.FnExactInnerCount", spec := "fnExactInnerCount", unfollowed := true, recurses := true, apart := false }
def FnExactInnerCountSaid : Prop := fnExactInnerCountRow.holds Try.pinned (OpenSpec.ofChange fnExactInnerCountSpec)

/-- ITS FALSE NEIGHBOUR: 'it returns false'. Refute it at one input. -/
def fnExactInnerCountWrong : ChangeSpec := { name := "fnExactInnerCount", fn := fun _ => fun
  | [d] => { results := [.lit (.bool false)], args := [d] }
  | _ => none }
def FnExactInnerCountWrongFalsely : Prop := fnExactInnerCountRow.holds Try.pinned (OpenSpec.ofChange fnExactInnerCountWrong)

/-- 'laws.FnExactPlaceOf': WHATEVER THE INPUT: true; the input reads as it did. -/
def fnExactPlaceOfSpec : ChangeSpec := { name := "fnExactPlaceOf", fn := fun _ => fun
  | [d1, d2] => { results := [.lit (.bool true)], args := [d1, d2] }
  | _ => none }
def fnExactPlaceOfRow : OpenClaim := { program := "ytckpifcdlmfabaa", sum := "8e882bbbf12bd078c6a7f09fb5cf826ae5d1b45df102f1c5a3d8e91758d820ed", func := "loop.example/g00959/laws.FnExactPlaceOf", spec := "fnExactPlaceOf", unfollowed := true, recurses := true, apart := false }
def FnExactPlaceOfSaid : Prop := fnExactPlaceOfRow.holds Try.pinned (OpenSpec.ofChange fnExactPlaceOfSpec)

/-- ITS FALSE NEIGHBOUR: 'it returns false'. Refute it at one input. -/
def fnExactPlaceOfWrong : ChangeSpec := { name := "fnExactPlaceOf", fn := fun _ => fun
  | [d1, d2] => { results := [.lit (.bool false)], args := [d1, d2] }
  | _ => none }
def FnExactPlaceOfWrongFalsely : Prop := fnExactPlaceOfRow.holds Try.pinned (OpenSpec.ofChange fnExactPlaceOfWrong)

/-- 'laws.FnExactPolygonPoints': WHATEVER THE INPUT: true; the input reads as it did. -/
def fnExactPolygonPointsSpec : ChangeSpec := { name := "fnExactPolygonPoints", fn := fun _ => fun
  | [d] => { results := [.lit (.bool true)], args := [d] }
  | _ => none }
def fnExactPolygonPointsRow : OpenClaim := { program := "ytckpifcdlmfabaa", sum := "8e882bbbf12bd078c6a7f09fb5cf826ae5d1b45df102f1c5a3d8e91758d820ed", func := "loop.example/g00959/laws.FnExactPolygonPoints", spec := "fnExactPolygonPoints", unfollowed := true, recurses := true, apart := false }
def FnExactPolygonPointsSaid : Prop := fnExactPolygonPointsRow.holds Try.pinned (OpenSpec.ofChange fnExactPolygonPointsSpec)

/-- ITS FALSE NEIGHBOUR: 'it returns false'. Refute it at one input. -/
def fnExactPolygonPointsWrong : ChangeSpec := { name := "fnExactPolygonPoints", fn := fun _ => fun
  | [d] => { results := [.lit (.bool false)], args := [d] }
  | _ => none }
def FnExactPolygonPointsWrongFalsely : Prop := fnExactPolygonPointsRow.holds Try.pinned (OpenSpec.ofChange fnExactPolygonPointsWrong)

/- THE SECOND FORM. 'bulk': how many values and letters a reading holds, each counted each time it is reached (what is shared counts as often as it is met; a slice's spare places count too). A statement '..UptoSaid' is the law's where the arguments, and the package variables that the reading takes, are together of bulk at most 1048576: NARROWER than '..Said'. Prove '..Said' where nothing that the law and all that it calls make is longer than what came in: it says more and counts as full. Else prove '..UptoSaid'. A law counts once. -/
mutual
def uptoBulk {H : Type} : DataW H → Nat
  | .lit (.string bytes) => bytes.length + 1
  | .lit _ => 1
  | .nil => 1
  | .ptr d => uptoBulk d + 1
  | .slice elems spare => uptoBulkAll elems + uptoBulkAll spare + 1
  | .agg parts => uptoBulkAll parts + 1
  | .iface _ d => uptoBulk d + 1
  | .map entries => uptoBulkEntries entries + 1
  | .held _ => 1
def uptoBulkAll {H : Type} : List (DataW H) → Nat
  | [] => 0
  | d :: r => uptoBulk d + uptoBulkAll r
def uptoBulkEntries {H : Type} : List (Lit × DataW H) → Nat
  | [] => 0
  | x :: r => uptoBulkEntry x + uptoBulkEntries r
def uptoBulkEntry {H : Type} : Lit × DataW H → Nat
  | (.string bytes, d) => bytes.length + uptoBulk d + 1
  | (_, d) => uptoBulk d + 1
 end
def uptoSmall : (H : Type) → List (DataW H) → Bool := fun _ ds => decide (uptoBulkAll ds ≤ 1048576)
def OpenSpec.upto (s : _root_.Go.ChangeSpec) : _root_.Go.OpenSpec := { _root_.Go.OpenSpec.ofChange s with cond := some uptoSmall }

/-- 'laws.FnExactVerticesOf', WHERE WHAT IT READS IS OF BULK AT MOST 1048576: true; the input reads as it did. -/
def fnExactVerticesOfUptoRow : OpenClaim := { program := "ytckpifcdlmfabaa", sum := "8e882bbbf12bd078c6a7f09fb5cf826ae5d1b45df102f1c5a3d8e91758d820ed", func := "loop.example/g00959/laws.FnExactVerticesOf", spec := "fnExactVerticesOf", unfollowed := true, recurses := true, apart := false, narrowed := true }
def FnExactVerticesOfUptoSaid : Prop := fnExactVerticesOfUptoRow.holds Try.pinned (OpenSpec.upto fnExactVerticesOfSpec)

/-- 'laws.FnExactIsWholeRegion', WHERE WHAT IT READS IS OF BULK AT MOST 1048576: true; the input reads as it did. -/
def fnExactIsWholeRegionUptoRow : OpenClaim := { program := "ytckpifcdlmfabaa", sum := "8e882bbbf12bd078c6a7f09fb5cf826ae5d1b45df102f1c5a3d8e91758d820ed", func := "loop.example/g00959/laws.FnExactIsWholeRegion", spec := "fnExactIsWholeRegion", unfollowed := true, recurses := true, apart := false, narrowed := true }
def FnExactIsWholeRegionUptoSaid : Prop := fnExactIsWholeRegionUptoRow.holds Try.pinned (OpenSpec.upto fnExactIsWholeRegionSpec)

/-- 'laws.FnExactHullOf', WHERE WHAT IT READS IS OF BULK AT MOST 1048576: true; the input reads as it did. -/
def fnExactHullOfUptoRow : OpenClaim := { program := "ytckpifcdlmfabaa", sum := "8e882bbbf12bd078c6a7f09fb5cf826ae5d1b45df102f1c5a3d8e91758d820ed", func := "loop.example/g00959/laws.FnExactHullOf", spec := "fnExactHullOf", unfollowed := true, recurses := true, apart := false, narrowed := true }
def FnExactHullOfUptoSaid : Prop := fnExactHullOfUptoRow.holds Try.pinned (OpenSpec.upto fnExactHullOfSpec)

/-- 'laws.FnExactIsPolygon', WHERE WHAT IT READS IS OF BULK AT MOST 1048576: true; the input reads as it did. -/
def fnExactIsPolygonUptoRow : OpenClaim := { program := "ytckpifcdlmfabaa", sum := "8e882bbbf12bd078c6a7f09fb5cf826ae5d1b45df102f1c5a3d8e91758d820ed", func := "loop.example/g00959/laws.FnExactIsPolygon", spec := "fnExactIsPolygon", unfollowed := true, recurses := true, apart := false, narrowed := true }
def FnExactIsPolygonUptoSaid : Prop := fnExactIsPolygonUptoRow.holds Try.pinned (OpenSpec.upto fnExactIsPolygonSpec)

/-- 'laws.FnExactAreaTwice', WHERE WHAT IT READS IS OF BULK AT MOST 1048576: true; the input reads as it did. -/
def fnExactAreaTwiceUptoRow : OpenClaim := { program := "ytckpifcdlmfabaa", sum := "8e882bbbf12bd078c6a7f09fb5cf826ae5d1b45df102f1c5a3d8e91758d820ed", func := "loop.example/g00959/laws.FnExactAreaTwice", spec := "fnExactAreaTwice", unfollowed := true, recurses := true, apart := false, narrowed := true }
def FnExactAreaTwiceUptoSaid : Prop := fnExactAreaTwiceUptoRow.holds Try.pinned (OpenSpec.upto fnExactAreaTwiceSpec)

/-- 'laws.FnExactBoundaryCount', WHERE WHAT IT READS IS OF BULK AT MOST 1048576: true; the input reads as it did. -/
def fnExactBoundaryCountUptoRow : OpenClaim := { program := "ytckpifcdlmfabaa", sum := "8e882bbbf12bd078c6a7f09fb5cf826ae5d1b45df102f1c5a3d8e91758d820ed", func := "loop.example/g00959/laws.FnExactBoundaryCount", spec := "fnExactBoundaryCount", unfollowed := true, recurses := true, apart := false, narrowed := true }
def FnExactBoundaryCountUptoSaid : Prop := fnExactBoundaryCountUptoRow.holds Try.pinned (OpenSpec.upto fnExactBoundaryCountSpec)

/-- 'laws.FnExactInnerCount', WHERE WHAT IT READS IS OF BULK AT MOST 1048576: true; the input reads as it did. -/
def fnExactInnerCountUptoRow : OpenClaim := { program := "ytckpifcdlmfabaa", sum := "8e882bbbf12bd078c6a7f09fb5cf826ae5d1b45df102f1c5a3d8e91758d820ed", func := "loop.example/g00959/laws.FnExactInnerCount", spec := "fnExactInnerCount", unfollowed := true, recurses := true, apart := false, narrowed := true }
def FnExactInnerCountUptoSaid : Prop := fnExactInnerCountUptoRow.holds Try.pinned (OpenSpec.upto fnExactInnerCountSpec)

/-- 'laws.FnExactPlaceOf', WHERE WHAT IT READS IS OF BULK AT MOST 1048576: true; the input reads as it did. -/
def fnExactPlaceOfUptoRow : OpenClaim := { program := "ytckpifcdlmfabaa", sum := "8e882bbbf12bd078c6a7f09fb5cf826ae5d1b45df102f1c5a3d8e91758d820ed", func := "loop.example/g00959/laws.FnExactPlaceOf", spec := "fnExactPlaceOf", unfollowed := true, recurses := true, apart := false, narrowed := true }
def FnExactPlaceOfUptoSaid : Prop := fnExactPlaceOfUptoRow.holds Try.pinned (OpenSpec.upto fnExactPlaceOfSpec)

/-- 'laws.FnExactPolygonPoints', WHERE WHAT IT READS IS OF BULK AT MOST 1048576: true; the input reads as it did. -/
def fnExactPolygonPointsUptoRow : OpenClaim := { program := "ytckpifcdlmfabaa", sum := "8e882bbbf12bd078c6a7f09fb5cf826ae5d1b45df102f1c5a3d8e91758d820ed", func := "loop.example/g00959/laws.FnExactPolygonPoints", spec := "fnExactPolygonPoints", unfollowed := true, recurses := true, apart := false, narrowed := true }
def FnExactPolygonPointsUptoSaid : Prop := fnExactPolygonPointsUptoRow.holds Try.pinned (OpenSpec.upto fnExactPolygonPointsSpec)

end Rows
end Go.Proofs.Ytckpifcdlmfabaa
