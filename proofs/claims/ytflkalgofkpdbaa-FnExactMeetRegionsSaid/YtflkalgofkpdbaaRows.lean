/-
  No cell of these rows narrows 'for every input' (looked for: loops, veiled, ifaces, maps, wideKeys, modest, calm, conditions, laid).
  DERIVED. THE GIVEN ROWS OF THIS SEAT. 6 by the template 'for every input the law returns true; each argument reads behind the call as it read before'; 0 by the template 'total and deterministic' (their statements: YtflkalgofkpdbaaTotals.lean).
  GIVEN WITH THE SEED: the statements are not yours to turn. If you find one false, say at which input.
  Laid BY PROGRAM, IN A SANDBOX (cutbox-rows.mjs): the forced cells as the released guide's own fill.sh prints them over the translation 1958bb08f89f040a… (all of the seat's roots in one cut). By AI agents, Wed Nov 11 2026. No macro, syntax, notation, axiom, sorry.
-/
import Derived.Test.YtflkalgofkpdbaaChecked
import GoSem.Claim
import GoSem.ClaimJoined
import GoSem.ClaimMapViews
import Derived.JoinedTies
import Derived.KernelRfl
namespace Go.Proofs.Ytflkalgofkpdbaa
/- THE CELL 'sum', in the pinned program and in every row, IS THE sha256 OF THE DUMP (.gsa) THAT YtflkalgofkpdbaaProg.lean LOADS. Nothing in Lean hashes anything: it is a label: what it is worth is what the hold of that sum in a sandbox is worth. -/
noncomputable def Try.pinned : Pinned := { name := "ytflkalgofkpdbaa", sum := "1958bb08f89f040a2f3258a15a0ff423208ad0f8fdb7ef7465fb4b196f934f58", checked := Try.checked }
namespace Rows
def none {H : Type} : Left H := { results := [], args := [] }

/-- 'laws.FnExactIsHalf': WHATEVER THE INPUT: true; the input reads as it did. -/
def fnExactIsHalfSpec : ChangeSpec := { name := "fnExactIsHalf", fn := fun _ => fun
  | [d1, d2] => { results := [.lit (.bool true)], args := [d1, d2] }
  | _ => none }
def fnExactIsHalfRow : OpenClaim := { program := "ytflkalgofkpdbaa", sum := "1958bb08f89f040a2f3258a15a0ff423208ad0f8fdb7ef7465fb4b196f934f58", func := "loop.example/g00959/laws.FnExactIsHalf", spec := "fnExactIsHalf", unfollowed := true, recurses := true, apart := false }
def FnExactIsHalfSaid : Prop := fnExactIsHalfRow.holds Try.pinned (OpenSpec.ofChange fnExactIsHalfSpec)

/-- ITS FALSE NEIGHBOUR: 'it returns false'. Refute it at one input. -/
def fnExactIsHalfWrong : ChangeSpec := { name := "fnExactIsHalf", fn := fun _ => fun
  | [d1, d2] => { results := [.lit (.bool false)], args := [d1, d2] }
  | _ => none }
def FnExactIsHalfWrongFalsely : Prop := fnExactIsHalfRow.holds Try.pinned (OpenSpec.ofChange fnExactIsHalfWrong)

/-- 'laws.FnExactIsRegion': WHATEVER THE INPUT: true; the input reads as it did. -/
def fnExactIsRegionSpec : ChangeSpec := { name := "fnExactIsRegion", fn := fun _ => fun
  | [d] => { results := [.lit (.bool true)], args := [d] }
  | _ => none }
def fnExactIsRegionRow : OpenClaim := { program := "ytflkalgofkpdbaa", sum := "1958bb08f89f040a2f3258a15a0ff423208ad0f8fdb7ef7465fb4b196f934f58", func := "loop.example/g00959/laws.FnExactIsRegion", spec := "fnExactIsRegion", unfollowed := true, recurses := true, apart := false }
def FnExactIsRegionSaid : Prop := fnExactIsRegionRow.holds Try.pinned (OpenSpec.ofChange fnExactIsRegionSpec)

/-- ITS FALSE NEIGHBOUR: 'it returns false'. Refute it at one input. -/
def fnExactIsRegionWrong : ChangeSpec := { name := "fnExactIsRegion", fn := fun _ => fun
  | [d] => { results := [.lit (.bool false)], args := [d] }
  | _ => none }
def FnExactIsRegionWrongFalsely : Prop := fnExactIsRegionRow.holds Try.pinned (OpenSpec.ofChange fnExactIsRegionWrong)

/-- 'laws.FnExactHasPoint': WHATEVER THE INPUT: true; the input reads as it did. -/
def fnExactHasPointSpec : ChangeSpec := { name := "fnExactHasPoint", fn := fun _ => fun
  | [d1, d2] => { results := [.lit (.bool true)], args := [d1, d2] }
  | _ => none }
def fnExactHasPointRow : OpenClaim := { program := "ytflkalgofkpdbaa", sum := "1958bb08f89f040a2f3258a15a0ff423208ad0f8fdb7ef7465fb4b196f934f58", func := "loop.example/g00959/laws.FnExactHasPoint", spec := "fnExactHasPoint", unfollowed := true, recurses := true, apart := false }
def FnExactHasPointSaid : Prop := fnExactHasPointRow.holds Try.pinned (OpenSpec.ofChange fnExactHasPointSpec)

/-- ITS FALSE NEIGHBOUR: 'it returns false'. Refute it at one input. -/
def fnExactHasPointWrong : ChangeSpec := { name := "fnExactHasPoint", fn := fun _ => fun
  | [d1, d2] => { results := [.lit (.bool false)], args := [d1, d2] }
  | _ => none }
def FnExactHasPointWrongFalsely : Prop := fnExactHasPointRow.holds Try.pinned (OpenSpec.ofChange fnExactHasPointWrong)

/-- 'laws.FnExactMoveRegion': WHATEVER THE INPUT: true; the input reads as it did. -/
def fnExactMoveRegionSpec : ChangeSpec := { name := "fnExactMoveRegion", fn := fun _ => fun
  | [d1, d2] => { results := [.lit (.bool true)], args := [d1, d2] }
  | _ => none }
def fnExactMoveRegionRow : OpenClaim := { program := "ytflkalgofkpdbaa", sum := "1958bb08f89f040a2f3258a15a0ff423208ad0f8fdb7ef7465fb4b196f934f58", func := "loop.example/g00959/laws.FnExactMoveRegion", spec := "fnExactMoveRegion", unfollowed := true, recurses := true, apart := false }
def FnExactMoveRegionSaid : Prop := fnExactMoveRegionRow.holds Try.pinned (OpenSpec.ofChange fnExactMoveRegionSpec)

/-- ITS FALSE NEIGHBOUR: 'it returns false'. Refute it at one input. -/
def fnExactMoveRegionWrong : ChangeSpec := { name := "fnExactMoveRegion", fn := fun _ => fun
  | [d1, d2] => { results := [.lit (.bool false)], args := [d1, d2] }
  | _ => none }
def FnExactMoveRegionWrongFalsely : Prop := fnExactMoveRegionRow.holds Try.pinned (OpenSpec.ofChange fnExactMoveRegionWrong)

/-- 'laws.FnExactMeetRegions': WHATEVER THE INPUT: true; the input reads as it did. -/
def fnExactMeetRegionsSpec : ChangeSpec := { name := "fnExactMeetRegions", fn := fun _ => fun
  | [d1, d2] => { results := [.lit (.bool true)], args := [d1, d2] }
  | _ => none }
def fnExactMeetRegionsRow : OpenClaim := { program := "ytflkalgofkpdbaa", sum := "1958bb08f89f040a2f3258a15a0ff423208ad0f8fdb7ef7465fb4b196f934f58", func := "loop.example/g00959/laws.FnExactMeetRegions", spec := "fnExactMeetRegions", unfollowed := true, recurses := true, apart := false }
def FnExactMeetRegionsSaid : Prop := fnExactMeetRegionsRow.holds Try.pinned (OpenSpec.ofChange fnExactMeetRegionsSpec)

/-- ITS FALSE NEIGHBOUR: 'it returns false'. Refute it at one input. -/
def fnExactMeetRegionsWrong : ChangeSpec := { name := "fnExactMeetRegions", fn := fun _ => fun
  | [d1, d2] => { results := [.lit (.bool false)], args := [d1, d2] }
  | _ => none }
def FnExactMeetRegionsWrongFalsely : Prop := fnExactMeetRegionsRow.holds Try.pinned (OpenSpec.ofChange fnExactMeetRegionsWrong)

/-- 'laws.FnExactEqualRegion': WHATEVER THE INPUT: true; the input reads as it did. -/
def fnExactEqualRegionSpec : ChangeSpec := { name := "fnExactEqualRegion", fn := fun _ => fun
  | [d1, d2] => { results := [.lit (.bool true)], args := [d1, d2] }
  | _ => none }
def fnExactEqualRegionRow : OpenClaim := { program := "ytflkalgofkpdbaa", sum := "1958bb08f89f040a2f3258a15a0ff423208ad0f8fdb7ef7465fb4b196f934f58", func := "loop.example/g00959/laws.FnExactEqualRegion", spec := "fnExactEqualRegion", unfollowed := true, recurses := true, apart := false }
def FnExactEqualRegionSaid : Prop := fnExactEqualRegionRow.holds Try.pinned (OpenSpec.ofChange fnExactEqualRegionSpec)

/-- ITS FALSE NEIGHBOUR: 'it returns false'. Refute it at one input. -/
def fnExactEqualRegionWrong : ChangeSpec := { name := "fnExactEqualRegion", fn := fun _ => fun
  | [d1, d2] => { results := [.lit (.bool false)], args := [d1, d2] }
  | _ => none }
def FnExactEqualRegionWrongFalsely : Prop := fnExactEqualRegionRow.holds Try.pinned (OpenSpec.ofChange fnExactEqualRegionWrong)

/- THE SECOND FORM. 'bulk': how many values and letters a reading holds, each counted each time it is reached (what is shared counts as often as it is met; a slice's spare places count too). A statement '..UptoSaid' is the law's where the arguments, and the package variables that the reading takes, are together of bulk at most 1048576: NARROWER than '..Said'. Prove '..Said' where nothing that the law and all that it calls make is longer than what came in: it says more and counts as full. Else prove '..UptoSaid'. A law counts once. -/
mutual
def uptoBulk {H : Type} : DataW H → Nat
  | .lit (.string bytes) => bytes.length + 1
  | .lit _ => 1
  | .nil => 1
  | .ptr d => uptoBulk d + 1
  | .slice elems spare => uptoBulkAll elems + uptoBulkAll spare + 1
  | .agg parts => uptoBulkAll parts + 1
  | .iface _ d => uptoBulk d + 1
  | .map entries => uptoBulkEntries entries + 1
  | .held _ => 1
def uptoBulkAll {H : Type} : List (DataW H) → Nat
  | [] => 0
  | d :: r => uptoBulk d + uptoBulkAll r
def uptoBulkEntries {H : Type} : List (Lit × DataW H) → Nat
  | [] => 0
  | x :: r => uptoBulkEntry x + uptoBulkEntries r
def uptoBulkEntry {H : Type} : Lit × DataW H → Nat
  | (.string bytes, d) => bytes.length + uptoBulk d + 1
  | (_, d) => uptoBulk d + 1
 end
def uptoSmall : (H : Type) → List (DataW H) → Bool := fun _ ds => decide (uptoBulkAll ds ≤ 1048576)
def OpenSpec.upto (s : _root_.Go.ChangeSpec) : _root_.Go.OpenSpec := { _root_.Go.OpenSpec.ofChange s with cond := some uptoSmall }

/-- 'laws.FnExactIsHalf', WHERE WHAT IT READS IS OF BULK AT MOST 1048576: true; the input reads as it did. -/
def fnExactIsHalfUptoRow : OpenClaim := { program := "ytflkalgofkpdbaa", sum := "1958bb08f89f040a2f3258a15a0ff423208ad0f8fdb7ef7465fb4b196f934f58", func := "loop.example/g00959/laws.FnExactIsHalf", spec := "fnExactIsHalf", unfollowed := true, recurses := true, apart := false, narrowed := true }
def FnExactIsHalfUptoSaid : Prop := fnExactIsHalfUptoRow.holds Try.pinned (OpenSpec.upto fnExactIsHalfSpec)

/-- 'laws.FnExactIsRegion', WHERE WHAT IT READS IS OF BULK AT MOST 1048576: true; the input reads as it did. -/
def fnExactIsRegionUptoRow : OpenClaim := { program := "ytflkalgofkpdbaa", sum := "1958bb08f89f040a2f3258a15a0ff423208ad0f8fdb7ef7465fb4b196f934f58", func := "loop.example/g00959/laws.FnExactIsRegion", spec := "fnExactIsRegion", unfollowed := true, recurses := true, apart := false, narrowed := true }
def FnExactIsRegionUptoSaid : Prop := fnExactIsRegionUptoRow.holds Try.pinned (OpenSpec.upto fnExactIsRegionSpec)

/-- 'laws.FnExactHasPoint', WHERE WHAT IT READS IS OF BULK AT MOST 1048576: true; the input reads as it did. -/
def fnExactHasPointUptoRow : OpenClaim := { program := "ytflkalgofkpdbaa", sum := "1958bb08f89f040a2f3258a15a0ff423208ad0f8fdb7ef7465fb4b196f934f58", func := "loop.example/g00959/laws.FnExactHasPoint", spec := "fnExactHasPoint", unfollowed := true, recurses := true, apart := false, narrowed := true }
def FnExactHasPointUptoSaid : Prop := fnExactHasPointUptoRow.holds Try.pinned (OpenSpec.upto fnExactHasPointSpec)

/-- 'laws.FnExactMoveRegion', WHERE WHAT IT READS IS OF BULK AT MOST 1048576: true; the input reads as it did. -/
def fnExactMoveRegionUptoRow : OpenClaim := { program := "ytflkalgofkpdbaa", sum := "1958bb08f89f040a2f3258a15a0ff423208ad0f8fdb7ef7465fb4b196f934f58", func := "loop.example/g00959/laws.FnExactMoveRegion", spec := "fnExactMoveRegion", unfollowed := true, recurses := true, apart := false, narrowed := true }
def FnExactMoveRegionUptoSaid : Prop := fnExactMoveRegionUptoRow.holds Try.pinned (OpenSpec.upto fnExactMoveRegionSpec)

/-- 'laws.FnExactMeetRegions', WHERE WHAT IT READS IS OF BULK AT MOST 1048576: true; the input reads as it did. -/
def fnExactMeetRegionsUptoRow : OpenClaim := { program := "ytflkalgofkpdbaa", sum := "1958bb08f89f040a2f3258a15a0ff423208ad0f8fdb7ef7465fb4b196f934f58", func := "loop.example/g00959/laws.FnExactMeetRegions", spec := "fnExactMeetRegions", unfollowed := true, recurses := true, apart := false, narrowed := true }
def FnExactMeetRegionsUptoSaid : Prop := fnExactMeetRegionsUptoRow.holds Try.pinned (OpenSpec.upto fnExactMeetRegionsSpec)

/-- 'laws.FnExactEqualRegion', WHERE WHAT IT READS IS OF BULK AT MOST 1048576: true; the input reads as it did. -/
def fnExactEqualRegionUptoRow : OpenClaim := { program := "ytflkalgofkpdbaa", sum := "1958bb08f89f040a2f3258a15a0ff423208ad0f8fdb7ef7465fb4b196f934f58", func := "loop.example/g00959/laws.FnExactEqualRegion", spec := "fnExactEqualRegion", unfollowed := true, recurses := true, apart := false, narrowed := true }
def FnExactEqualRegionUptoSaid : Prop := fnExactEqualRegionUptoRow.holds Try.pinned (OpenSpec.upto fnExactEqualRegionSpec)

end Rows
end Go.Proofs.Ytflkalgofkpdbaa
