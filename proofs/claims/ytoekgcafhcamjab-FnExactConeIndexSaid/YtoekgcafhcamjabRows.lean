/-
  No cell of these rows narrows 'for every input' (looked for: loops, veiled, ifaces, maps, wideKeys, modest, calm, conditions, laid).
  DERIVED. THE GIVEN ROWS OF THIS SEAT. 5 by the template 'for every input the law returns true; each argument reads behind the call as it read before'; 0 by the template 'total and deterministic' (their statements: YtoekgcafhcamjabTotals.lean).
  GIVEN WITH THE SEED: the statements are not yours to turn. If you find one false, say at which input.
  Laid BY PROGRAM, IN A SANDBOX (cutbox-rows.mjs): the forced cells as the released guide's own fill.sh prints them over the translation b10e5c795850ed0a… (all of the seat's roots in one cut). By AI agents, Wed Nov 11 2026. No macro, syntax, notation, axiom, sorry.
-/
import Derived.Test.YtoekgcafhcamjabChecked
import GoSem.Claim
import GoSem.ClaimJoined
import GoSem.ClaimMapViews
import Derived.JoinedTies
import Derived.KernelRfl
namespace Go.Proofs.Ytoekgcafhcamjab
/- THE CELL 'sum', in the pinned program and in every row, IS THE sha256 OF THE DUMP (.gsa) THAT YtoekgcafhcamjabProg.lean LOADS. Nothing in Lean hashes anything: it is a label: what it is worth is what the hold of that sum in a sandbox is worth. -/
noncomputable def Try.pinned : Pinned := { name := "ytoekgcafhcamjab", sum := "b10e5c795850ed0aebac1266b7699e78f262211b028b9a050e38e8203cb268c6", checked := Try.checked }
namespace Rows
def none {H : Type} : Left H := { results := [], args := [] }

/-- 'laws.FnExactConeIndex': WHATEVER THE INPUT: true; the input reads as it did. -/
def fnExactConeIndexSpec : ChangeSpec := { name := "fnExactConeIndex", fn := fun _ => fun
  | [d] => { results := [.lit (.bool true)], args := [d] }
  | _ => none }
def fnExactConeIndexRow : OpenClaim := { program := "ytoekgcafhcamjab", sum := "b10e5c795850ed0aebac1266b7699e78f262211b028b9a050e38e8203cb268c6", func := "loop.example/g00959/laws.FnExactConeIndex", spec := "fnExactConeIndex", unfollowed := true, recurses := true, apart := false }
def FnExactConeIndexSaid : Prop := fnExactConeIndexRow.holds Try.pinned (OpenSpec.ofChange fnExactConeIndexSpec)

/-- ITS FALSE NEIGHBOUR: 'it returns false'. Refute it at one input. -/
def fnExactConeIndexWrong : ChangeSpec := { name := "fnExactConeIndex", fn := fun _ => fun
  | [d] => { results := [.lit (.bool false)], args := [d] }
  | _ => none }
def FnExactConeIndexWrongFalsely : Prop := fnExactConeIndexRow.holds Try.pinned (OpenSpec.ofChange fnExactConeIndexWrong)

/-- 'laws.FnExactInCone': WHATEVER THE INPUT: true; the input reads as it did. -/
def fnExactInConeSpec : ChangeSpec := { name := "fnExactInCone", fn := fun _ => fun
  | [d1, d2] => { results := [.lit (.bool true)], args := [d1, d2] }
  | _ => none }
def fnExactInConeRow : OpenClaim := { program := "ytoekgcafhcamjab", sum := "b10e5c795850ed0aebac1266b7699e78f262211b028b9a050e38e8203cb268c6", func := "loop.example/g00959/laws.FnExactInCone", spec := "fnExactInCone", unfollowed := true, recurses := true, apart := false }
def FnExactInConeSaid : Prop := fnExactInConeRow.holds Try.pinned (OpenSpec.ofChange fnExactInConeSpec)

/-- ITS FALSE NEIGHBOUR: 'it returns false'. Refute it at one input. -/
def fnExactInConeWrong : ChangeSpec := { name := "fnExactInCone", fn := fun _ => fun
  | [d1, d2] => { results := [.lit (.bool false)], args := [d1, d2] }
  | _ => none }
def FnExactInConeWrongFalsely : Prop := fnExactInConeRow.holds Try.pinned (OpenSpec.ofChange fnExactInConeWrong)

/-- 'laws.FnExactSplitCone': WHATEVER THE INPUT: true; the input reads as it did. -/
def fnExactSplitConeSpec : ChangeSpec := { name := "fnExactSplitCone", fn := fun _ => fun
  | [d] => { results := [.lit (.bool true)], args := [d] }
  | _ => none }
def fnExactSplitConeRow : OpenClaim := { program := "ytoekgcafhcamjab", sum := "b10e5c795850ed0aebac1266b7699e78f262211b028b9a050e38e8203cb268c6", func := "loop.example/g00959/laws.FnExactSplitCone", spec := "fnExactSplitCone", unfollowed := true, recurses := true, apart := false }
def FnExactSplitConeSaid : Prop := fnExactSplitConeRow.holds Try.pinned (OpenSpec.ofChange fnExactSplitConeSpec)

/-- ITS FALSE NEIGHBOUR: 'it returns false'. Refute it at one input. -/
def fnExactSplitConeWrong : ChangeSpec := { name := "fnExactSplitCone", fn := fun _ => fun
  | [d] => { results := [.lit (.bool false)], args := [d] }
  | _ => none }
def FnExactSplitConeWrongFalsely : Prop := fnExactSplitConeRow.holds Try.pinned (OpenSpec.ofChange fnExactSplitConeWrong)

/-- 'laws.FnExactTurnsOf': WHATEVER THE INPUT: true; the input reads as it did. -/
def fnExactTurnsOfSpec : ChangeSpec := { name := "fnExactTurnsOf", fn := fun _ => fun
  | [d] => { results := [.lit (.bool true)], args := [d] }
  | _ => none }
def fnExactTurnsOfRow : OpenClaim := { program := "ytoekgcafhcamjab", sum := "b10e5c795850ed0aebac1266b7699e78f262211b028b9a050e38e8203cb268c6", func := "loop.example/g00959/laws.FnExactTurnsOf", spec := "fnExactTurnsOf", unfollowed := true, recurses := true, apart := false }
def FnExactTurnsOfSaid : Prop := fnExactTurnsOfRow.holds Try.pinned (OpenSpec.ofChange fnExactTurnsOfSpec)

/-- ITS FALSE NEIGHBOUR: 'it returns false'. Refute it at one input. -/
def fnExactTurnsOfWrong : ChangeSpec := { name := "fnExactTurnsOf", fn := fun _ => fun
  | [d] => { results := [.lit (.bool false)], args := [d] }
  | _ => none }
def FnExactTurnsOfWrongFalsely : Prop := fnExactTurnsOfRow.holds Try.pinned (OpenSpec.ofChange fnExactTurnsOfWrong)

/-- 'laws.FnExactConeOfTurns': WHATEVER THE INPUT: true; the input reads as it did. -/
def fnExactConeOfTurnsSpec : ChangeSpec := { name := "fnExactConeOfTurns", fn := fun _ => fun
  | [d] => { results := [.lit (.bool true)], args := [d] }
  | _ => none }
def fnExactConeOfTurnsRow : OpenClaim := { program := "ytoekgcafhcamjab", sum := "b10e5c795850ed0aebac1266b7699e78f262211b028b9a050e38e8203cb268c6", func := "loop.example/g00959/laws.FnExactConeOfTurns", spec := "fnExactConeOfTurns", unfollowed := true, recurses := true, apart := false }
def FnExactConeOfTurnsSaid : Prop := fnExactConeOfTurnsRow.holds Try.pinned (OpenSpec.ofChange fnExactConeOfTurnsSpec)

/-- ITS FALSE NEIGHBOUR: 'it returns false'. Refute it at one input. -/
def fnExactConeOfTurnsWrong : ChangeSpec := { name := "fnExactConeOfTurns", fn := fun _ => fun
  | [d] => { results := [.lit (.bool false)], args := [d] }
  | _ => none }
def FnExactConeOfTurnsWrongFalsely : Prop := fnExactConeOfTurnsRow.holds Try.pinned (OpenSpec.ofChange fnExactConeOfTurnsWrong)

/- THE SECOND FORM. 'bulk': how many values and letters a reading holds, each counted each time it is reached (what is shared counts as often as it is met; a slice's spare places count too). A statement '..UptoSaid' is the law's where the arguments, and the package variables that the reading takes, are together of bulk at most 1048576: NARROWER than '..Said'. Prove '..Said' where nothing that the law and all that it calls make is longer than what came in: it says more and counts as full. Else prove '..UptoSaid'. A law counts once. -/
mutual
def uptoBulk {H : Type} : DataW H → Nat
  | .lit (.string bytes) => bytes.length + 1
  | .lit _ => 1
  | .nil => 1
  | .ptr d => uptoBulk d + 1
  | .slice elems spare => uptoBulkAll elems + uptoBulkAll spare + 1
  | .agg parts => uptoBulkAll parts + 1
  | .iface _ d => uptoBulk d + 1
  | .map entries => uptoBulkEntries entries + 1
  | .held _ => 1
def uptoBulkAll {H : Type} : List (DataW H) → Nat
  | [] => 0
  | d :: r => uptoBulk d + uptoBulkAll r
def uptoBulkEntries {H : Type} : List (Lit × DataW H) → Nat
  | [] => 0
  | x :: r => uptoBulkEntry x + uptoBulkEntries r
def uptoBulkEntry {H : Type} : Lit × DataW H → Nat
  | (.string bytes, d) => bytes.length + uptoBulk d + 1
  | (_, d) => uptoBulk d + 1
 end
def uptoSmall : (H : Type) → List (DataW H) → Bool := fun _ ds => decide (uptoBulkAll ds ≤ 1048576)
def OpenSpec.upto (s : _root_.Go.ChangeSpec) : _root_.Go.OpenSpec := { _root_.Go.OpenSpec.ofChange s with cond := some uptoSmall }

/-- 'laws.FnExactConeIndex', WHERE WHAT IT READS IS OF BULK AT MOST 1048576: true; the input reads as it did. -/
def fnExactConeIndexUptoRow : OpenClaim := { program := "ytoekgcafhcamjab", sum := "b10e5c795850ed0aebac1266b7699e78f262211b028b9a050e38e8203cb268c6", func := "loop.example/g00959/laws.FnExactConeIndex", spec := "fnExactConeIndex", unfollowed := true, recurses := true, apart := false, narrowed := true }
def FnExactConeIndexUptoSaid : Prop := fnExactConeIndexUptoRow.holds Try.pinned (OpenSpec.upto fnExactConeIndexSpec)

/-- 'laws.FnExactInCone', WHERE WHAT IT READS IS OF BULK AT MOST 1048576: true; the input reads as it did. -/
def fnExactInConeUptoRow : OpenClaim := { program := "ytoekgcafhcamjab", sum := "b10e5c795850ed0aebac1266b7699e78f262211b028b9a050e38e8203cb268c6", func := "loop.example/g00959/laws.FnExactInCone", spec := "fnExactInCone", unfollowed := true, recurses := true, apart := false, narrowed := true }
def FnExactInConeUptoSaid : Prop := fnExactInConeUptoRow.holds Try.pinned (OpenSpec.upto fnExactInConeSpec)

/-- 'laws.FnExactSplitCone', WHERE WHAT IT READS IS OF BULK AT MOST 1048576: true; the input reads as it did. -/
def fnExactSplitConeUptoRow : OpenClaim := { program := "ytoekgcafhcamjab", sum := "b10e5c795850ed0aebac1266b7699e78f262211b028b9a050e38e8203cb268c6", func := "loop.example/g00959/laws.FnExactSplitCone", spec := "fnExactSplitCone", unfollowed := true, recurses := true, apart := false, narrowed := true }
def FnExactSplitConeUptoSaid : Prop := fnExactSplitConeUptoRow.holds Try.pinned (OpenSpec.upto fnExactSplitConeSpec)

/-- 'laws.FnExactTurnsOf', WHERE WHAT IT READS IS OF BULK AT MOST 1048576: true; the input reads as it did. -/
def fnExactTurnsOfUptoRow : OpenClaim := { program := "ytoekgcafhcamjab", sum := "b10e5c795850ed0aebac1266b7699e78f262211b028b9a050e38e8203cb268c6", func := "loop.example/g00959/laws.FnExactTurnsOf", spec := "fnExactTurnsOf", unfollowed := true, recurses := true, apart := false, narrowed := true }
def FnExactTurnsOfUptoSaid : Prop := fnExactTurnsOfUptoRow.holds Try.pinned (OpenSpec.upto fnExactTurnsOfSpec)

/-- 'laws.FnExactConeOfTurns', WHERE WHAT IT READS IS OF BULK AT MOST 1048576: true; the input reads as it did. -/
def fnExactConeOfTurnsUptoRow : OpenClaim := { program := "ytoekgcafhcamjab", sum := "b10e5c795850ed0aebac1266b7699e78f262211b028b9a050e38e8203cb268c6", func := "loop.example/g00959/laws.FnExactConeOfTurns", spec := "fnExactConeOfTurns", unfollowed := true, recurses := true, apart := false, narrowed := true }
def FnExactConeOfTurnsUptoSaid : Prop := fnExactConeOfTurnsUptoRow.holds Try.pinned (OpenSpec.upto fnExactConeOfTurnsSpec)

end Rows
end Go.Proofs.Ytoekgcafhcamjab
