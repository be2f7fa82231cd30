/-
  No cell of these rows narrows 'for every input' (looked for: loops, veiled, ifaces, maps, wideKeys, modest, calm, conditions, laid).
  DERIVED. THE GIVEN ROWS OF THIS SEAT. 9 by the template 'for every input the law returns true; each argument reads behind the call as it read before'; 0 by the template 'total and deterministic' (their statements: YteenheidomfpkaaTotals.lean).
  GIVEN WITH THE SEED: the statements are not yours to turn. If you find one false, say at which input.
  Laid BY PROGRAM, IN A SANDBOX (cutbox-rows.mjs): the forced cells as the released guide's own fill.sh prints them over the translation 78e45a3a9f1c27f3… (all of the seat's roots in one cut). By AI agents, Wed Nov 11 2026. No macro, syntax, notation, axiom, sorry.
-/
import Derived.Test.YteenheidomfpkaaChecked
import GoSem.Claim
import GoSem.ClaimJoined
import GoSem.ClaimMapViews
import Derived.JoinedTies
import Derived.KernelRfl
namespace Go.Proofs.Yteenheidomfpkaa
/- THE CELL 'sum', in the pinned program and in every row, IS THE sha256 OF THE DUMP (.gsa) THAT YteenheidomfpkaaProg.lean LOADS. Nothing in Lean hashes anything: it is a label: what it is worth is what the hold of that sum in a sandbox is worth. -/
noncomputable def Try.pinned : Pinned := { name := "yteenheidomfpkaa", sum := "78e45a3a9f1c27f34f3c8db5440beaf3bd7843c151b18e897fb65299964dfa3e", checked := Try.checked }
namespace Rows
def none {H : Type} : Left H := { results := [], args := [] }

/-- 'laws.FnExactTimesMatrix': WHATEVER THE INPUT: true; the input reads as it did. -/
def fnExactTimesMatrixSpec : ChangeSpec := { name := "fnExactTimesMatrix", fn := fun _ => fun
  | [d1, d2] => { results := [.lit (.bool true)], args := [d1, d2] }
  | _ => none }
def fnExactTimesMatrixRow : OpenClaim := { program := "yteenheidomfpkaa", sum := "78e45a3a9f1c27f34f3c8db5440beaf3bd7843c151b18e897fb65299964dfa3e", func := "loop.example/g00959/laws.FnExactTimesMatrix", spec := "fnExactTimesMatrix", unfollowed := true, recurses := true, plainKeys := false, apart := false }
def FnExactTimesMatrixSaid : Prop := fnExactTimesMatrixRow.holds Try.pinned (OpenSpec.ofChange fnExactTimesMatrixSpec)

/-- ITS FALSE NEIGHBOUR: 'it returns false'. Refute it at one input. -/
def fnExactTimesMatrixWrong : ChangeSpec := { name := "fnExactTimesMatrix", fn := fun _ => fun
  | [d1, d2] => { results := [.lit (.bool false)], args := [d1, d2] }
  | _ => none }
def FnExactTimesMatrixWrongFalsely : Prop := fnExactTimesMatrixRow.holds Try.pinned (OpenSpec.ofChange fnExactTimesMatrixWrong)

/-- 'laws.FnExactHermiteOf': WHATEVER THE INPUT: true; the input reads as it did. -/
def fnExactHermiteOfSpec : ChangeSpec := { name := "fnExactHermiteOf", fn := fun _ => fun
  | [d] => { results := [.lit (.bool true)], args := [d] }
  | _ => none }
def fnExactHermiteOfRow : OpenClaim := { program := "yteenheidomfpkaa", sum := "78e45a3a9f1c27f34f3c8db5440beaf3bd7843c151b18e897fb65299964dfa3e", func := "loop.example/g00959/laws.FnExactHermiteOf", spec := "fnExactHermiteOf", unfollowed := true, recurses := true, plainKeys := false, apart := false }
def FnExactHermiteOfSaid : Prop := fnExactHermiteOfRow.holds Try.pinned (OpenSpec.ofChange fnExactHermiteOfSpec)

/-- ITS FALSE NEIGHBOUR: 'it returns false'. Refute it at one input. -/
def fnExactHermiteOfWrong : ChangeSpec := { name := "fnExactHermiteOf", fn := fun _ => fun
  | [d] => { results := [.lit (.bool false)], args := [d] }
  | _ => none }
def FnExactHermiteOfWrongFalsely : Prop := fnExactHermiteOfRow.holds Try.pinned (OpenSpec.ofChange fnExactHermiteOfWrong)

/-- 'laws.FnExactHullOf': WHATEVER THE INPUT: true; the input reads as it did. -/
def fnExactHullOfSpec : ChangeSpec := { name := "fnExactHullOf", fn := fun _ => fun
  | [d] => { results := [.lit (.bool true)], args := [d] }
  | _ => none }
def fnExactHullOfRow : OpenClaim := { program := "yteenheidomfpkaa", sum := "78e45a3a9f1c27f34f3c8db5440beaf3bd7843c151b18e897fb65299964dfa3e", func := "loop.example/g00959/laws.FnExactHullOf", spec := "fnExactHullOf", unfollowed := true, recurses := true, plainKeys := false, apart := false }
def FnExactHullOfSaid : Prop := fnExactHullOfRow.holds Try.pinned (OpenSpec.ofChange fnExactHullOfSpec)

/-- ITS FALSE NEIGHBOUR: 'it returns false'. Refute it at one input. -/
def fnExactHullOfWrong : ChangeSpec := { name := "fnExactHullOf", fn := fun _ => fun
  | [d] => { results := [.lit (.bool false)], args := [d] }
  | _ => none }
def FnExactHullOfWrongFalsely : Prop := fnExactHullOfRow.holds Try.pinned (OpenSpec.ofChange fnExactHullOfWrong)

/-- 'laws.FnExactPolygonPoints': WHATEVER THE INPUT: true; the input reads as it did. -/
def fnExactPolygonPointsSpec : ChangeSpec := { name := "fnExactPolygonPoints", fn := fun _ => fun
  | [d] => { results := [.lit (.bool true)], args := [d] }
  | _ => none }
def fnExactPolygonPointsRow : OpenClaim := { program := "yteenheidomfpkaa", sum := "78e45a3a9f1c27f34f3c8db5440beaf3bd7843c151b18e897fb65299964dfa3e", func := "loop.example/g00959/laws.FnExactPolygonPoints", spec := "fnExactPolygonPoints", unfollowed := true, recurses := true, plainKeys := false, apart := false }
def FnExactPolygonPointsSaid : Prop := fnExactPolygonPointsRow.holds Try.pinned (OpenSpec.ofChange fnExactPolygonPointsSpec)

/-- ITS FALSE NEIGHBOUR: 'it returns false'. Refute it at one input. -/
def fnExactPolygonPointsWrong : ChangeSpec := { name := "fnExactPolygonPoints", fn := fun _ => fun
  | [d] => { results := [.lit (.bool false)], args := [d] }
  | _ => none }
def FnExactPolygonPointsWrongFalsely : Prop := fnExactPolygonPointsRow.holds Try.pinned (OpenSpec.ofChange fnExactPolygonPointsWrong)

/-- 'laws.FnExactLatticeIndex': WHATEVER THE INPUT: true; the input reads as it did. -/
def fnExactLatticeIndexSpec : ChangeSpec := { name := "fnExactLatticeIndex", fn := fun _ => fun
  | [d] => { results := [.lit (.bool true)], args := [d] }
  | _ => none }
def fnExactLatticeIndexRow : OpenClaim := { program := "yteenheidomfpkaa", sum := "78e45a3a9f1c27f34f3c8db5440beaf3bd7843c151b18e897fb65299964dfa3e", func := "loop.example/g00959/laws.FnExactLatticeIndex", spec := "fnExactLatticeIndex", unfollowed := true, recurses := true, plainKeys := false, apart := false }
def FnExactLatticeIndexSaid : Prop := fnExactLatticeIndexRow.holds Try.pinned (OpenSpec.ofChange fnExactLatticeIndexSpec)

/-- ITS FALSE NEIGHBOUR: 'it returns false'. Refute it at one input. -/
def fnExactLatticeIndexWrong : ChangeSpec := { name := "fnExactLatticeIndex", fn := fun _ => fun
  | [d] => { results := [.lit (.bool false)], args := [d] }
  | _ => none }
def FnExactLatticeIndexWrongFalsely : Prop := fnExactLatticeIndexRow.holds Try.pinned (OpenSpec.ofChange fnExactLatticeIndexWrong)

/-- 'laws.FnExactClassLeader': WHATEVER THE INPUT: true; the input reads as it did. -/
def fnExactClassLeaderSpec : ChangeSpec := { name := "fnExactClassLeader", fn := fun _ => fun
  | [d1, d2] => { results := [.lit (.bool true)], args := [d1, d2] }
  | _ => none }
def fnExactClassLeaderRow : OpenClaim := { program := "yteenheidomfpkaa", sum := "78e45a3a9f1c27f34f3c8db5440beaf3bd7843c151b18e897fb65299964dfa3e", func := "loop.example/g00959/laws.FnExactClassLeader", spec := "fnExactClassLeader", unfollowed := true, recurses := true, plainKeys := false, apart := false }
def FnExactClassLeaderSaid : Prop := fnExactClassLeaderRow.holds Try.pinned (OpenSpec.ofChange fnExactClassLeaderSpec)

/-- ITS FALSE NEIGHBOUR: 'it returns false'. Refute it at one input. -/
def fnExactClassLeaderWrong : ChangeSpec := { name := "fnExactClassLeader", fn := fun _ => fun
  | [d1, d2] => { results := [.lit (.bool false)], args := [d1, d2] }
  | _ => none }
def FnExactClassLeaderWrongFalsely : Prop := fnExactClassLeaderRow.holds Try.pinned (OpenSpec.ofChange fnExactClassLeaderWrong)

/-- 'laws.FnExactClassLeaders': WHATEVER THE INPUT: true; the input reads as it did. -/
def fnExactClassLeadersSpec : ChangeSpec := { name := "fnExactClassLeaders", fn := fun _ => fun
  | [d] => { results := [.lit (.bool true)], args := [d] }
  | _ => none }
def fnExactClassLeadersRow : OpenClaim := { program := "yteenheidomfpkaa", sum := "78e45a3a9f1c27f34f3c8db5440beaf3bd7843c151b18e897fb65299964dfa3e", func := "loop.example/g00959/laws.FnExactClassLeaders", spec := "fnExactClassLeaders", unfollowed := true, recurses := true, plainKeys := false, apart := false }
def FnExactClassLeadersSaid : Prop := fnExactClassLeadersRow.holds Try.pinned (OpenSpec.ofChange fnExactClassLeadersSpec)

/-- ITS FALSE NEIGHBOUR: 'it returns false'. Refute it at one input. -/
def fnExactClassLeadersWrong : ChangeSpec := { name := "fnExactClassLeaders", fn := fun _ => fun
  | [d] => { results := [.lit (.bool false)], args := [d] }
  | _ => none }
def FnExactClassLeadersWrongFalsely : Prop := fnExactClassLeadersRow.holds Try.pinned (OpenSpec.ofChange fnExactClassLeadersWrong)

/-- 'laws.FnExactSameClass': WHATEVER THE INPUT: true; the input reads as it did. -/
def fnExactSameClassSpec : ChangeSpec := { name := "fnExactSameClass", fn := fun _ => fun
  | [d1, d2, d3] => { results := [.lit (.bool true)], args := [d1, d2, d3] }
  | _ => none }
def fnExactSameClassRow : OpenClaim := { program := "yteenheidomfpkaa", sum := "78e45a3a9f1c27f34f3c8db5440beaf3bd7843c151b18e897fb65299964dfa3e", func := "loop.example/g00959/laws.FnExactSameClass", spec := "fnExactSameClass", unfollowed := true, recurses := true, plainKeys := false, apart := false }
def FnExactSameClassSaid : Prop := fnExactSameClassRow.holds Try.pinned (OpenSpec.ofChange fnExactSameClassSpec)

/-- ITS FALSE NEIGHBOUR: 'it returns false'. Refute it at one input. -/
def fnExactSameClassWrong : ChangeSpec := { name := "fnExactSameClass", fn := fun _ => fun
  | [d1, d2, d3] => { results := [.lit (.bool false)], args := [d1, d2, d3] }
  | _ => none }
def FnExactSameClassWrongFalsely : Prop := fnExactSameClassRow.holds Try.pinned (OpenSpec.ofChange fnExactSameClassWrong)

/-- 'laws.FnExactCellPoints': WHATEVER THE INPUT: true; the input reads as it did. -/
def fnExactCellPointsSpec : ChangeSpec := { name := "fnExactCellPoints", fn := fun _ => fun
  | [d] => { results := [.lit (.bool true)], args := [d] }
  | _ => none }
def fnExactCellPointsRow : OpenClaim := { program := "yteenheidomfpkaa", sum := "78e45a3a9f1c27f34f3c8db5440beaf3bd7843c151b18e897fb65299964dfa3e", func := "loop.example/g00959/laws.FnExactCellPoints", spec := "fnExactCellPoints", unfollowed := true, recurses := true, plainKeys := false, apart := false }
def FnExactCellPointsSaid : Prop := fnExactCellPointsRow.holds Try.pinned (OpenSpec.ofChange fnExactCellPointsSpec)

/-- ITS FALSE NEIGHBOUR: 'it returns false'. Refute it at one input. -/
def fnExactCellPointsWrong : ChangeSpec := { name := "fnExactCellPoints", fn := fun _ => fun
  | [d] => { results := [.lit (.bool false)], args := [d] }
  | _ => none }
def FnExactCellPointsWrongFalsely : Prop := fnExactCellPointsRow.holds Try.pinned (OpenSpec.ofChange fnExactCellPointsWrong)

/- THE SECOND FORM. 'bulk': how many values and letters a reading holds, each counted each time it is reached (what is shared counts as often as it is met; a slice's spare places count too). A statement '..UptoSaid' is the law's where the arguments, and the package variables that the reading takes, are together of bulk at most 1048576: NARROWER than '..Said'. Prove '..Said' where nothing that the law and all that it calls make is longer than what came in: it says more and counts as full. Else prove '..UptoSaid'. A law counts once. -/
mutual
def uptoBulk {H : Type} : DataW H → Nat
  | .lit (.string bytes) => bytes.length + 1
  | .lit _ => 1
  | .nil => 1
  | .ptr d => uptoBulk d + 1
  | .slice elems spare => uptoBulkAll elems + uptoBulkAll spare + 1
  | .agg parts => uptoBulkAll parts + 1
  | .iface _ d => uptoBulk d + 1
  | .map entries => uptoBulkEntries entries + 1
  | .held _ => 1
def uptoBulkAll {H : Type} : List (DataW H) → Nat
  | [] => 0
  | d :: r => uptoBulk d + uptoBulkAll r
def uptoBulkEntries {H : Type} : List (Lit × DataW H) → Nat
  | [] => 0
  | x :: r => uptoBulkEntry x + uptoBulkEntries r
def uptoBulkEntry {H : Type} : Lit × DataW H → Nat
  | (.string bytes, d) => bytes.length + uptoBulk d + 1
  | (_, d) => uptoBulk d + 1
 end
def uptoSmall : (H : Type) → List (DataW H) → Bool := fun _ ds => decide (uptoBulkAll ds ≤ 1048576)
def OpenSpec.upto (s : _root_.Go.ChangeSpec) : _root_.Go.OpenSpec := { _root_.Go.OpenSpec.ofChange s with cond := some uptoSmall }

/-- 'laws.FnExactTimesMatrix', WHERE WHAT IT READS IS OF BULK AT MOST 1048576: true; the input reads as it did. -/
def fnExactTimesMatrixUptoRow : OpenClaim := { program := "yteenheidomfpkaa", sum := "78e45a3a9f1c27f34f3c8db5440beaf3bd7843c151b18e897fb65299964dfa3e", func := "loop.example/g00959/laws.FnExactTimesMatrix", spec := "fnExactTimesMatrix", unfollowed := true, recurses := true, plainKeys := false, apart := false, narrowed := true }
def FnExactTimesMatrixUptoSaid : Prop := fnExactTimesMatrixUptoRow.holds Try.pinned (OpenSpec.upto fnExactTimesMatrixSpec)

/-- 'laws.FnExactHermiteOf', WHERE WHAT IT READS IS OF BULK AT MOST 1048576: true; the input reads as it did. -/
def fnExactHermiteOfUptoRow : OpenClaim := { program := "yteenheidomfpkaa", sum := "78e45a3a9f1c27f34f3c8db5440beaf3bd7843c151b18e897fb65299964dfa3e", func := "loop.example/g00959/laws.FnExactHermiteOf", spec := "fnExactHermiteOf", unfollowed := true, recurses := true, plainKeys := false, apart := false, narrowed := true }
def FnExactHermiteOfUptoSaid : Prop := fnExactHermiteOfUptoRow.holds Try.pinned (OpenSpec.upto fnExactHermiteOfSpec)

/-- 'laws.FnExactHullOf', WHERE WHAT IT READS IS OF BULK AT MOST 1048576: true; the input reads as it did. -/
def fnExactHullOfUptoRow : OpenClaim := { program := "yteenheidomfpkaa", sum := "78e45a3a9f1c27f34f3c8db5440beaf3bd7843c151b18e897fb65299964dfa3e", func := "loop.example/g00959/laws.FnExactHullOf", spec := "fnExactHullOf", unfollowed := true, recurses := true, plainKeys := false, apart := false, narrowed := true }
def FnExactHullOfUptoSaid : Prop := fnExactHullOfUptoRow.holds Try.pinned (OpenSpec.upto fnExactHullOfSpec)

/-- 'laws.FnExactPolygonPoints', WHERE WHAT IT READS IS OF BULK AT MOST 1048576: true; the input reads as it did. -/
def fnExactPolygonPointsUptoRow : OpenClaim := { program := "yteenheidomfpkaa", sum := "78e45a3a9f1c27f34f3c8db5440beaf3bd7843c151b18e897fb65299964dfa3e", func := "loop.example/g00959/laws.FnExactPolygonPoints", spec := "fnExactPolygonPoints", unfollowed := true, recurses := true, plainKeys := false, apart := false, narrowed := true }
def FnExactPolygonPointsUptoSaid : Prop := fnExactPolygonPointsUptoRow.holds Try.pinned (OpenSpec.upto fnExactPolygonPointsSpec)

/-- 'laws.FnExactLatticeIndex', WHERE WHAT IT READS IS OF BULK AT MOST 1048576: true; the input reads as it did. -/
def fnExactLatticeIndexUptoRow : OpenClaim := { program := "yteenheidomfpkaa", sum := "78e45a3a9f1c27f34f3c8db5440beaf3bd7843c151b18e897fb65299964dfa3e", func := "loop.example/g00959/laws.FnExactLatticeIndex", spec := "fnExactLatticeIndex", unfollowed := true, recurses := true, plainKeys := false, apart := false, narrowed := true }
def FnExactLatticeIndexUptoSaid : Prop := fnExactLatticeIndexUptoRow.holds Try.pinned (OpenSpec.upto fnExactLatticeIndexSpec)

/-- 'laws.FnExactClassLeader', WHERE WHAT IT READS IS OF BULK AT MOST 1048576: true; the input reads as it did. -/
def fnExactClassLeaderUptoRow : OpenClaim := { program := "yteenheidomfpkaa", sum := "78e45a3a9f1c27f34f3c8db5440beaf3bd7843c151b18e897fb65299964dfa3e", func := "loop.example/g00959/laws.FnExactClassLeader", spec := "fnExactClassLeader", unfollowed := true, recurses := true, plainKeys := false, apart := false, narrowed := true }
def FnExactClassLeaderUptoSaid : Prop := fnExactClassLeaderUptoRow.holds Try.pinned (OpenSpec.upto fnExactClassLeaderSpec)

/-- 'laws.FnExactClassLeaders', WHERE WHAT IT READS IS OF BULK AT MOST 1048576: true; the input reads as it did. -/
def fnExactClassLeadersUptoRow : OpenClaim := { program := "yteenheidomfpkaa", sum := "78e45a3a9f1c27f34f3c8db5440beaf3bd7843c151b18e897fb65299964dfa3e", func := "loop.example/g00959/laws.FnExactClassLeaders", spec := "fnExactClassLeaders", unfollowed := true, recurses := true, plainKeys := false, apart := false, narrowed := true }
def FnExactClassLeadersUptoSaid : Prop := fnExactClassLeadersUptoRow.holds Try.pinned (OpenSpec.upto fnExactClassLeadersSpec)

/-- 'laws.FnExactSameClass', WHERE WHAT IT READS IS OF BULK AT MOST 1048576: true; the input reads as it did. -/
def fnExactSameClassUptoRow : OpenClaim := { program := "yteenheidomfpkaa", sum := "78e45a3a9f1c27f34f3c8db5440beaf3bd7843c151b18e897fb65299964dfa3e", func := "loop.example/g00959/laws.FnExactSameClass", spec := "fnExactSameClass", unfollowed := true, recurses := true, plainKeys := false, apart := false, narrowed := true }
def FnExactSameClassUptoSaid : Prop := fnExactSameClassUptoRow.holds Try.pinned (OpenSpec.upto fnExactSameClassSpec)

/-- 'laws.FnExactCellPoints', WHERE WHAT IT READS IS OF BULK AT MOST 1048576: true; the input reads as it did. -/
def fnExactCellPointsUptoRow : OpenClaim := { program := "yteenheidomfpkaa", sum := "78e45a3a9f1c27f34f3c8db5440beaf3bd7843c151b18e897fb65299964dfa3e", func := "loop.example/g00959/laws.FnExactCellPoints", spec := "fnExactCellPoints", unfollowed := true, recurses := true, plainKeys := false, apart := false, narrowed := true }
def FnExactCellPointsUptoSaid : Prop := fnExactCellPointsUptoRow.holds Try.pinned (OpenSpec.upto fnExactCellPointsSpec)

end Rows
end Go.Proofs.Yteenheidomfpkaa
