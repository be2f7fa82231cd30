/-
  No cell of these rows narrows 'for every input' (looked for: loops, veiled, ifaces, maps, wideKeys, modest, calm, conditions, laid).
  DERIVED. THE GIVEN ROWS OF THIS SEAT. 7 by the template 'for every input the law returns true; each argument reads behind the call as it read before'; 0 by the template 'total and deterministic' (their statements: YtjijgagdaolkcaaTotals.lean).
  GIVEN WITH THE SEED: the statements are not yours to turn. If you find one false, say at which input.
  Laid BY PROGRAM, IN A SANDBOX (cutbox-rows.mjs): the forced cells as the released guide's own fill.sh prints them over the translation 5b6ed6fd245364b5… (all of the seat's roots in one cut). By AI agents, Wed Nov 11 2026. No macro, syntax, notation, axiom, sorry.
-/
import Derived.Test.YtjijgagdaolkcaaChecked
import GoSem.Claim
import GoSem.ClaimJoined
import GoSem.ClaimMapViews
import Derived.JoinedTies
import Derived.KernelRfl
namespace Go.Proofs.Ytjijgagdaolkcaa
/- THE CELL 'sum', in the pinned program and in every row, IS THE sha256 OF THE DUMP (.gsa) THAT YtjijgagdaolkcaaProg.lean LOADS. Nothing in Lean hashes anything: it is a label: what it is worth is what the hold of that sum in a sandbox is worth. -/
noncomputable def Try.pinned : Pinned := { name := "ytjijgagdaolkcaa", sum := "5b6ed6fd245364b54c0e30b146bcd30f776b10a8af7b9870041eb04676248a92", checked := Try.checked }
namespace Rows
def none {H : Type} : Left H := { results := [], args := [] }

/-- 'laws.FnCones': WHATEVER THE INPUT: true; the input reads as it did. -/
def fnConesSpec : ChangeSpec := { name := "fnCones", fn := fun _ => fun
  | [d] => { results := [.lit (.bool true)], args := [d] }
  | _ => none }
def fnConesRow : OpenClaim := { program := "ytjijgagdaolkcaa", sum := "5b6ed6fd245364b54c0e30b146bcd30f776b10a8af7b9870041eb04676248a92", func := "loop.example/g00959/laws.FnCones", spec := "fnCones", unfollowed := true, recurses := true, apart := false }
def FnConesSaid : Prop := fnConesRow.holds Try.pinned (OpenSpec.ofChange fnConesSpec)

/-- ITS FALSE NEIGHBOUR: 'it returns false'. Refute it at one input. -/
def fnConesWrong : ChangeSpec := { name := "fnCones", fn := fun _ => fun
  | [d] => { results := [.lit (.bool false)], args := [d] }
  | _ => none }
def FnConesWrongFalsely : Prop := fnConesRow.holds Try.pinned (OpenSpec.ofChange fnConesWrong)

/-- 'laws.FnSeries': WHATEVER THE INPUT: true; the input reads as it did. -/
def fnSeriesSpec : ChangeSpec := { name := "fnSeries", fn := fun _ => fun
  | [d] => { results := [.lit (.bool true)], args := [d] }
  | _ => none }
def fnSeriesRow : OpenClaim := { program := "ytjijgagdaolkcaa", sum := "5b6ed6fd245364b54c0e30b146bcd30f776b10a8af7b9870041eb04676248a92", func := "loop.example/g00959/laws.FnSeries", spec := "fnSeries", unfollowed := true, recurses := true, apart := false }
def FnSeriesSaid : Prop := fnSeriesRow.holds Try.pinned (OpenSpec.ofChange fnSeriesSpec)

/-- ITS FALSE NEIGHBOUR: 'it returns false'. Refute it at one input. -/
def fnSeriesWrong : ChangeSpec := { name := "fnSeries", fn := fun _ => fun
  | [d] => { results := [.lit (.bool false)], args := [d] }
  | _ => none }
def FnSeriesWrongFalsely : Prop := fnSeriesRow.holds Try.pinned (OpenSpec.ofChange fnSeriesWrong)

/-- 'laws.FnExactIsTerm': WHATEVER THE INPUT: true; the input reads as it did. -/
def fnExactIsTermSpec : ChangeSpec := { name := "fnExactIsTerm", fn := fun _ => fun
  | [d] => { results := [.lit (.bool true)], args := [d] }
  | _ => none }
def fnExactIsTermRow : OpenClaim := { program := "ytjijgagdaolkcaa", sum := "5b6ed6fd245364b54c0e30b146bcd30f776b10a8af7b9870041eb04676248a92", func := "loop.example/g00959/laws.FnExactIsTerm", spec := "fnExactIsTerm", unfollowed := true, recurses := true, apart := false }
def FnExactIsTermSaid : Prop := fnExactIsTermRow.holds Try.pinned (OpenSpec.ofChange fnExactIsTermSpec)

/-- ITS FALSE NEIGHBOUR: 'it returns false'. Refute it at one input. -/
def fnExactIsTermWrong : ChangeSpec := { name := "fnExactIsTerm", fn := fun _ => fun
  | [d] => { results := [.lit (.bool false)], args := [d] }
  | _ => none }
def FnExactIsTermWrongFalsely : Prop := fnExactIsTermRow.holds Try.pinned (OpenSpec.ofChange fnExactIsTermWrong)

/-- 'laws.FnExactTermAt': WHATEVER THE INPUT: true; the input reads as it did. -/
def fnExactTermAtSpec : ChangeSpec := { name := "fnExactTermAt", fn := fun _ => fun
  | [d1, d2] => { results := [.lit (.bool true)], args := [d1, d2] }
  | _ => none }
def fnExactTermAtRow : OpenClaim := { program := "ytjijgagdaolkcaa", sum := "5b6ed6fd245364b54c0e30b146bcd30f776b10a8af7b9870041eb04676248a92", func := "loop.example/g00959/laws.FnExactTermAt", spec := "fnExactTermAt", unfollowed := true, recurses := true, apart := false }
def FnExactTermAtSaid : Prop := fnExactTermAtRow.holds Try.pinned (OpenSpec.ofChange fnExactTermAtSpec)

/-- ITS FALSE NEIGHBOUR: 'it returns false'. Refute it at one input. -/
def fnExactTermAtWrong : ChangeSpec := { name := "fnExactTermAt", fn := fun _ => fun
  | [d1, d2] => { results := [.lit (.bool false)], args := [d1, d2] }
  | _ => none }
def FnExactTermAtWrongFalsely : Prop := fnExactTermAtRow.holds Try.pinned (OpenSpec.ofChange fnExactTermAtWrong)

/-- 'laws.FnExactSeriesAt': WHATEVER THE INPUT: true; the input reads as it did. -/
def fnExactSeriesAtSpec : ChangeSpec := { name := "fnExactSeriesAt", fn := fun _ => fun
  | [d1, d2] => { results := [.lit (.bool true)], args := [d1, d2] }
  | _ => none }
def fnExactSeriesAtRow : OpenClaim := { program := "ytjijgagdaolkcaa", sum := "5b6ed6fd245364b54c0e30b146bcd30f776b10a8af7b9870041eb04676248a92", func := "loop.example/g00959/laws.FnExactSeriesAt", spec := "fnExactSeriesAt", unfollowed := true, recurses := true, apart := false }
def FnExactSeriesAtSaid : Prop := fnExactSeriesAtRow.holds Try.pinned (OpenSpec.ofChange fnExactSeriesAtSpec)

/-- ITS FALSE NEIGHBOUR: 'it returns false'. Refute it at one input. -/
def fnExactSeriesAtWrong : ChangeSpec := { name := "fnExactSeriesAt", fn := fun _ => fun
  | [d1, d2] => { results := [.lit (.bool false)], args := [d1, d2] }
  | _ => none }
def FnExactSeriesAtWrongFalsely : Prop := fnExactSeriesAtRow.holds Try.pinned (OpenSpec.ofChange fnExactSeriesAtWrong)

/-- 'laws.FnExactSeriesOfCone': WHATEVER THE INPUT: true; the input reads as it did. -/
def fnExactSeriesOfConeSpec : ChangeSpec := { name := "fnExactSeriesOfCone", fn := fun _ => fun
  | [d1, d2] => { results := [.lit (.bool true)], args := [d1, d2] }
  | _ => none }
def fnExactSeriesOfConeRow : OpenClaim := { program := "ytjijgagdaolkcaa", sum := "5b6ed6fd245364b54c0e30b146bcd30f776b10a8af7b9870041eb04676248a92", func := "loop.example/g00959/laws.FnExactSeriesOfCone", spec := "fnExactSeriesOfCone", unfollowed := true, recurses := true, apart := false }
def FnExactSeriesOfConeSaid : Prop := fnExactSeriesOfConeRow.holds Try.pinned (OpenSpec.ofChange fnExactSeriesOfConeSpec)

/-- ITS FALSE NEIGHBOUR: 'it returns false'. Refute it at one input. -/
def fnExactSeriesOfConeWrong : ChangeSpec := { name := "fnExactSeriesOfCone", fn := fun _ => fun
  | [d1, d2] => { results := [.lit (.bool false)], args := [d1, d2] }
  | _ => none }
def FnExactSeriesOfConeWrongFalsely : Prop := fnExactSeriesOfConeRow.holds Try.pinned (OpenSpec.ofChange fnExactSeriesOfConeWrong)

/-- 'laws.FnExactCountTerms': WHATEVER THE INPUT: true; the input reads as it did. -/
def fnExactCountTermsSpec : ChangeSpec := { name := "fnExactCountTerms", fn := fun _ => fun
  | [d] => { results := [.lit (.bool true)], args := [d] }
  | _ => none }
def fnExactCountTermsRow : OpenClaim := { program := "ytjijgagdaolkcaa", sum := "5b6ed6fd245364b54c0e30b146bcd30f776b10a8af7b9870041eb04676248a92", func := "loop.example/g00959/laws.FnExactCountTerms", spec := "fnExactCountTerms", apart := false }
def FnExactCountTermsSaid : Prop := fnExactCountTermsRow.holds Try.pinned (OpenSpec.ofChange fnExactCountTermsSpec)

/-- ITS FALSE NEIGHBOUR: 'it returns false'. Refute it at one input. -/
def fnExactCountTermsWrong : ChangeSpec := { name := "fnExactCountTerms", fn := fun _ => fun
  | [d] => { results := [.lit (.bool false)], args := [d] }
  | _ => none }
def FnExactCountTermsWrongFalsely : Prop := fnExactCountTermsRow.holds Try.pinned (OpenSpec.ofChange fnExactCountTermsWrong)

/- THE SECOND FORM. 'bulk': how many values and letters a reading holds, each counted each time it is reached (what is shared counts as often as it is met; a slice's spare places count too). A statement '..UptoSaid' is the law's where the arguments, and the package variables that the reading takes, are together of bulk at most 1048576: NARROWER than '..Said'. Prove '..Said' where nothing that the law and all that it calls make is longer than what came in: it says more and counts as full. Else prove '..UptoSaid'. A law counts once. -/
mutual
def uptoBulk {H : Type} : DataW H → Nat
  | .lit (.string bytes) => bytes.length + 1
  | .lit _ => 1
  | .nil => 1
  | .ptr d => uptoBulk d + 1
  | .slice elems spare => uptoBulkAll elems + uptoBulkAll spare + 1
  | .agg parts => uptoBulkAll parts + 1
  | .iface _ d => uptoBulk d + 1
  | .map entries => uptoBulkEntries entries + 1
  | .held _ => 1
def uptoBulkAll {H : Type} : List (DataW H) → Nat
  | [] => 0
  | d :: r => uptoBulk d + uptoBulkAll r
def uptoBulkEntries {H : Type} : List (Lit × DataW H) → Nat
  | [] => 0
  | x :: r => uptoBulkEntry x + uptoBulkEntries r
def uptoBulkEntry {H : Type} : Lit × DataW H → Nat
  | (.string bytes, d) => bytes.length + uptoBulk d + 1
  | (_, d) => uptoBulk d + 1
 end
def uptoSmall : (H : Type) → List (DataW H) → Bool := fun _ ds => decide (uptoBulkAll ds ≤ 1048576)
def OpenSpec.upto (s : _root_.Go.ChangeSpec) : _root_.Go.OpenSpec := { _root_.Go.OpenSpec.ofChange s with cond := some uptoSmall }

/-- 'laws.FnCones', WHERE WHAT IT READS IS OF BULK AT MOST 1048576: true; the input reads as it did. -/
def fnConesUptoRow : OpenClaim := { program := "ytjijgagdaolkcaa", sum := "5b6ed6fd245364b54c0e30b146bcd30f776b10a8af7b9870041eb04676248a92", func := "loop.example/g00959/laws.FnCones", spec := "fnCones", unfollowed := true, recurses := true, apart := false, narrowed := true }
def FnConesUptoSaid : Prop := fnConesUptoRow.holds Try.pinned (OpenSpec.upto fnConesSpec)

/-- 'laws.FnSeries', WHERE WHAT IT READS IS OF BULK AT MOST 1048576: true; the input reads as it did. -/
def fnSeriesUptoRow : OpenClaim := { program := "ytjijgagdaolkcaa", sum := "5b6ed6fd245364b54c0e30b146bcd30f776b10a8af7b9870041eb04676248a92", func := "loop.example/g00959/laws.FnSeries", spec := "fnSeries", unfollowed := true, recurses := true, apart := false, narrowed := true }
def FnSeriesUptoSaid : Prop := fnSeriesUptoRow.holds Try.pinned (OpenSpec.upto fnSeriesSpec)

/-- 'laws.FnExactIsTerm', WHERE WHAT IT READS IS OF BULK AT MOST 1048576: true; the input reads as it did. -/
def fnExactIsTermUptoRow : OpenClaim := { program := "ytjijgagdaolkcaa", sum := "5b6ed6fd245364b54c0e30b146bcd30f776b10a8af7b9870041eb04676248a92", func := "loop.example/g00959/laws.FnExactIsTerm", spec := "fnExactIsTerm", unfollowed := true, recurses := true, apart := false, narrowed := true }
def FnExactIsTermUptoSaid : Prop := fnExactIsTermUptoRow.holds Try.pinned (OpenSpec.upto fnExactIsTermSpec)

/-- 'laws.FnExactTermAt', WHERE WHAT IT READS IS OF BULK AT MOST 1048576: true; the input reads as it did. -/
def fnExactTermAtUptoRow : OpenClaim := { program := "ytjijgagdaolkcaa", sum := "5b6ed6fd245364b54c0e30b146bcd30f776b10a8af7b9870041eb04676248a92", func := "loop.example/g00959/laws.FnExactTermAt", spec := "fnExactTermAt", unfollowed := true, recurses := true, apart := false, narrowed := true }
def FnExactTermAtUptoSaid : Prop := fnExactTermAtUptoRow.holds Try.pinned (OpenSpec.upto fnExactTermAtSpec)

/-- 'laws.FnExactSeriesAt', WHERE WHAT IT READS IS OF BULK AT MOST 1048576: true; the input reads as it did. -/
def fnExactSeriesAtUptoRow : OpenClaim := { program := "ytjijgagdaolkcaa", sum := "5b6ed6fd245364b54c0e30b146bcd30f776b10a8af7b9870041eb04676248a92", func := "loop.example/g00959/laws.FnExactSeriesAt", spec := "fnExactSeriesAt", unfollowed := true, recurses := true, apart := false, narrowed := true }
def FnExactSeriesAtUptoSaid : Prop := fnExactSeriesAtUptoRow.holds Try.pinned (OpenSpec.upto fnExactSeriesAtSpec)

/-- 'laws.FnExactSeriesOfCone', WHERE WHAT IT READS IS OF BULK AT MOST 1048576: true; the input reads as it did. -/
def fnExactSeriesOfConeUptoRow : OpenClaim := { program := "ytjijgagdaolkcaa", sum := "5b6ed6fd245364b54c0e30b146bcd30f776b10a8af7b9870041eb04676248a92", func := "loop.example/g00959/laws.FnExactSeriesOfCone", spec := "fnExactSeriesOfCone", unfollowed := true, recurses := true, apart := false, narrowed := true }
def FnExactSeriesOfConeUptoSaid : Prop := fnExactSeriesOfConeUptoRow.holds Try.pinned (OpenSpec.upto fnExactSeriesOfConeSpec)

/-- 'laws.FnExactCountTerms', WHERE WHAT IT READS IS OF BULK AT MOST 1048576: true; the input reads as it did. -/
def fnExactCountTermsUptoRow : OpenClaim := { program := "ytjijgagdaolkcaa", sum := "5b6ed6fd245364b54c0e30b146bcd30f776b10a8af7b9870041eb04676248a92", func := "loop.example/g00959/laws.FnExactCountTerms", spec := "fnExactCountTerms", apart := false, narrowed := true }
def FnExactCountTermsUptoSaid : Prop := fnExactCountTermsUptoRow.holds Try.pinned (OpenSpec.upto fnExactCountTermsSpec)

end Rows
end Go.Proofs.Ytjijgagdaolkcaa
