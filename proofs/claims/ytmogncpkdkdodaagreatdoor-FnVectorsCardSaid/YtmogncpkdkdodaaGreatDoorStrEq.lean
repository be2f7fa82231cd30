/- Equality of two slices of strings. -/
import Derived.Test.YtmogncpkdkdodaaGreatDoorCom
import Derived.Test.YtmogncpkdkdodaaGreatDoorSl
import Derived.Test.YtmogncpkdkdodaaGreatDoorProg
import Derived.WalkLawsBesides
import Derived.WalkSpells
import Derived.BigQuiet
import Derived.Deep.QuietTactic
namespace Go.Proofs.YtmogncpkdkdodaaGreatDoor
open Go.RowKit Go.Lib

theorem strVals_ne {ss tt : List ByteArray} {k : Nat} (hk : k < ss.length) (hk' : k < tt.length) (h : ss[k] ≠ tt[k]) : ss ≠ tt := by
  intro e; subst e; exact h rfl
/-- Equality of two lists of strings, as a Bool that the walk leaves closed. -/
def eqStr (ss tt : List ByteArray) : Bool := decide (ss = tt)

end Go.Proofs.YtmogncpkdkdodaaGreatDoor
