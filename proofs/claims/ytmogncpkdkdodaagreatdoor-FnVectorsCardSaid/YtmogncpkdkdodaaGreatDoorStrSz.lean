/- The bulk of a slice of strings. -/
import Derived.Test.YtmogncpkdkdodaaGreatDoorCom
import Derived.Test.YtmogncpkdkdodaaGreatDoorSl
import Derived.Test.YtmogncpkdkdodaaGreatDoorProg
import Derived.WalkLawsBesides
import Derived.WalkSpells
import Derived.BigQuiet
import Derived.Deep.QuietTactic
namespace Go.Proofs.YtmogncpkdkdodaaGreatDoor
open Go.RowKit Go.Lib

end Go.Proofs.YtmogncpkdkdodaaGreatDoor
