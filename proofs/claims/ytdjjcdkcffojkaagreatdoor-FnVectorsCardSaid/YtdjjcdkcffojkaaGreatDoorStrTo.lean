/- A copy of a slice of strings. -/
import Derived.Test.YtdjjcdkcffojkaaGreatDoorCom
import Derived.Test.YtdjjcdkcffojkaaGreatDoorSl
import Derived.Test.YtdjjcdkcffojkaaGreatDoorShr
import Derived.Test.YtdjjcdkcffojkaaGreatDoorProg
import Derived.WalkLawsBesides
import Derived.WalkSpells
import Derived.BigQuiet
import Derived.Deep.QuietTactic
namespace Go.Proofs.YtdjjcdkcffojkaaGreatDoor
open Go.RowKit Go.Lib


end Go.Proofs.YtdjjcdkcffojkaaGreatDoor
