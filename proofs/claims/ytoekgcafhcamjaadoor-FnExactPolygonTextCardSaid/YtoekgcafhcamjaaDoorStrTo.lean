/- A copy of a slice of strings. -/
import Derived.Test.YtoekgcafhcamjaaDoorCom
import Derived.Test.YtoekgcafhcamjaaDoorMac
import Derived.Test.YtoekgcafhcamjaaDoorShr
import Derived.Test.YtoekgcafhcamjaaDoorProg
import Derived.WalkLawsBesides
import Derived.WalkSpells
import Derived.BigQuiet
import Derived.Deep.QuietTactic
namespace Go.Proofs.YtoekgcafhcamjaaDoor
open Go.RowKit Go.Lib


end Go.Proofs.YtoekgcafhcamjaaDoor
