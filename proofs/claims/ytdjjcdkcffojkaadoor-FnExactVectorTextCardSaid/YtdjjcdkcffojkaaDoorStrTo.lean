/- A copy of a slice of strings. -/
import Derived.Test.YtdjjcdkcffojkaaDoorCom
import Derived.Test.YtdjjcdkcffojkaaDoorSl
import Derived.Test.YtdjjcdkcffojkaaDoorShr
import Derived.Test.YtdjjcdkcffojkaaDoorProg
import Derived.WalkLawsBesides
import Derived.WalkSpells
import Derived.BigQuiet
import Derived.Deep.QuietTactic
namespace Go.Proofs.YtdjjcdkcffojkaaDoor
open Go.RowKit Go.Lib


end Go.Proofs.YtdjjcdkcffojkaaDoor
