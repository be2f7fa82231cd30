/- A copy of a slice of strings. -/
import Derived.Test.YtflkalgofkpdbaaDoorCom
import Derived.Test.YtflkalgofkpdbaaDoorMac
import Derived.Test.YtflkalgofkpdbaaDoorShr
import Derived.Test.YtflkalgofkpdbaaDoorProg
import Derived.WalkLawsBesides
import Derived.WalkSpells
import Derived.BigQuiet
import Derived.Deep.QuietTactic
namespace Go.Proofs.YtflkalgofkpdbaaDoor
open Go.RowKit Go.Lib


end Go.Proofs.YtflkalgofkpdbaaDoor
