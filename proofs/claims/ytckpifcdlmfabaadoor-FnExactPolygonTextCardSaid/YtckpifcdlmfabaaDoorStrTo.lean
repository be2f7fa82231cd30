/- A copy of a slice of strings. -/
import Derived.Test.YtckpifcdlmfabaaDoorCom
import Derived.Test.YtckpifcdlmfabaaDoorMac
import Derived.Test.YtckpifcdlmfabaaDoorShr
import Derived.Test.YtckpifcdlmfabaaDoorProg
import Derived.WalkLawsBesides
import Derived.WalkSpells
import Derived.BigQuiet
import Derived.Deep.QuietTactic
namespace Go.Proofs.YtckpifcdlmfabaaDoor
open Go.RowKit Go.Lib


end Go.Proofs.YtckpifcdlmfabaaDoor
