/- The bulk of a slice of strings. -/
import Derived.Test.YtmogncpkdkdodaaDoorCom
import Derived.Test.YtmogncpkdkdodaaDoorSl
import Derived.Test.YtmogncpkdkdodaaDoorProg
import Derived.WalkLawsBesides
import Derived.WalkSpells
import Derived.BigQuiet
import Derived.Deep.QuietTactic
namespace Go.Proofs.YtmogncpkdkdodaaDoor
open Go.RowKit Go.Lib

end Go.Proofs.YtmogncpkdkdodaaDoor
