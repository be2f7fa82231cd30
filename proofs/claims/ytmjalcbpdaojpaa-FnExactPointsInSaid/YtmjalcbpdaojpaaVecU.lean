/- The model's vectors: the exported functions, out of the loops' contracts. -/
import Derived.Test.YtmjalcbpdaojpaaVecT
namespace Go.Proofs.Ytmjalcbpdaojpaa
open Go.RowKit Go.Lib

end Go.Proofs.Ytmjalcbpdaojpaa
