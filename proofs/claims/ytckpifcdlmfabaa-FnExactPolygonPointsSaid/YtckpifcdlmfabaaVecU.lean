/- The model's vectors: the exported functions, out of the loops' contracts. -/
import Derived.Test.YtckpifcdlmfabaaVecT
namespace Go.Proofs.Ytckpifcdlmfabaa
open Go.RowKit Go.Lib

end Go.Proofs.Ytckpifcdlmfabaa
