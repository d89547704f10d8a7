/- The document's SameOpts, over the loaded program; no memory that was there has turned. -/
import Derived.Test.YtefenejeppmfiaaIo2
namespace Go.Proofs.Ytefenejeppmfiaa
open Go.RowKit

end Go.Proofs.Ytefenejeppmfiaa
