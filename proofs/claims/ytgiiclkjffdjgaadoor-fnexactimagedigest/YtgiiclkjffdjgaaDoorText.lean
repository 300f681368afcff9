/- PutText: the model and the program encode alike. -/
import Derived.Test.YtgiiclkjffdjgaaDoorPut
import Derived.Test.YtgiiclkjffdjgaaDoorJoin
namespace Go.Proofs.YtgiiclkjffdjgaaDoor
open Go.RowKit

end Go.Proofs.YtgiiclkjffdjgaaDoor
