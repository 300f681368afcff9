/- PutText: the model and the program encode alike. -/
import Derived.Test.YtgiiclkjffdjgaaPut
import Derived.Test.YtgiiclkjffdjgaaJoin
namespace Go.Proofs.Ytgiiclkjffdjgaa
open Go.RowKit

end Go.Proofs.Ytgiiclkjffdjgaa
