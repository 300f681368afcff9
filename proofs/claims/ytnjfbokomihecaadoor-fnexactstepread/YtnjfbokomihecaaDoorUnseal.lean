/- Unseal: the model and the program answer alike. -/
import Derived.Test.YtnjfbokomihecaaDoorSeal
import Derived.Deep.RegionHeld3
import Derived.Deep.DrawnRows
namespace Go.Proofs.YtnjfbokomihecaaDoor
open Go.RowKit

attribute [local go_sem ↓] Go.wp_at_zero Go.wp_at_succ

end Go.Proofs.YtnjfbokomihecaaDoor
