/- The exact laws of StepRight and StepBytes. -/
import Derived.Test.YthkbllkhomjmbaaBBytes
namespace Go.Proofs.Ythkbllkhomjmbaa
open Go.RowKit


end Go.Proofs.Ythkbllkhomjmbaa
