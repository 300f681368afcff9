/- The specification's ImageApply, whole. -/
import Derived.Test.YtcpblmpapkhppaaDoorCSAp
namespace Go.Proofs.YtcpblmpapkhppaaDoor
open Go.RowKit

theorem ownNil (w : World) (lo sz : Nat) : Own w lo (.slice none 0 0) 0 sz [] := ⟨by simp, _, _, rfl, fun h => absurd h (Nat.lt_irrefl 0)⟩
end Go.Proofs.YtcpblmpapkhppaaDoor
