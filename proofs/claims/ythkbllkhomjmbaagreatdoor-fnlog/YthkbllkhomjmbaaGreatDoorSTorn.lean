/- The model's Torn. -/
import Derived.Test.YthkbllkhomjmbaaGreatDoorBase
namespace Go.Proofs.YthkbllkhomjmbaaGreatDoor
open Go.RowKit

/-- What is left of a write. -/
def torn (old fresh : ByteArray) (fate : Int) : ByteArray :=
  if 8000 < old.size ∨ 8000 < fresh.size then ByteArray.empty
  else if fate < 1 then old
  else if fate = 1 then fresh
  else if (fresh.size : Int) < fate - 2 then fresh
  else fresh.extract 0 (fate - 2).toNat

end Go.Proofs.YthkbllkhomjmbaaGreatDoor
