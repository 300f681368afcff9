/- The law FnExactGetText out of the contracts of the model's and the program's GetText. -/
import Derived.Test.YtcpblmpapkhppaaGreatDoorGText
namespace Go.Proofs.YtcpblmpapkhppaaGreatDoor
open Go.RowKit

theorem getR_bad (s : ByteArray) (x : Int) (h : ¬ (getR s x).2.2 = 0) : getR s x = (0, 0, (getR s x).2.2) := by
  unfold getR at *
  by_cases h8 : 8000 < s.size
  · rw [if_pos h8]
  rw [if_neg h8] at h ⊢
  by_cases h0 : x < 0
  · rw [if_pos h0]
  rw [if_neg h0] at h ⊢
  exact goN_bad s _ _ _ _ h

end Go.Proofs.YtcpblmpapkhppaaGreatDoor
