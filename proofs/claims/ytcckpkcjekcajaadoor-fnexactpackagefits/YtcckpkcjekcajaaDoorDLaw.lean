/- The law FnExactDigest: model and program answer alike. -/
import Derived.Test.YtcckpkcjekcajaaDoorDSAll
namespace Go.Proofs.YtcckpkcjekcajaaDoor
open Go.RowKit

def digS (s : ByteArray) : ByteArray := ⟨(sha key start s.data.toList).toArray⟩
theorem digS_size (s : ByteArray) : (digS s).size = 32 := by
  show (sha key start s.data.toList).toArray.size = 32
  rw [List.size_toArray, sha_length]

set_option maxHeartbeats 400000 in
theorem specDigest_any (s : ByteArray) (w : World) (h : s.size ≤ 8000) :
    Calls Tryd.prog 53 #[.string s] w fun e w' => e = .returned (.string (digS s)) ∧ Below w.heap.size w w' := by
  have d1 : decide ((8000 : Int) < (s.size : Int)) = false := decide_eq_false (by omega)
  go_enter Tryd.func53, Tryd.ntmps53
  go_wp2_with fail
  refine (specAll s _ h).mono ?_
  rintro e w1 ⟨rfl, hb1⟩
  go_wp2_with fail
  go_ret
  exact ⟨rfl, hb1⟩
set_option maxHeartbeats 400000 in
theorem specDigest_long (s : ByteArray) (w : World) (hs : s.size ≤ maxLen) (h : 8000 < s.size) :
    Calls Tryd.prog 53 #[.string s] w fun e w' => e = .returned (.string ⟨#[]⟩) ∧ w = w' := by
  unfold maxLen at hs
  go_enter Tryd.func53, Tryd.ntmps53
  go_wp2_with fail
  go_ret
  exact ⟨rfl, rfl⟩
theorem implDigest_any (s : ByteArray) (w : World) (h : s.size ≤ 8000) (hl : LaidT w) :
    Calls Tryd.prog 51 #[.string s] w fun e w' => e = .returned (.string (digS s)) ∧ Below w.heap.size w w' := digest_any s w h hl

end Go.Proofs.YtcckpkcjekcajaaDoor
