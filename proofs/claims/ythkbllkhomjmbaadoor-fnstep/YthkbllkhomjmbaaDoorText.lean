/- PutText: the model and the program encode alike. -/
import Derived.Test.YthkbllkhomjmbaaDoorPut
import Derived.Test.YthkbllkhomjmbaaDoorJoin
namespace Go.Proofs.YthkbllkhomjmbaaDoor
open Go.RowKit

set_option maxHeartbeats 400000 in
theorem specText_any (t : ByteArray) (w : World) (ht : t.size ≤ 8000) :
    Calls Tryd.prog 17 #[.string t] w fun e w' => e = .returned (.string (putS t.size ++ t)) ∧ Below w.heap.size w w' := by
  have hp := putS_size t.size (by omega) (by omega)
  go_enter Tryd.func17, Tryd.ntmps17
  go_wp2_with fail
  refine (specPut t.size _ (by omega) (by omega)).mono ?_
  rintro e w1 ⟨rfl, hb1⟩
  go_wp2_with fail
  go_ret
  exact ⟨rfl, hb1⟩

set_option maxHeartbeats 400000 in
theorem implText_any (t : ByteArray) (w : World) (ht : t.size ≤ 8000) :
    Calls Tryd.prog 16 #[.string t] w fun e w' => e = .returned (.string (putS t.size ++ t)) ∧ Below w.heap.size w w' := by
  have hp := putS_size t.size (by omega) (by omega)
  go_enter Tryd.func16, Tryd.ntmps16
  go_wp2_with fail
  refine (implPut t.size _ (by omega) (by omega)).mono ?_
  rintro e w1 ⟨rfl, hb1⟩
  go_wp2_with fail
  refine (joined_two (putS t.size) t _ (by omega)).mono ?_
  rintro e w2 ⟨rfl, hb2⟩
  have hb := hb1.trans (hb2.mono hb1.size)
  clear hb1 hb2
  go_wp2_with fail
  go_ret
  exact ⟨rfl, hb⟩

set_option maxHeartbeats 400000 in
theorem specText_long (t : ByteArray) (w : World) (hs : t.size ≤ maxLen) (ht : 8000 < t.size) :
    Calls Tryd.prog 17 #[.string t] w fun e w' => e = .returned (.string ⟨#[]⟩) ∧ w = w' := by
  unfold maxLen at hs
  go_enter Tryd.func17, Tryd.ntmps17
  go_wp2_with fail
  go_ret
  exact ⟨rfl, rfl⟩
set_option maxHeartbeats 400000 in
theorem implText_long (t : ByteArray) (w : World) (hs : t.size ≤ maxLen) (ht : 8000 < t.size) :
    Calls Tryd.prog 16 #[.string t] w fun e w' => e = .returned (.string ⟨#[]⟩) ∧ w = w' := by
  unfold maxLen at hs
  go_enter Tryd.func16, Tryd.ntmps16
  go_wp2_with fail
  go_ret
  exact ⟨rfl, rfl⟩

end Go.Proofs.YthkbllkhomjmbaaDoor
