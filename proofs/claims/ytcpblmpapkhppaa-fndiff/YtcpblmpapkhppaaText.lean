/- PutText: the model and the program encode alike. -/
import Derived.Test.YtcpblmpapkhppaaPut
import Derived.Test.YtcpblmpapkhppaaJoin
namespace Go.Proofs.Ytcpblmpapkhppaa
open Go.RowKit

set_option maxHeartbeats 400000 in
theorem specText_any (t : ByteArray) (w : World) (ht : t.size ≤ 8000) :
    Calls Try.prog 18 #[.string t] w fun e w' => e = .returned (.string (putS t.size ++ t)) ∧ Below w.heap.size w w' := by
  have hp := putS_size t.size (by omega) (by omega)
  go_enter Try.func18, Try.ntmps18
  go_wp2_with fail
  refine (specPut t.size _ (by omega) (by omega)).mono ?_
  rintro e w1 ⟨rfl, hb1⟩
  go_wp2_with fail
  go_ret
  exact ⟨rfl, hb1⟩

set_option maxHeartbeats 400000 in
theorem implText_any (t : ByteArray) (w : World) (ht : t.size ≤ 8000) :
    Calls Try.prog 19 #[.string t] w fun e w' => e = .returned (.string (putS t.size ++ t)) ∧ Below w.heap.size w w' := by
  have hp := putS_size t.size (by omega) (by omega)
  go_enter Try.func19, Try.ntmps19
  go_wp2_with fail
  refine (implPut t.size _ (by omega) (by omega)).mono ?_
  rintro e w1 ⟨rfl, hb1⟩
  go_wp2_with fail
  refine (joined_two (putS t.size) t _ (by omega)).mono ?_
  rintro e w2 ⟨rfl, hb2⟩
  have hb := hb1.trans (hb2.mono hb1.size)
  clear hb1 hb2
  go_wp2_with fail
  go_ret
  exact ⟨rfl, hb⟩

set_option maxHeartbeats 400000 in
theorem specText_long (t : ByteArray) (w : World) (hs : t.size ≤ maxLen) (ht : 8000 < t.size) :
    Calls Try.prog 18 #[.string t] w fun e w' => e = .returned (.string ⟨#[]⟩) ∧ w = w' := by
  unfold maxLen at hs
  go_enter Try.func18, Try.ntmps18
  go_wp2_with fail
  go_ret
  exact ⟨rfl, rfl⟩
set_option maxHeartbeats 400000 in
theorem implText_long (t : ByteArray) (w : World) (hs : t.size ≤ maxLen) (ht : 8000 < t.size) :
    Calls Try.prog 19 #[.string t] w fun e w' => e = .returned (.string ⟨#[]⟩) ∧ w = w' := by
  unfold maxLen at hs
  go_enter Try.func19, Try.ntmps19
  go_wp2_with fail
  go_ret
  exact ⟨rfl, rfl⟩

set_option maxHeartbeats 400000 in
theorem putTextLaw (s : ByteArray) (w : World) (hs : s.size ≤ maxLen) :
    Calls Try.prog 5 #[.string s] w fun e w' => e = .returned (.bool true) ∧ Below w.heap.size w w' := by
  by_cases h : 1048576 < s.size
  · unfold maxLen at hs
    go_enter Try.func5, Try.ntmps5
    go_wp2_with fail
    go_ret
    exact ⟨rfl, Below.refl _ _⟩
  · have HS := Lib.hid hs
    unfold maxLen at hs
    by_cases h8 : 8000 < s.size
    · go_enter Try.func5, Try.ntmps5
      go_wp2_with fail
      refine (specText_long s _ HS.out h8).mono ?_
      rintro e w' ⟨rfl, rfl⟩
      go_wp2_with fail
      refine (implText_long s _ HS.out h8).mono ?_
      rintro e w' ⟨rfl, rfl⟩
      go_wp2_with fail
      go_ret
      exact ⟨rfl, Below.refl _ _⟩
    · go_enter Try.func5, Try.ntmps5
      go_wp2_with fail
      refine (specText_any s _ (by omega)).mono ?_
      rintro e w1 ⟨rfl, hb1⟩
      go_wp2_with fail
      refine (implText_any s _ (by omega)).mono ?_
      rintro e w2 ⟨rfl, hb2⟩
      have hb := hb1.trans (hb2.mono hb1.size)
      clear hb1 hb2
      go_wp2_with fail
      go_ret
      exact ⟨rfl, hb⟩

end Go.Proofs.Ytcpblmpapkhppaa
