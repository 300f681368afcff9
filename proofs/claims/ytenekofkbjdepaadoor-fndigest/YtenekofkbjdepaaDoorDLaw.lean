/- The law FnExactDigest: model and program answer alike. -/
import Derived.Test.YtenekofkbjdepaaDoorDSAll
namespace Go.Proofs.YtenekofkbjdepaaDoor
open Go.RowKit

def digS (s : ByteArray) : ByteArray := ⟨(sha key start s.data.toList).toArray⟩
theorem digS_size (s : ByteArray) : (digS s).size = 32 := by
  show (sha key start s.data.toList).toArray.size = 32
  rw [List.size_toArray, sha_length]

set_option maxHeartbeats 400000 in
theorem specDigest_any (s : ByteArray) (w : World) (h : s.size ≤ 8000) :
    Calls Tryd.prog 7 #[.string s] w fun e w' => e = .returned (.string (digS s)) ∧ Below w.heap.size w w' := by
  have d1 : decide ((8000 : Int) < (s.size : Int)) = false := decide_eq_false (by omega)
  go_enter Tryd.func7, Tryd.ntmps7
  go_wp2_with fail
  refine (specAll s _ h).mono ?_
  rintro e w1 ⟨rfl, hb1⟩
  go_wp2_with fail
  go_ret
  exact ⟨rfl, hb1⟩
set_option maxHeartbeats 400000 in
theorem specDigest_long (s : ByteArray) (w : World) (hs : s.size ≤ maxLen) (h : 8000 < s.size) :
    Calls Tryd.prog 7 #[.string s] w fun e w' => e = .returned (.string ⟨#[]⟩) ∧ w = w' := by
  unfold maxLen at hs
  go_enter Tryd.func7, Tryd.ntmps7
  go_wp2_with fail
  go_ret
  exact ⟨rfl, rfl⟩
theorem implDigest_any (s : ByteArray) (w : World) (h : s.size ≤ 8000) (hl : Laid w) :
    Calls Tryd.prog 6 #[.string s] w fun e w' => e = .returned (.string (digS s)) ∧ Below w.heap.size w w' := digest_any s w h hl

set_option maxHeartbeats 400000 in
theorem digestLaw (s : ByteArray) (w : World) (hs : s.size ≤ maxLen) (hl : Laid w) :
    Calls Tryd.prog 4 #[.string s] w fun e w' => e = .returned (.bool true) ∧ Below w.heap.size w w' := by
  by_cases h : 1048576 < s.size
  · unfold maxLen at hs
    clear hl
    go_enter Tryd.func4, Tryd.ntmps4
    go_wp2_with fail
    go_ret
    exact ⟨rfl, Below.refl _ _⟩
  · have HS := Lib.hid hs
    unfold maxLen at hs
    by_cases h8 : 8000 < s.size
    · clear hl
      go_enter Tryd.func4, Tryd.ntmps4
      go_wp2_with fail
      refine (specDigest_long s _ HS.out h8).mono ?_
      rintro e w' ⟨rfl, rfl⟩
      go_wp2_with fail
      refine (digest_long s _ HS.out h8).mono ?_
      rintro e w' ⟨rfl, rfl⟩
      go_wp2_with fail
      go_ret
      exact ⟨rfl, Below.refl _ _⟩
    · have HL := Lib.hid hl
      clear hl
      go_enter Tryd.func4, Tryd.ntmps4
      go_wp2_with fail
      refine (specDigest_any s _ (by omega)).mono ?_
      rintro e w1 ⟨rfl, hb1⟩
      go_wp2_with fail
      refine (implDigest_any s _ (by omega) (HL.out.below hb1 HL.out.two)).mono ?_
      rintro e w2 ⟨rfl, hb2⟩
      have hb := hb1.trans (hb2.mono hb1.size)
      clear hb1 hb2
      go_wp2_with fail
      go_ret
      exact ⟨rfl, hb⟩
end Go.Proofs.YtenekofkbjdepaaDoor
