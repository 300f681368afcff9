/- The law FnDigest: model and program answer alike on what is drawn, in 32 bytes. -/
import Derived.Test.YtenekofkbjdepaaDoorSome
import Derived.Test.YtenekofkbjdepaaDoorDLaw
namespace Go.Proofs.YtenekofkbjdepaaDoor
open Go.RowKit

set_option maxHeartbeats 1000000 in
theorem drawDigest_any (a : Option Addr) (len cap : Nat) (w : World) (hB : Bytes w a len) (hl : len ≤ 1048576) :
    Calls Tryd.prog 5 #[.slice a len cap] w (SomeS (fun s => s.size ≤ 199) w) := by
  have HB := Lib.hid hB
  clear hB
  go_enter Tryd.func5, Tryd.ntmps5
  go_wp2_with fail
  refine (source_any a len cap _ HB.out hl).mono ?_
  rintro e w1 ⟨rfl, hs1, hb1⟩
  have HS1 := Lib.hid hs1
  have HB1 := Lib.hid hb1
  have HR1 := Lib.hid (HB.out.row hb1 (Nat.le_refl _))
  clear hs1 hb1
  go_wp2_with fail
  refine (n_any w.heap.size a len cap 200 _ HS1.out HR1.out (by omega) (by omega)).mono ?_
  rintro e w2 ⟨n, ⟨hn0, hn1⟩, rfl, hs2, hk2⟩
  obtain ⟨n, rfl⟩ := Int.eq_ofNat_of_zero_le hn0
  have HS2 := Lib.hid hs2
  have HR2 := Lib.hid (HR1.out.kept hk2)
  have HB2 := Lib.hid (HB1.out.trans (hk2.below (Nat.le_refl _) HB1.out.size))
  clear hs2 hk2
  go_wp2_with fail
  refine (bytes_any w.heap.size a len cap n _ HS2.out HR2.out (by omega)).mono ?_
  rintro e w3 ⟨s, hs, rfl, hs3, hk3⟩
  have HZ := Lib.hid hs
  have HB3 := Lib.hid (HB2.out.trans (hk3.below (Nat.le_refl _) HB2.out.size))
  clear hs hs3 hk3
  go_wp2_with fail
  go_ret
  exact ⟨s, (show s.size ≤ 199 by rw [HZ.out]; omega), rfl, HB3.out⟩

set_option maxHeartbeats 1000000 in
theorem digestLaw_any (a : Option Addr) (len cap : Nat) (w : World) (hB : Bytes w a len) (hm : len ≤ maxLen) (hl : Laid w) :
    Calls Tryd.prog 3 #[.slice a len cap] w fun e w' => e = .returned (.bool true) ∧ Below w.heap.size w w' := by
  unfold maxLen at hm
  have HB := Lib.hid hB
  have HL := Lib.hid hl
  clear hB hl
  by_cases h : 1048576 < len
  · go_enter Tryd.func3, Tryd.ntmps3
    go_wp2_with fail
    go_ret
    exact ⟨rfl, Below.refl _ _⟩
  · go_enter Tryd.func3, Tryd.ntmps3
    go_wp2_with fail
    refine (drawDigest_any a len cap _ HB.out (by omega)).mono ?_
    rintro e w1 ⟨s, hs, rfl, hb1⟩
    have h32 := digS_size s
    have h32' : (((digS s).size : Int) == 32) = true := by rw [h32]; rfl
    have HB1 := Lib.hid hb1
    have hl1 := Lib.hid (HL.out.below hb1 HL.out.two)
    clear hb1 h32
    go_wp2_with fail
    refine (implDigest_any s _ (by omega) hl1.out).mono ?_
    rintro e w2 ⟨rfl, hb2⟩
    have HB2 := Lib.hid (HB1.out.trans (hb2.mono HB1.out.size))
    clear hb2
    go_wp2_with fail
    refine (specDigest_any s _ (by omega)).mono ?_
    rintro e w3 ⟨rfl, hb3⟩
    have HB3 := Lib.hid (HB2.out.trans (hb3.mono HB2.out.size))
    have hl3 := Lib.hid (HL.out.below HB3.out HL.out.two)
    clear hb3
    go_wp2_with fail
    refine (implDigest_any s _ (by omega) hl3.out).mono ?_
    rintro e w4 ⟨rfl, hb4⟩
    have HB4 := Lib.hid (HB3.out.trans (hb4.mono HB3.out.size))
    clear hb4
    go_wp2_with fail
    go_ret
    exact ⟨rfl, HB4.out⟩
end Go.Proofs.YtenekofkbjdepaaDoor
