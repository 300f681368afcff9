/- What the law FnNums draws: a number, a text that is short or too long. -/
import Derived.Test.YthkbllkhomjmbaaDoorSome
import Derived.Test.YthkbllkhomjmbaaDoorEdge
import Derived.Test.YthkbllkhomjmbaaDoorPut
namespace Go.Proofs.YthkbllkhomjmbaaDoor
open Go.RowKit

set_option maxHeartbeats 400000 in
theorem l01Any_any (b : Nat) (a : Option Addr) (len cap : Nat) (w : World) (hS : Src w b a len cap) (hR : Row w a len b) :
    Calls Tryd.prog 59 #[.pointer (some ⟨b, 0, none⟩)] w (Drawn b a len cap (fun v => -9223372036854775808 ≤ v ∧ v ≤ 9223372036854775807) w) := by
  have HS := Lib.hid hS
  have HR := Lib.hid hR
  clear hS hR
  go_enter Tryd.func59, Tryd.ntmps59
  go_wp2_with fail
  refine (one_any b a len cap 4 _ HS.out HR.out (by omega) (by omega)).mono ?_
  rintro e w2 ⟨v, rfl, hs2, hk2⟩
  have HS2 := Lib.hid hs2
  have HK2 := Lib.hid hk2
  have HR2 := Lib.hid (HR.out.kept hk2)
  clear hs2 hk2
  cases v
  · go_wp2_with fail
    refine (n_any b a len cap 1099511627776 _ HS2.out HR2.out (by omega) (by omega)).mono ?_
    rintro e w3 ⟨n, ⟨hn0, hn1⟩, rfl, hs3, hk3⟩
    have HS3 := Lib.hid hs3
    have HK3 := Lib.hid (HK2.out.trans hk3)
    clear hs3 hk3
    go_wp2_with fail
    go_ret
    exact ⟨_, ⟨by omega, by omega⟩, rfl, HS3.out, HK3.out⟩
  · go_wp2_with fail
    refine (edge_any b a len cap _ HS2.out HR2.out).mono ?_
    rintro e w3 ⟨n, hn, rfl, hs3, hk3⟩
    have HS3 := Lib.hid hs3
    have HK3 := Lib.hid (HK2.out.trans hk3)
    clear hs3 hk3
    go_wp2_with fail
    go_ret
    exact ⟨_, hn, rfl, HS3.out, HK3.out⟩

/-- A number of which P holds; what was there is as it was. -/
def SomeM (P : Int → Prop) (w : World) (e : Ending) (w' : World) : Prop := ∃ v, P v ∧ e = .returned (.int .i64 v) ∧ Below w.heap.size w w'

set_option maxHeartbeats 400000 in
theorem drawPutNum_any (a : Option Addr) (len cap : Nat) (w : World) (hB : Bytes w a len) (hl : len ≤ 1048576) :
    Calls Tryd.prog 11 #[.slice a len cap] w (SomeM (fun v => -9223372036854775808 ≤ v ∧ v ≤ 9223372036854775807) w) := by
  have HB := Lib.hid hB
  clear hB
  go_enter Tryd.func11, Tryd.ntmps11
  go_wp2_with fail
  refine (source_any a len cap _ HB.out hl).mono ?_
  rintro e w1 ⟨rfl, hs1, hb1⟩
  have HS1 := Lib.hid hs1
  have HB1 := Lib.hid hb1
  have HR1 := Lib.hid (HB.out.row hb1 (Nat.le_refl _))
  clear hs1 hb1
  go_wp2_with fail
  refine (l01Any_any w.heap.size a len cap _ HS1.out HR1.out).mono ?_
  rintro e w2 ⟨n, hn, rfl, hs2, hk2⟩
  have HB2 := Lib.hid (HB1.out.trans (hk2.below (Nat.le_refl _) HB1.out.size))
  clear hs2 hk2
  go_wp2_with fail
  go_ret
  exact ⟨_, hn, rfl, HB2.out⟩

set_option maxHeartbeats 1000000 in
theorem drawPutText_any (a : Option Addr) (len cap : Nat) (w : World) (hB : Bytes w a len) (hl : len ≤ 1048576) :
    Calls Tryd.prog 15 #[.slice a len cap] w (SomeS (fun s => s.size ≤ 19 ∨ 19999 ≤ s.size ∧ s.size ≤ 20001) w) := by
  obtain ⟨i0, hi, hz0, hz1, hz2⟩ := info_parts Tryd.info5
  have HB := Lib.hid hB
  clear hB
  go_enter Tryd.func15, Tryd.ntmps15
  go_wp2_with fail
  refine (source_any a len cap _ HB.out hl).mono ?_
  rintro e w1 ⟨rfl, hs1, hb1⟩
  have HS1 := Lib.hid hs1
  have HB1 := Lib.hid hb1
  have HR1 := Lib.hid (HB.out.row hb1 (Nat.le_refl _))
  have hz : w.heap.size < w1.heap.size := hs1.lt
  clear hs1 hb1
  go_wp2_with fail
  refine (one_any w.heap.size a len cap 8 _ HS1.out HR1.out (by omega) (by omega)).mono ?_
  rintro e w2 ⟨v, rfl, hs2, hk2⟩
  have HS2 := Lib.hid hs2
  have HK2 := Lib.hid hk2
  have HR2 := Lib.hid (HR1.out.kept hk2)
  have HB2 := Lib.hid (HB1.out.trans (hk2.below (Nat.le_refl _) (Nat.le_of_lt hz)))
  clear hs2 hk2 HS1 HR1 HB1
  cases v
  · go_wp2_with fail
    refine (n_any w.heap.size a len cap 20 _ HS2.out HR2.out (by omega) (by omega)).mono ?_
    rintro e w3 ⟨n, ⟨hn0, hn1⟩, rfl, hs3, hk3⟩
    obtain ⟨n, rfl⟩ := Int.eq_ofNat_of_zero_le hn0
    have HS3 := Lib.hid hs3
    have HR3 := Lib.hid (HR2.out.kept hk3)
    have HB3 := Lib.hid (HB2.out.trans (hk3.below (Nat.le_refl _) HB2.out.size))
    clear hs3 hk3
    go_wp2_with fail
    refine (bytes_any w.heap.size a len cap n _ HS3.out HR3.out (by omega)).mono ?_
    rintro e w4 ⟨s, hs, rfl, hs4, hk4⟩
    have HZ := Lib.hid hs
    have HB4 := Lib.hid (HB3.out.trans (hk4.below (Nat.le_refl _) HB3.out.size))
    clear hs hs4 hk4
    go_wp2_with fail
    go_ret
    exact ⟨s, .inl (by rw [HZ.out]; omega), rfl, HB4.out⟩
  · go_wp2_with fail
    refine (n_any w.heap.size a len cap 3 _ HS2.out HR2.out (by omega) (by omega)).mono ?_
    rintro e w3 ⟨n, ⟨hn0, hn1⟩, rfl, hs3, hk3⟩
    obtain ⟨n, rfl⟩ := Int.eq_ofNat_of_zero_le hn0
    have HB3 := Lib.hid (HB2.out.trans (hk3.below (Nat.le_refl _) HB2.out.size))
    have hsz := HB3.out.size
    clear hs3 hk3
    go_wp2_with (at_make; refine wpList_make_full _ rfl _ _ 22 rfl w.heap.size 5 i0 (.int .u8 0) 1 Tryd.underlying22 hi hz0 hz1 .i64 .i64 _ _ (19999 + n) rfl rfl (by omega) (by omega) (by rw [hz2]; omega) (by unfold maxLen; omega) hsz ?_)
    intro w4 hown hgrow
    have conv := conv_row (c := 19999 + n) hown (List.replicate (19999 + n) (0 : UInt8)) (19999 + n) (by simp) (Nat.le_refl _) (by simpa using zeros (19999 + n))
    obtain ⟨str, hstr⟩ : ∃ str : ByteArray, str = ⟨(List.replicate (19999 + n) (0 : UInt8)).toArray⟩ := ⟨_, rfl⟩
    have HZ := Lib.hid (show str.size = 19999 + n by rw [hstr]; simp [ByteArray.size])
    rw [← hstr] at conv
    have HB4 := Lib.hid (HB3.out.grown hgrow hsz (by simp))
    clear hstr hown hgrow
    go_wp2_with fail
    go_ret
    exact ⟨str, .inr (by rw [HZ.out]; omega), rfl, HB4.out⟩

end Go.Proofs.YthkbllkhomjmbaaDoor
