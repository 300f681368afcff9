/- What the law FnSeal draws: a string that is short or too long, a CRC and a short string, a place and a byte. -/
import Derived.Test.YthkbllkhomjmbaaDoorSome
import Derived.Test.YthkbllkhomjmbaaDoorEdge
import Derived.Test.YthkbllkhomjmbaaDoorSeal
namespace Go.Proofs.YthkbllkhomjmbaaDoor
open Go.RowKit

set_option maxHeartbeats 1000000 in
theorem drawSeal_any (a : Option Addr) (len cap : Nat) (w : World) (hB : Bytes w a len) (hl : len ≤ 1048576) :
    Calls Tryd.prog 19 #[.slice a len cap] w (SomeS (fun s => s.size ≤ 19 ∨ 19995 ≤ s.size ∧ s.size ≤ 19997) w) := by
  obtain ⟨i0, hi, hz0, hz1, hz2⟩ := info_parts Tryd.info5
  have HB := Lib.hid hB
  clear hB
  go_enter Tryd.func19, Tryd.ntmps19
  go_wp2_with fail
  refine (source_any a len cap _ HB.out hl).mono ?_
  rintro e w1 ⟨rfl, hs1, hb1⟩
  have HS1 := Lib.hid hs1
  have HB1 := Lib.hid hb1
  have HR1 := Lib.hid (HB.out.row hb1 (Nat.le_refl _))
  have hz : w.heap.size < w1.heap.size := hs1.lt
  clear hs1 hb1
  go_wp2_with fail
  refine (one_any w.heap.size a len cap 30 _ HS1.out HR1.out (by omega) (by omega)).mono ?_
  rintro e w2 ⟨v, rfl, hs2, hk2⟩
  have HS2 := Lib.hid hs2
  have HK2 := Lib.hid hk2
  have HR2 := Lib.hid (HR1.out.kept hk2)
  have HB2 := Lib.hid (HB1.out.trans (hk2.below (Nat.le_refl _) (Nat.le_of_lt hz)))
  clear hs2 hk2 HS1 HR1 HB1
  cases v
  · go_wp2_with fail
    refine (n_any w.heap.size a len cap 20 _ HS2.out HR2.out (by omega) (by omega)).mono ?_
    rintro e w3 ⟨n, ⟨hn0, hn1⟩, rfl, hs3, hk3⟩
    obtain ⟨n, rfl⟩ := Int.eq_ofNat_of_zero_le hn0
    have HS3 := Lib.hid hs3
    have HR3 := Lib.hid (HR2.out.kept hk3)
    have HB3 := Lib.hid (HB2.out.trans (hk3.below (Nat.le_refl _) HB2.out.size))
    clear hs3 hk3
    go_wp2_with fail
    refine (bytes_any w.heap.size a len cap n _ HS3.out HR3.out (by omega)).mono ?_
    rintro e w4 ⟨s, hs, rfl, hs4, hk4⟩
    have HZ := Lib.hid hs
    have HB4 := Lib.hid (HB3.out.trans (hk4.below (Nat.le_refl _) HB3.out.size))
    clear hs hs4 hk4
    go_wp2_with fail
    go_ret
    exact ⟨s, .inl (by rw [HZ.out]; omega), rfl, HB4.out⟩
  · go_wp2_with fail
    refine (n_any w.heap.size a len cap 3 _ HS2.out HR2.out (by omega) (by omega)).mono ?_
    rintro e w3 ⟨n, ⟨hn0, hn1⟩, rfl, hs3, hk3⟩
    obtain ⟨n, rfl⟩ := Int.eq_ofNat_of_zero_le hn0
    have HB3 := Lib.hid (HB2.out.trans (hk3.below (Nat.le_refl _) HB2.out.size))
    have hsz := HB3.out.size
    clear hs3 hk3
    go_wp2_with (at_make; refine wpList_make_full _ rfl _ _ 22 rfl w.heap.size 5 i0 (.int .u8 0) 1 Tryd.underlying22 hi hz0 hz1 .i64 .i64 _ _ (19995 + n) rfl rfl (by omega) (by omega) (by rw [hz2]; omega) (by unfold maxLen; omega) hsz ?_)
    intro w4 hown hgrow
    have conv := conv_row (c := 19995 + n) hown (List.replicate (19995 + n) (0 : UInt8)) (19995 + n) (by simp) (Nat.le_refl _) (by simpa using zeros (19995 + n))
    obtain ⟨str, hstr⟩ : ∃ str : ByteArray, str = ⟨(List.replicate (19995 + n) (0 : UInt8)).toArray⟩ := ⟨_, rfl⟩
    have HZ := Lib.hid (show str.size = 19995 + n by rw [hstr]; simp [ByteArray.size])
    rw [← hstr] at conv
    have HB4 := Lib.hid (HB3.out.grown hgrow hsz (by simp))
    clear hstr hown hgrow
    go_wp2_with fail
    go_ret
    exact ⟨str, .inr (by rw [HZ.out]; omega), rfl, HB4.out⟩

/-- A CRC and a short string. -/
def SomePair (w : World) (e : Ending) (w' : World) : Prop :=
  ∃ (c : Int) (s : ByteArray), s.size ≤ 8 ∧ -9223372036854775808 ≤ c ∧ c ≤ 9223372036854775807 ∧ e = .returned (.tuple #[.int .i64 c, .string s]) ∧ Below w.heap.size w w'

set_option maxHeartbeats 1000000 in
theorem drawMore_any (a : Option Addr) (len cap : Nat) (w : World) (hB : Bytes w a len) (hl : len ≤ 1048576) :
    Calls Tryd.prog 24 #[.slice a len cap] w (SomePair w) := by
  have HB := Lib.hid hB
  clear hB
  go_enter Tryd.func24, Tryd.ntmps24
  go_wp2_with fail
  refine (source_any a len cap _ HB.out hl).mono ?_
  rintro e w1 ⟨rfl, hs1, hb1⟩
  have HS1 := Lib.hid hs1
  have HB1 := Lib.hid hb1
  have HR1 := Lib.hid (HB.out.row hb1 (Nat.le_refl _))
  clear hs1 hb1
  go_wp2_with fail
  refine (n_any w.heap.size a len cap 9 _ HS1.out HR1.out (by omega) (by omega)).mono ?_
  rintro e w2 ⟨n, ⟨hn0, hn1⟩, rfl, hs2, hk2⟩
  obtain ⟨n, rfl⟩ := Int.eq_ofNat_of_zero_le hn0
  have HS2 := Lib.hid hs2
  have HR2 := Lib.hid (HR1.out.kept hk2)
  have HB2 := Lib.hid (HB1.out.trans (hk2.below (Nat.le_refl _) HB1.out.size))
  clear hs2 hk2
  go_wp2_with fail
  refine (bytes_any w.heap.size a len cap n _ HS2.out HR2.out (by omega)).mono ?_
  rintro e w3 ⟨s, hs, rfl, hs3, hk3⟩
  have HZ := Lib.hid hs
  have HS3 := Lib.hid hs3
  have HR3 := Lib.hid (HR2.out.kept hk3)
  have HB3 := Lib.hid (HB2.out.trans (hk3.below (Nat.le_refl _) HB2.out.size))
  clear hs hs3 hk3
  go_wp2_with fail
  refine (one_any w.heap.size a len cap 5 _ HS3.out HR3.out (by omega) (by omega)).mono ?_
  rintro e w4 ⟨v, rfl, hs4, hk4⟩
  have HS4 := Lib.hid hs4
  have HR4 := Lib.hid (HR3.out.kept hk4)
  have HB4 := Lib.hid (HB3.out.trans (hk4.below (Nat.le_refl _) HB3.out.size))
  clear hs4 hk4
  cases v
  · go_wp2_with fail
    refine (n_any w.heap.size a len cap 9 _ HS4.out HR4.out (by omega) (by omega)).mono ?_
    rintro e w5 ⟨m, ⟨hm0, hm1⟩, rfl, hs5, hk5⟩
    obtain ⟨m, rfl⟩ := Int.eq_ofNat_of_zero_le hm0
    have HS5 := Lib.hid hs5
    have HR5 := Lib.hid (HR4.out.kept hk5)
    have HB5 := Lib.hid (HB4.out.trans (hk5.below (Nat.le_refl _) HB4.out.size))
    clear hs5 hk5
    go_wp2_with fail
    refine (bytes_any w.heap.size a len cap m _ HS5.out HR5.out (by omega)).mono ?_
    rintro e w6 ⟨t, ht, rfl, hs6, hk6⟩
    have HT := Lib.hid (show t.size ≤ 8000 by omega)
    have HB6 := Lib.hid (HB5.out.trans (hk6.below (Nat.le_refl _) HB5.out.size))
    clear ht hs6 hk6
    go_wp2_with fail
    refine (specCrc1_any t _ HT.out).mono ?_
    rintro e w7 ⟨rfl, rfl⟩
    go_wp2_with fail
    go_ret2
    have hb := crcF_bound 0 t
    exact ⟨_, s, by rw [HZ.out]; omega, by omega, by omega, rfl, HB6.out⟩
  · go_wp2_with fail
    refine (edge_any w.heap.size a len cap _ HS4.out HR4.out).mono ?_
    rintro e w5 ⟨c, ⟨hc0, hc1⟩, rfl, hs5, hk5⟩
    have HB5 := Lib.hid (HB4.out.trans (hk5.below (Nat.le_refl _) HB4.out.size))
    clear hs5 hk5
    go_wp2_with fail
    go_ret2
    exact ⟨c, s, by rw [HZ.out]; omega, hc0, hc1, rfl, HB5.out⟩

set_option maxHeartbeats 400000 in
theorem lwAt_any (a : Option Addr) (len cap : Nat) (k : Nat) (most : Int) (w : World) (hB : Bytes w a len) (hl : len ≤ 1048576) (hk : k ≤ 1) (h1 : 1 < most) (h2 : most ≤ 9223372036854775807) :
    Calls Tryd.prog 22 #[.slice a len cap, .int .i64 (k : Int), .int .i64 most] w (SomeN (fun v => 0 ≤ v ∧ v < most) w) := by
  by_cases h0 : len = 0
  · subst h0
    go_enter Tryd.func22, Tryd.ntmps22
    go_wp2_with fail
    go_ret
    exact ⟨0, ⟨by omega, by omega⟩, rfl, rfl⟩
  · obtain ⟨x, rfl, hs, hxl, hc⟩ := hB (by omega)
    obtain ⟨xb, xo, xs⟩ := x
    simp only at hs hxl hc
    subst hs
    have e0 : ((len : Int) == 0) = false := by simp; omega
    have hk2 : k = 0 ∨ k = 1 ∧ len = 1 ∨ k = 1 ∧ 2 ≤ len := by omega
    rcases hk2 with rfl | ⟨rfl, rfl⟩ | ⟨rfl, h2l⟩
    · obtain ⟨z, hz, hcz⟩ := hc 0 (by omega)
      simp only [Nat.add_zero] at hcz
      clear hc
      have hp : (0 : Int) < (len : Int) := by omega
      have hm : Int.tmod 0 (len : Int) = 0 := by simp
      go_enter Tryd.func22, Tryd.ntmps22
      go_wp2_with fail
      go_ret
      exact ⟨_, ⟨Int.emod_nonneg _ (by omega), Int.emod_lt_of_pos _ (by omega)⟩, rfl, rfl⟩
    · obtain ⟨z, hz, hcz⟩ := hc 0 (by omega)
      simp only [Nat.add_zero] at hcz
      clear hc
      go_enter Tryd.func22, Tryd.ntmps22
      go_wp2_with fail
      go_ret
      exact ⟨_, ⟨Int.emod_nonneg _ (by omega), Int.emod_lt_of_pos _ (by omega)⟩, rfl, rfl⟩
    · obtain ⟨z, hz, hcz⟩ := hc 1 (by omega)
      clear hc
      have hp : (1 : Int) < (len : Int) := by omega
      have hm : (1 : Int) % (len : Int) = 1 := Int.emod_eq_of_lt (by omega) hp
      go_enter Tryd.func22, Tryd.ntmps22
      go_wp2_with fail
      go_ret
      exact ⟨_, ⟨Int.emod_nonneg _ (by omega), Int.emod_lt_of_pos _ (by omega)⟩, rfl, rfl⟩
end Go.Proofs.YthkbllkhomjmbaaDoor
