/- The drawn texts of steps: spec.l01Src.spoil, spec.DrawStepRead, spec.DrawStepRight. -/
import Derived.Test.YthkbllkhomjmbaaGreatDoorBDraw2
namespace Go.Proofs.YthkbllkhomjmbaaGreatDoor
open Go.RowKit

set_option maxRecDepth 100000 in
/-- A number below most, also where there is one alone. -/
theorem n_any1 (b : Nat) (a : Option Addr) (len cap : Nat) (most : Nat) (w : World) (hS : Src w b a len cap) (hR : Row w a len b) (h1 : 1 ≤ most) (h2 : most ≤ 1000000) :
    Calls Tryz.prog 47 #[.pointer (some ⟨b, 0, none⟩), .int .i64 (most : Int)] w fun e w' => ∃ j : Nat, j < most ∧ e = .returned (.int .i64 (j : Int)) ∧ Src w' b a len cap ∧ Kept b w w' := by
  by_cases h : most = 1
  · subst h
    have HS := Lib.hid hS
    clear hS hR
    go_enter Tryz.func47, Tryz.ntmps47
    go_wp2_with fail
    go_ret
    exact ⟨0, by omega, rfl, HS.out, Kept.refl _ _⟩
  · refine (n_any b a len cap (most : Int) w hS hR (by omega) (by omega)).mono ?_
    rintro e w1 ⟨v, ⟨h0, h1⟩, rfl, hs, hk⟩
    obtain ⟨j, rfl⟩ := Int.eq_ofNat_of_zero_le h0
    exact ⟨j, by omega, rfl, hs, hk⟩
theorem spoilByte (k : Nat) (h : k < 17) : ∃ z : UInt8, ∀ w : World, (Instr.index 9 (.string ⟨#[32, 10, 48, 97, 45, 110, 44, 58, 93, 255, 40, 120, 126, 49, 128, 225, 59]⟩) (.int .i64 (k : Int))).run Tryz.prog w = .ok (.int .u8 (z.toNat : Int)) w := by
  have : k = 0 ∨ k = 1 ∨ k = 2 ∨ k = 3 ∨ k = 4 ∨ k = 5 ∨ k = 6 ∨ k = 7 ∨ k = 8 ∨ k = 9 ∨ k = 10 ∨ k = 11 ∨ k = 12 ∨ k = 13 ∨ k = 14 ∨ k = 15 ∨ k = 16 := by omega
  rcases this with rfl | rfl | rfl | rfl | rfl | rfl | rfl | rfl | rfl | rfl | rfl | rfl | rfl | rfl | rfl | rfl | rfl
  · exact ⟨32, fun w => by kernel_rfl⟩
  · exact ⟨10, fun w => by kernel_rfl⟩
  · exact ⟨48, fun w => by kernel_rfl⟩
  · exact ⟨97, fun w => by kernel_rfl⟩
  · exact ⟨45, fun w => by kernel_rfl⟩
  · exact ⟨110, fun w => by kernel_rfl⟩
  · exact ⟨44, fun w => by kernel_rfl⟩
  · exact ⟨58, fun w => by kernel_rfl⟩
  · exact ⟨93, fun w => by kernel_rfl⟩
  · exact ⟨255, fun w => by kernel_rfl⟩
  · exact ⟨40, fun w => by kernel_rfl⟩
  · exact ⟨120, fun w => by kernel_rfl⟩
  · exact ⟨126, fun w => by kernel_rfl⟩
  · exact ⟨49, fun w => by kernel_rfl⟩
  · exact ⟨128, fun w => by kernel_rfl⟩
  · exact ⟨225, fun w => by kernel_rfl⟩
  · exact ⟨59, fun w => by kernel_rfl⟩
def DrawnT (b : Nat) (a : Option Addr) (len cap : Nat) (m : Nat) (w : World) (e : Ending) (w' : World) : Prop :=
  ∃ s : ByteArray, s.size ≤ m ∧ e = .returned (.string s) ∧ Src w' b a len cap ∧ Kept b w w'
set_option maxRecDepth 100000 in
set_option maxHeartbeats 4000000 in
theorem spoil_any (b : Nat) (a : Option Addr) (len cap : Nat) (s : ByteArray) (w : World) (hS : Src w b a len cap) (hR : Row w a len b) (hs : s.size ≤ 1000) :
    Calls Tryz.prog 48 #[.pointer (some ⟨b, 0, none⟩), .string s] w (DrawnT b a len cap 1001 w) := by
  have hbl := hS.lt
  have HC := Lib.hid (n_any1 b a len cap (s.size + 1) w hS hR (by omega) (by omega))
  have HR := Lib.hid hR
  clear hS hR
  have m0 : wrap64 ((s.size : Int) + 1) = ((s.size + 1 : Nat) : Int) := by rw [IntWalk.wrap64_in _ (by omega)]; omega
  go_enter Tryz.func48, Tryz.ntmps48
  go_wp2_with fail
  refine HC.out.mono ?_
  rintro e w1 ⟨k, hk, rfl, hs1, hk1⟩
  have S1 := Lib.hid hs1
  have K1 := Lib.hid hk1
  clear hs1 hk1 HC m0
  go_wp2_with fail
  refine (n_any1 b a len cap 17 w1 S1.out (HR.out.kept K1.out) (by omega) (by omega)).mono ?_
  rintro e w2 ⟨v, hv, rfl, hs2, hk2⟩
  obtain ⟨z, hz⟩ := spoilByte v hv
  have S2 := Lib.hid (hs2.below (below_alloc1 w2 (.cells #[.int .u8 (z.toNat : Int)] 5)))
  have K2 := Lib.hid ((K1.out.trans hk2).alloc (.cells #[.int .u8 (z.toNat : Int)] 5))
  have conv := conv_block (c := 1) (w := w2.alloc (.cells #[.int .u8 (z.toNat : Int)] 5)) (g := w2.heap.size) (e := 5) (xs := [.int .u8 (z.toNat : Int)]) (heap_alloc_new w2 _) [z] 1 rfl rfl
  obtain ⟨c, hc⟩ : ∃ c : ByteArray, c = ⟨[z].toArray⟩ := ⟨_, rfl⟩
  have hcs : c.size = 1 := by rw [hc]; rfl
  rw [← hc] at conv
  clear hs2 hk2 S1 K1 hc
  have e0 : (0 : Int) ≤ (k : Int) := by omega
  have e1 : (k : Int) ≤ (s.size : Int) := by omega
  by_cases hks : k = s.size
  · have e2 : ((k : Int) == (s.size : Int)) = true := by simp; omega
    clear hks
    go_wp2_with fail
    go_quiet (fail)
    go_wp2_with fail
    go_ret
    exact ⟨_, by simp [ByteArray.size_append, ByteArray.size_extract]; omega, rfl, S2.out, K2.out.drewN _⟩
  have e2 : ((k : Int) == (s.size : Int)) = false := by simp; omega
  go_wp2_with fail
  refine (one_any b a len cap 3 _ S2.out (HR.out.kept K2.out) (by omega) (by omega)).mono ?_
  rintro e w3 ⟨bb, rfl, hs3, hk3⟩
  have S3 := Lib.hid hs3
  have K3 := Lib.hid (K2.out.trans hk3)
  clear hs3 hk3 S2 K2 conv
  cases bb with
  | true =>
    go_wp2_with fail
    go_quiet (fail)
    go_wp2_with fail
    go_ret
    exact ⟨_, by simp [ByteArray.size_append, ByteArray.size_extract]; omega, rfl, S3.out, K3.out.drewN _⟩
  | false =>
    go_wp2_with fail
    refine (one_any b a len cap 2 _ S3.out (HR.out.kept K3.out) (by omega) (by omega)).mono ?_
    rintro e w4 ⟨cc, rfl, hs4, hk4⟩
    have S4 := Lib.hid hs4
    have K4 := Lib.hid (K3.out.trans hk4)
    have m1 : wrap64 ((k : Int) + 1) = (k : Int) + 1 := IntWalk.wrap64_in _ (by omega)
    have m2 : IntKind.i64.wrap ((k : Int) + 1) = (k : Int) + 1 := IntWalk.i64_in _ (by omega)
    have e3 : (0 : Int) ≤ (k : Int) + 1 := by omega
    have e4 : (k : Int) + 1 ≤ (s.size : Int) := by omega
    clear hs4 hk4 S3 K3
    cases cc with
    | true =>
      go_wp2_with fail
      go_quiet (fail)
      go_wp2_with fail
      go_ret
      exact ⟨_, by simp [ByteArray.size_append, ByteArray.size_extract]; omega, rfl, S4.out, K4.out.drewN _⟩
    | false =>
      go_wp2_with fail
      go_quiet (fail)
      go_wp2_with fail
      go_ret
      exact ⟨_, by simp [ByteArray.size_append, ByteArray.size_extract]; omega, rfl, S4.out, K4.out.drewN _⟩
end Go.Proofs.YthkbllkhomjmbaaGreatDoor
