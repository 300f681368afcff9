/- The drawn texts of steps: spec.l01Src.spoil, spec.DrawStepRead, spec.DrawStepRight. -/
import Derived.Test.YtcckpkcjekcajaaDoorBDraw2
namespace Go.Proofs.YtcckpkcjekcajaaDoor
open Go.RowKit

set_option maxRecDepth 100000 in
/-- A number below most, also where there is one alone. -/
theorem n_any1 (b : Nat) (a : Option Addr) (len cap : Nat) (most : Nat) (w : World) (hS : Src w b a len cap) (hR : Row w a len b) (h1 : 1 ≤ most) (h2 : most ≤ 1000000) :
    Calls Tryd.prog 39 #[.pointer (some ⟨b, 0, none⟩), .int .i64 (most : Int)] w fun e w' => ∃ j : Nat, j < most ∧ e = .returned (.int .i64 (j : Int)) ∧ Src w' b a len cap ∧ Kept b w w' := by
  by_cases h : most = 1
  · subst h
    have HS := Lib.hid hS
    clear hS hR
    go_enter Tryd.func39, Tryd.ntmps39
    go_wp2_with fail
    go_ret
    exact ⟨0, by omega, rfl, HS.out, Kept.refl _ _⟩
  · refine (n_any b a len cap (most : Int) w hS hR (by omega) (by omega)).mono ?_
    rintro e w1 ⟨v, ⟨h0, h1⟩, rfl, hs, hk⟩
    obtain ⟨j, rfl⟩ := Int.eq_ofNat_of_zero_le h0
    exact ⟨j, by omega, rfl, hs, hk⟩
theorem spoilByte (k : Nat) (h : k < 17) : ∃ z : UInt8, ∀ w : World, (Instr.index 9 (.string ⟨#[32, 10, 48, 97, 45, 110, 44, 58, 93, 255, 40, 120, 126, 49, 128, 225, 59]⟩) (.int .i64 (k : Int))).run Tryd.prog w = .ok (.int .u8 (z.toNat : Int)) w := by
  have : k = 0 ∨ k = 1 ∨ k = 2 ∨ k = 3 ∨ k = 4 ∨ k = 5 ∨ k = 6 ∨ k = 7 ∨ k = 8 ∨ k = 9 ∨ k = 10 ∨ k = 11 ∨ k = 12 ∨ k = 13 ∨ k = 14 ∨ k = 15 ∨ k = 16 := by omega
  rcases this with rfl | rfl | rfl | rfl | rfl | rfl | rfl | rfl | rfl | rfl | rfl | rfl | rfl | rfl | rfl | rfl | rfl
  · exact ⟨32, fun w => by kernel_rfl⟩
  · exact ⟨10, fun w => by kernel_rfl⟩
  · exact ⟨48, fun w => by kernel_rfl⟩
  · exact ⟨97, fun w => by kernel_rfl⟩
  · exact ⟨45, fun w => by kernel_rfl⟩
  · exact ⟨110, fun w => by kernel_rfl⟩
  · exact ⟨44, fun w => by kernel_rfl⟩
  · exact ⟨58, fun w => by kernel_rfl⟩
  · exact ⟨93, fun w => by kernel_rfl⟩
  · exact ⟨255, fun w => by kernel_rfl⟩
  · exact ⟨40, fun w => by kernel_rfl⟩
  · exact ⟨120, fun w => by kernel_rfl⟩
  · exact ⟨126, fun w => by kernel_rfl⟩
  · exact ⟨49, fun w => by kernel_rfl⟩
  · exact ⟨128, fun w => by kernel_rfl⟩
  · exact ⟨225, fun w => by kernel_rfl⟩
  · exact ⟨59, fun w => by kernel_rfl⟩
def DrawnT (b : Nat) (a : Option Addr) (len cap : Nat) (m : Nat) (w : World) (e : Ending) (w' : World) : Prop :=
  ∃ s : ByteArray, s.size ≤ m ∧ e = .returned (.string s) ∧ Src w' b a len cap ∧ Kept b w w'
end Go.Proofs.YtcckpkcjekcajaaDoor
