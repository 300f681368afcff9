/- Rotations of 32-bit words and one round: the model's and the program's. -/
import Derived.Test.YtcckpkcjekcajaaDoorSha
import Derived.Test.YtcckpkcjekcajaaDoorBase
import Derived.Deep.QuietTactic
import Derived.BigQuiet
namespace Go.Proofs.YtcckpkcjekcajaaDoor
open Go.RowKit

theorem w_add (x y : UInt32) : ((x.toNat : Int) + (y.toNat : Int)) % 4294967296 = ((x + y).toNat : Int) := by
  rw [← u32_add, IntKind.wrap_u32]
theorem w_shr (x : UInt32) (k : Nat) (hk : k < 32) : (x.toNat : Int) / 2 ^ k = ((x >>> (UInt32.ofNat k)).toNat : Int) := u32_shr x k hk
theorem w_shl (x : UInt32) (k : Nat) (hk : k < 32) : (x.toNat : Int) * 2 ^ k % 4294967296 = ((x <<< (UInt32.ofNat k)).toNat : Int) := by
  rw [← u32_shl x k hk, IntKind.wrap_u32]
theorem w_rotr (x : UInt32) (k : Nat) (h0 : 1 ≤ k) (h1 : k ≤ 31) : bits BinOp.or IntKind.u32 (x.toNat / 2 ^ k) (x.toNat * 2 ^ (32 - k) % 4294967296) = ((rotr x k).toNat : Int) := by
  rw [w_shr x k (by omega), w_shl x (32 - k) (by omega), u32_or]; rfl

set_option maxHeartbeats 400000 in
theorem rotated_any (x : UInt32) (k : Nat) (w : World) (h0 : 1 ≤ k) (h1 : k ≤ 31) :
    Calls Tryd.prog 93 #[.int .u32 x.toNat, .int .u32 k] w fun e w' => e = .returned (.int .u32 (rotr x k).toNat) ∧ w = w' := by
  have hx := u32_lt x
  go_enter Tryd.func93, Tryd.ntmps93
  go_wp2
  go_ret
  exact ⟨ret_int (w_rotr x k h0 h1), rfl⟩
theorem rotated_at (x : UInt32) (k : Nat) (ki : Int) (w : World) (hk : ki = k) (h0 : 1 ≤ k) (h1 : k ≤ 31) :
    Calls Tryd.prog 93 #[.int .u32 x.toNat, .int .u32 ki] w fun e w' => e = .returned (.int .u32 (rotr x k).toNat) ∧ w = w' := hk ▸ rotated_any x k w h0 h1

set_option maxHeartbeats 400000 in
theorem turn_any (x : UInt32) (k : Nat) (w : World) (h0 : 1 ≤ k) (h1 : k ≤ 31) :
    Calls Tryd.prog 96 #[.int .u32 x.toNat, .int .u64 k] w fun e w' => e = .returned (.int .u32 (rotr x k).toNat) ∧ w = w' := by
  have hx := u32_lt x
  go_enter Tryd.func96, Tryd.ntmps96
  go_wp2
  go_ret
  exact ⟨ret_int (w_rotr x k h0 h1), rfl⟩
theorem turn_at (x : UInt32) (k : Nat) (ki : Int) (w : World) (hk : ki = k) (h0 : 1 ≤ k) (h1 : k ≤ 31) :
    Calls Tryd.prog 96 #[.int .u32 x.toNat, .int .u64 ki] w fun e w' => e = .returned (.int .u32 (rotr x k).toNat) ∧ w = w' := hk ▸ turn_any x k w h0 h1

def V (x : UInt32) : Value := .int .u32 x.toNat
/-- What a round makes of the eight words and the summand. -/
def roundT (e f g h x : UInt32) : UInt32 := h + sum1 e + choose e f g + x
def roundU (a b c : UInt32) : UInt32 := sum0 a + major a b c
def wsum (a b : UInt32) : UInt32 := a + b
theorem w_sum (x y : UInt32) : ((x.toNat : Int) + (y.toNat : Int)) % 4294967296 = ((wsum x y).toNat : Int) := w_add x y
theorem w_max : IntKind.u32.max = ((4294967295 : UInt32).toNat : Int) := by decide
theorem w_choose (e f g : UInt32) : bits BinOp.xor IntKind.u32 (bits BinOp.and IntKind.u32 e.toNat f.toNat) (bits BinOp.and IntKind.u32 (bits BinOp.xor IntKind.u32 IntKind.u32.max e.toNat) g.toNat) = ((choose e f g).toNat : Int) := by
  rw [w_max, u32_xor, u32_and, u32_and, u32_xor]
  have : (4294967295 : UInt32) ^^^ e = ~~~e := UInt32.neg_one_xor
  rw [this]; rfl
theorem w_major (a b c : UInt32) : bits BinOp.xor IntKind.u32 (bits BinOp.xor IntKind.u32 (bits BinOp.and IntKind.u32 a.toNat b.toNat) (bits BinOp.and IntKind.u32 a.toNat c.toNat)) (bits BinOp.and IntKind.u32 b.toNat c.toNat) = ((major a b c).toNat : Int) := by
  rw [u32_and, u32_and, u32_and, u32_xor, u32_xor]; rfl
theorem w_sum1 (e : UInt32) : bits BinOp.xor IntKind.u32 (bits BinOp.xor IntKind.u32 (rotr e 6).toNat (rotr e 11).toNat) (rotr e 25).toNat = ((sum1 e).toNat : Int) := by
  rw [u32_xor, u32_xor]; rfl
theorem w_sum0 (e : UInt32) : bits BinOp.xor IntKind.u32 (bits BinOp.xor IntKind.u32 (rotr e 2).toNat (rotr e 13).toNat) (rotr e 22).toNat = ((sum0 e).toNat : Int) := by
  rw [u32_xor, u32_xor]; rfl
theorem w_roundT (e f g h x : UInt32) : ((h.toNat : Int) + (sum1 e).toNat + (choose e f g).toNat + x.toNat) % 4294967296 = ((roundT e f g h x).toNat : Int) := by
  unfold roundT; rw [← w_add, ← w_add, ← w_add]; omega
theorem w_roundU (a b c : UInt32) : (((sum0 a).toNat : Int) + (major a b c).toNat) % 4294967296 = ((roundU a b c).toNat : Int) := w_add _ _

theorem w_newA (a b c e f g h x : UInt32) : ((h.toNat : Int) + (sum1 e).toNat + (choose e f g).toNat + x.toNat + (roundU a b c).toNat) % 4294967296 = ((wsum (roundT e f g h x) (roundU a b c)).toNat : Int) := by
  rw [← w_sum, ← w_roundT]; omega
theorem w_newE (d e f g h x : UInt32) : ((d.toNat : Int) + ((h.toNat : Int) + (sum1 e).toNat + (choose e f g).toNat + x.toNat)) % 4294967296 = ((wsum d (roundT e f g h x)).toNat : Int) := by
  rw [← w_sum, ← w_roundT]; omega

set_option maxHeartbeats 1000000 in
theorem round_any (a b c d e f g k x : UInt32) (w : World) :
    Calls Tryd.prog 87 #[.agg #[V a, V b, V c, V d, V e, V f, V g, V k], V x] w fun r w' =>
      r = .returned (.agg #[V (wsum (roundT e f g k x) (roundU a b c)), V a, V b, V c, V (wsum d (roundT e f g k x)), V e, V f, V g]) ∧ Below w.heap.size w w' := by
  have h1 := w_choose e f g
  have h2 := w_major a b c
  have h3 := w_sum1 e
  have h4 := w_sum0 a
  have h6 := w_roundU a b c
  have H7 := Lib.hid (w_newA a b c e f g k x)
  have H8 := Lib.hid (w_newE d e f g k x)
  unfold V
  go_enter Tryd.func87, Tryd.ntmps87
  go_wp2_with fail
  go_quiet (fail)
  go_wp2_with fail
  go_quiet (fail)
  go_wp2_with ((go_at_call 93); (first | (with_reducible refine (rotated_at _ 6 6 _ rfl (by decide) (by decide)).mono ?_) | (with_reducible refine (rotated_at _ 11 11 _ rfl (by decide) (by decide)).mono ?_) | (with_reducible refine (rotated_at _ 25 25 _ rfl (by decide) (by decide)).mono ?_) | (with_reducible refine (rotated_at _ 2 2 _ rfl (by decide) (by decide)).mono ?_) | (with_reducible refine (rotated_at _ 13 13 _ rfl (by decide) (by decide)).mono ?_) | (with_reducible refine (rotated_at _ 22 22 _ rfl (by decide) (by decide)).mono ?_)); rintro r w' ⟨rfl, rfl⟩)
  refine bodyPost_ret (v := .agg #[.int .u32 (wsum (roundT e f g k x) (roundU a b c)).toNat, .int .u32 a.toNat, .int .u32 b.toNat, .int .u32 c.toNat, .int .u32 (wsum d (roundT e f g k x)).toNat, .int .u32 e.toNat, .int .u32 f.toNat, .int .u32 g.toNat]) (by simp [results, Tryd.results87, go_sem, H7.out, H8.out]) rfl ⟨rfl, ?_⟩
  iterate 8 (refine Below.setCell ?_ (Nat.le_succ _) _)
  exact below_drewN (((Below.refl _ _).alloc (Nat.le_refl _) _).alloc (by simp) _) _
end Go.Proofs.YtcckpkcjekcajaaDoor
