/- Plain facts on decoding a zigzag varint; nothing of the program. -/
import Derived.Lib.Zigzag
import Derived.Laws.Bits64b
import Derived.Test.YthkbllkhomjmbaaDoorVar
namespace Go.Proofs.YthkbllkhomjmbaaDoor
open Go

def byt (s : ByteArray) (j : Nat) : Nat := (s.data.getD j 0).toNat
theorem byt_at (s : ByteArray) (k : Nat) (h : k < s.size) : s[k].toNat = byt s k := by
  unfold byt
  have : s.data.getD k 0 = s[k] := by
    simp [Array.getD, h]; rfl
  rw [this]
theorem byt_lt (s : ByteArray) (k : Nat) : byt s k < 256 := UInt8.toNat_lt _

/-- The number that a folded one stands for. -/
def unz (v : Nat) : Int := if v % 2 = 1 then -((v / 2 : Nat) : Int) - 1 else ((v / 2 : Nat) : Int)
def addU (u c k : Nat) : Nat := u + c % 128 * 2 ^ (7 * k)

/-- What decoding gives from byte i on, u being what was read: the number, the place behind it, the code. -/
def goN (s : ByteArray) (a : Nat) : Nat → Nat → Nat → Int × Int × Int
  | 0, _, _ => (0, 0, 3)
  | f + 1, i, u =>
    if s.size ≤ a + i then (0, 0, 4)
    else if i = 9 ∧ 1 < byt s (a + i) then (0, 0, 3)
    else if 128 ≤ byt s (a + i) then goN s a f (i + 1) (addU u (byt s (a + i)) i)
    else if byt s (a + i) = 0 ∧ 0 < i then (0, 0, 3)
    else (unz (addU u (byt s (a + i)) i), (a : Int) + i + 1, 0)

theorem goN_short {s : ByteArray} {a f i u : Nat} (h : s.size ≤ a + i) : goN s a (f + 1) i u = (0, 0, 4) := by rw [goN, if_pos h]
theorem goN_ten {s : ByteArray} {a f i u : Nat} (h : ¬ s.size ≤ a + i) (h9 : i = 9) (hc : 1 < byt s (a + i)) : goN s a (f + 1) i u = (0, 0, 3) := by
  rw [goN, if_neg h, if_pos ⟨h9, hc⟩]
theorem goN_more {s : ByteArray} {a f i u : Nat} (h : ¬ s.size ≤ a + i) (h9 : i < 9) (hc : 128 ≤ byt s (a + i)) : goN s a (f + 1) i u = goN s a f (i + 1) (addU u (byt s (a + i)) i) := by
  rw [goN, if_neg h, if_neg (by omega), if_pos hc]
theorem goN_long {s : ByteArray} {a f i u : Nat} (h : ¬ s.size ≤ a + i) (hc : byt s (a + i) = 0) (hi : 0 < i) : goN s a (f + 1) i u = (0, 0, 3) := by
  rw [goN, if_neg h, if_neg (by omega), if_neg (by omega), if_pos ⟨hc, hi⟩]
theorem goN_last {s : ByteArray} {a f i u : Nat} (h : ¬ s.size ≤ a + i) (h9 : ¬ (i = 9 ∧ 1 < byt s (a + i))) (hc : byt s (a + i) < 128) (h0 : ¬ (byt s (a + i) = 0 ∧ 0 < i)) :
    goN s a (f + 1) i u = (unz (addU u (byt s (a + i)) i), (a : Int) + i + 1, 0) := by
  rw [goN, if_neg h, if_neg h9, if_neg (by omega), if_neg h0]

theorem pow_small (k : Nat) (h : k ≤ 8) : 2 ^ (7 * k) ≤ 72057594037927936 := by
  calc 2 ^ (7 * k) ≤ 2 ^ 56 := Nat.pow_le_pow_right (by decide) (by omega)
    _ = 72057594037927936 := by decide
theorem addU_lt (u c k : Nat) (hu : u < 2 ^ (7 * k)) : addU u c k < 2 ^ (7 * (k + 1)) := by
  unfold addU
  have e : 2 ^ (7 * (k + 1)) = 128 * 2 ^ (7 * k) := by rw [show 7 * (k + 1) = 7 + 7 * k by omega, Nat.pow_add]
  have h1 : c % 128 * 2 ^ (7 * k) ≤ 127 * 2 ^ (7 * k) := Nat.mul_le_mul_right _ (by omega)
  omega
theorem addU_lim (u c k : Nat) (hu : u < 2 ^ (7 * k)) (hk : k < 9) : addU u c k < 9223372036854775808 := by
  have := addU_lt u c k hu
  have e : 2 ^ (7 * (k + 1)) ≤ 2 ^ 63 := Nat.pow_le_pow_right (by decide) (by omega)
  have e2 : (2 : Nat) ^ 63 = 9223372036854775808 := by decide
  omega
theorem addU_lim9 (u c : Nat) (hu : u < 2 ^ (7 * 9)) (hc : c ≤ 1) : addU u c 9 < lim64 := by
  have e2 : (2 : Nat) ^ (7 * 9) = 9223372036854775808 := by decide
  unfold addU lim64; rw [e2] at *
  have : c % 128 ≤ 1 := by omega
  omega
theorem addU_all (u c k : Nat) (hu : u < 2 ^ (7 * k)) (hk : k < 9 ∨ k = 9 ∧ c ≤ 1) : addU u c k < lim64 := by
  rcases hk with h | ⟨rfl, h⟩
  · exact Nat.lt_trans (addU_lim u c k hu h) (by unfold lim64; omega)
  · exact addU_lim9 u c hu h
theorem acc_spec (u c k : Nat) (hu : u < 2 ^ (7 * k)) (hk : k < 9 ∨ k = 9 ∧ c ≤ 1) : IntKind.u64.wrap ((u : Int) + IntKind.u64.wrap ((c : Int) % 128 * 2 ^ (7 * k))) = (addU u c k : Int) := by
  have h := addU_all u c k hu hk
  have e : (c : Int) % 128 * 2 ^ (7 * k) = ((c % 128 * 2 ^ (7 * k) : Nat) : Int) := by simp
  unfold addU lim64 at *
  rw [e]
  generalize c % 128 * 2 ^ (7 * k) = x at *
  rw [IntKind.wrap_u64, IntKind.wrap_u64]
  omega
theorem unz_odd (v : Nat) (h : v % 2 = 1) : -((v : Int) / 2) - 1 = unz v := by unfold unz; rw [if_pos h]; omega
theorem unz_even (v : Nat) (h : ¬ v % 2 = 1) : (v : Int) / 2 = unz v := by unfold unz; rw [if_neg h]; omega
theorem half_le (v : Nat) (h : v < lim64) : (v : Int) / 2 ≤ 9223372036854775807 := by unfold lim64 at h; omega
theorem or_comm64 (a b : Int) : bits BinOp.or IntKind.u64 a b = bits BinOp.or IntKind.u64 b a := by
  simp only [bits, BitVec.or_comm]
theorem xor_comm64i (a b : Int) : bits BinOp.xor IntKind.i64 a b = bits BinOp.xor IntKind.i64 b a := by
  simp only [bits, BitVec.xor_comm]
theorem and127 (c : Nat) (h : c < 256) : bits BinOp.and IntKind.u8 (c : Int) 127 = ((c % 128 : Nat) : Int) := by
  have := bits_mask .u8 8 (by decide) wraps_u8 7 (by decide) (c : Int) (by omega) (by omega)
  simpa using this
theorem acc_impl (u c k : Nat) (hc : c < 256) (hu : u < 2 ^ (7 * k)) (hk : k < 9 ∨ k = 9 ∧ c ≤ 1) :
    bits BinOp.or IntKind.u64 (u : Int) (IntKind.u64.wrap (IntKind.u64.wrap (bits BinOp.and IntKind.u8 (c : Int) 127) * 2 ^ (7 * k))) = (addU u c k : Int) := by
  have h := addU_all u c k hu hk
  have h7 : u < 2 ^ (7 * k) := hu
  have hw : IntKind.u64.wrap ((c % 128 : Nat) : Int) = ((c % 128 : Nat) : Int) := by rw [IntKind.wrap_u64]; omega
  have e : ((c % 128 : Nat) : Int) * 2 ^ (7 * k) = ((c % 128 * 2 ^ (7 * k) : Nat) : Int) := by simp
  have hm : ((c % 128 * 2 ^ (7 * k) : Nat) : Int) % 2 ^ (7 * k) = 0 := by
    have : (c % 128 * 2 ^ (7 * k)) % 2 ^ (7 * k) = 0 := Nat.mul_mod_left _ _
    have e2 : ((2 : Int) ^ (7 * k)) = ((2 ^ (7 * k) : Nat) : Int) := by simp
    rw [e2]; omega
  have hu2 : (u : Int) < 2 ^ (7 * k) := by
    have e2 : ((2 : Int) ^ (7 * k)) = ((2 ^ (7 * k) : Nat) : Int) := by simp
    rw [e2]; omega
  rw [and127 c hc, hw, e]
  unfold addU lim64 at *
  generalize c % 128 * 2 ^ (7 * k) = x at *
  have hx : IntKind.u64.wrap (x : Int) = (x : Int) := by rw [IntKind.wrap_u64]; omega
  rw [hx, or_comm64, bits_join .u64 64 (by decide) (fun n a b => by rw [IntKind.wrap_u64]; omega) (7 * k) (x : Int) (u : Int) (by omega) hm (by omega) (by omega) hu2 (by omega)]
  omega
theorem xor_zero64 (x : Nat) (h : x < 9223372036854775808) : bits BinOp.xor IntKind.i64 (x : Int) 0 = (x : Int) := by
  show IntKind.i64.wrap ((BitVec.ofInt 64 (x : Int) ^^^ BitVec.ofInt 64 0).toNat : Int) = _
  have h2 : (BitVec.ofInt 64 (x : Int)).toNat = x := by
    rw [BitVec.ofInt_natCast, BitVec.toNat_ofNat]; exact Nat.mod_eq_of_lt (by omega)
  have h0 : (BitVec.ofInt 64 0).toNat = 0 := by decide
  rw [BitVec.toNat_xor, h2, h0, Nat.xor_zero, IntKind.wrap_i64]
  omega
end Go.Proofs.YthkbllkhomjmbaaDoor
