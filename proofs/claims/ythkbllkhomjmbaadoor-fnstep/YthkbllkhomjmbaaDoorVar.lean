/- Plain facts on zigzag varints; nothing of the program. -/
import Derived.Lib.Zigzag
namespace Go.Proofs.YthkbllkhomjmbaaDoor
open Go

theorem xor_comm64 (a b : Int) : bits BinOp.xor IntKind.u64 a b = bits BinOp.xor IntKind.u64 b a := by
  simp only [bits, BitVec.xor_comm]

theorem zz_pos (n : Int) (h0 : 0 ≤ n) (h1 : n ≤ 9223372036854775807) : bits BinOp.xor IntKind.u64 (n * 2) (n / 9223372036854775808) = (Lib.zigzag n : Int) := by
  have e : n / 9223372036854775808 = ((0 : Nat) : Int) := by omega
  have e2 : n * 2 = (((n * 2).toNat : Nat) : Int) := by omega
  rw [e, e2, bits_xor_u64_nat _ _ (by omega) (by omega), Nat.xor_zero, Lib.zigzag_nonneg h0]
  omega

theorem zz_neg (n : Int) (h0 : n < 0) (h1 : -9223372036854775808 ≤ n) :
    bits BinOp.xor IntKind.u64 (IntKind.u64.wrap (IntKind.u64.wrap n * 2)) (IntKind.u64.wrap (n / 9223372036854775808)) = (Lib.zigzag n : Int) := by
  have e : n / 9223372036854775808 = -1 := by omega
  rw [e, xor_comm64, show IntKind.u64.wrap (-1) = IntKind.u64.max by decide, Lib.zigzag_neg h1 h0]

theorem zz_fold (n : Int) (h0 : 0 ≤ n) : 2 * n = (Lib.zigzag n : Int) := by rw [Lib.zigzag_nonneg h0]; omega
theorem zz_foldn (n : Int) (h0 : n < 0) : 2 * -(n + 1) + 1 = (Lib.zigzag n : Int) := by
  unfold Lib.zigzag; rw [if_neg (by omega)]; omega

/-- 2 ^ 64, behind a name. -/
def lim64 : Nat := 18446744073709551616

def moreB (x : Nat) : UInt8 := (x % 128 + 128).toUInt8
def lastB (x : Nat) : UInt8 := x.toUInt8
theorem var_more (l : List UInt8) (x : Nat) (h : 128 ≤ x) : (l ++ [moreB x]) ++ Lib.uvarint (x / 128) = l ++ Lib.uvarint x := by
  rw [Lib.uvarint_big h]; simp [moreB]
theorem var_last (l : List UInt8) (x : Nat) (h : x < 128) : l ++ [lastB x] = l ++ Lib.uvarint x := by
  rw [Lib.uvarint_small h]; rfl
theorem var_len (l : List UInt8) (x x0 : Nat) (h0 : x0 < lim64) (h : l ++ Lib.uvarint x = Lib.uvarint x0) : l.length + 1 ≤ 10 := by
  have a := Lib.uvarint_length64 (x := x0) h0
  have b := Lib.uvarint_pos x
  have c := congrArg List.length h
  simp at c; omega
theorem zz_lt (n : Int) (h0 : -9223372036854775808 ≤ n) (h1 : n ≤ 9223372036854775807) : Lib.zigzag n < lim64 := Lib.zigzag_lt h0 h1
theorem div_lt (x : Nat) (h : x < lim64) : x / 128 < lim64 := Nat.lt_of_le_of_lt (Nat.div_le_self _ _) h
theorem byte_more (x : Nat) : (x : Int) % 128 + 128 = ((moreB x).toNat : Int) := by
  unfold moreB; simp; omega
theorem byte_more2 (x : Nat) : bits BinOp.or IntKind.u8 ((x : Int) % 256) 128 = ((moreB x).toNat : Int) := by
  rw [Lib.u8_or128_any _ (by omega) (by omega), ← byte_more]; omega
theorem byte_last (x : Nat) (h : x < 128) : (x : Int) = ((lastB x).toNat : Int) := by
  unfold lastB; simp; omega
theorem wrap_div (x : Nat) (h : x < lim64) : IntKind.u64.wrap ((x : Int) / 128) = ((x / 128 : Nat) : Int) := by
  unfold lim64 at h; rw [IntKind.wrap_u64]; omega
end Go.Proofs.YthkbllkhomjmbaaDoor
