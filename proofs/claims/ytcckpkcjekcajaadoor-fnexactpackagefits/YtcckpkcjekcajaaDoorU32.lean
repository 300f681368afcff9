/- uint32 arithmetic of a walk as UInt32 of Lean; plain facts, nothing of the program. -/
import Derived.WalkKit
import Derived.Laws.Bits64b
namespace Go.Proofs.YtcckpkcjekcajaaDoor
open Go

theorem u32_lt (x : UInt32) : x.toNat < 4294967296 := UInt32.toNat_lt x
theorem u32_nat (n : Nat) (h : n < 4294967296) : (UInt32.ofNat n).toNat = n := by
  show n % 2 ^ 32 = n; omega
theorem u32_mod (x : UInt32) : x.toNat % 2 ^ 32 = x.toNat := Nat.mod_eq_of_lt (u32_lt x)
theorem u32_xor (x y : UInt32) : bits BinOp.xor IntKind.u32 (x.toNat : Int) (y.toNat : Int) = ((x ^^^ y).toNat : Int) := by
  show IntKind.u32.wrap ((BitVec.ofInt 32 (x.toNat : Int) ^^^ BitVec.ofInt 32 (y.toNat : Int)).toNat : Int) = _
  have h := u32_lt (x ^^^ y)
  rw [BitVec.toNat_xor, BitVec.ofInt_natCast, BitVec.ofInt_natCast, BitVec.toNat_ofNat, BitVec.toNat_ofNat, u32_mod, u32_mod, IntKind.wrap_u32, ← UInt32.toNat_xor]
  omega
theorem u32_and (x y : UInt32) : bits BinOp.and IntKind.u32 (x.toNat : Int) (y.toNat : Int) = ((x &&& y).toNat : Int) := by
  show IntKind.u32.wrap ((BitVec.ofInt 32 (x.toNat : Int) &&& BitVec.ofInt 32 (y.toNat : Int)).toNat : Int) = _
  have h := u32_lt (x &&& y)
  rw [BitVec.toNat_and, BitVec.ofInt_natCast, BitVec.ofInt_natCast, BitVec.toNat_ofNat, BitVec.toNat_ofNat, u32_mod, u32_mod, IntKind.wrap_u32, ← UInt32.toNat_and]
  omega
theorem u32_or (x y : UInt32) : bits BinOp.or IntKind.u32 (x.toNat : Int) (y.toNat : Int) = ((x ||| y).toNat : Int) := by
  show IntKind.u32.wrap ((BitVec.ofInt 32 (x.toNat : Int) ||| BitVec.ofInt 32 (y.toNat : Int)).toNat : Int) = _
  have h := u32_lt (x ||| y)
  rw [BitVec.toNat_or, BitVec.ofInt_natCast, BitVec.ofInt_natCast, BitVec.toNat_ofNat, BitVec.toNat_ofNat, u32_mod, u32_mod, IntKind.wrap_u32, ← UInt32.toNat_or]
  omega
theorem u32_add (x y : UInt32) : IntKind.u32.wrap ((x.toNat : Int) + (y.toNat : Int)) = ((x + y).toNat : Int) := by
  rw [IntKind.wrap_u32, UInt32.toNat_add]; omega
theorem u32_not (x : UInt32) : IntKind.u32.wrap (-1 - (x.toNat : Int)) = ((~~~x).toNat : Int) := by
  have h := u32_lt x
  rw [IntKind.wrap_u32, UInt32.toNat_not]
  simp only [UInt32.size]; omega
theorem u32_not' (x : UInt32) : IntKind.u32.wrap (-(x.toNat : Int) - 1) = ((~~~x).toNat : Int) := by
  rw [← u32_not]; congr 1; omega
theorem u32_id (x : UInt32) : IntKind.u32.wrap (x.toNat : Int) = (x.toNat : Int) := by
  have h := u32_lt x
  rw [IntKind.wrap_u32]; omega
theorem u32_i64 (x : UInt32) : IntKind.i64.wrap (x.toNat : Int) = (x.toNat : Int) := by
  have h := u32_lt x
  rw [IntKind.wrap_i64]; omega
theorem u32_shr (x : UInt32) (k : Nat) (hk : k < 32) : (x.toNat : Int) / 2 ^ k = ((x >>> (UInt32.ofNat k)).toNat : Int) := by
  have e : (UInt32.ofNat k).toNat % 32 = k := by
    rw [u32_nat k (by omega)]; omega
  rw [UInt32.toNat_shiftRight, e, Nat.shiftRight_eq_div_pow]; simp
theorem u32_shl (x : UInt32) (k : Nat) (hk : k < 32) : IntKind.u32.wrap ((x.toNat : Int) * 2 ^ k) = ((x <<< (UInt32.ofNat k)).toNat : Int) := by
  have e : (UInt32.ofNat k).toNat % 32 = k := by
    rw [u32_nat k (by omega)]; omega
  have e2 : (x.toNat : Int) * 2 ^ k = ((x.toNat * 2 ^ k : Nat) : Int) := by simp
  rw [UInt32.toNat_shiftLeft, e, Nat.shiftLeft_eq, e2, IntKind.wrap_u32]
  generalize x.toNat * 2 ^ k = m
  omega
/-- A byte widened. -/
theorem u32_byte (b : UInt8) : (b.toNat : Int) = (b.toUInt32.toNat : Int) := by simp
/-- The last byte of a word. -/
theorem u8_word (x : UInt32) : IntKind.u8.wrap (x.toNat : Int) = (x.toUInt8.toNat : Int) := by
  rw [IntKind.wrap_u8]; simp
theorem u32_ofNat (n : Nat) (h : n < 4294967296) : (n : Int) = ((UInt32.ofNat n).toNat : Int) := by
  rw [u32_nat n h]
end Go.Proofs.YtcckpkcjekcajaaDoor
