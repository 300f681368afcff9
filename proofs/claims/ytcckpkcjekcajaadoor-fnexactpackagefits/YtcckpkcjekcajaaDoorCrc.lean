/- CRC-32: the registers of the model and of the program agree. -/
import Derived.Test.YtcckpkcjekcajaaDoorBase
namespace Go.Proofs.YtcckpkcjekcajaaDoor
open Go.RowKit

def bitF (n : Int) : Int := if (bits BinOp.and IntKind.u32 n 1 == 1) = true then bits BinOp.xor IntKind.u32 (n / 2) 3988292384 else n / 2
def bitsF : Nat → Int → Int
  | 0, n => n
  | k + 1, n => bitF (bitsF k n)
def byteF (r b : Int) : Int := bitsF 8 (bits BinOp.xor IntKind.u32 r (b % 4294967296))
def regF (s : ByteArray) (r : Int) : Nat → Int
  | 0 => r
  | k + 1 => byteF (regF s r k) (bt s k)
theorem bitsF_yes (k : Nat) (n : Int) (h : (bits BinOp.and IntKind.u32 (bitsF k n) 1 == 1) = true) : bits BinOp.xor IntKind.u32 (bitsF k n / 2) 3988292384 = bitsF (k + 1) n := by
  simp only [bitsF, bitF]; rw [if_pos h]
theorem bitsF_no (k : Nat) (n : Int) (h : (bits BinOp.and IntKind.u32 (bitsF k n) 1 == 1) = false) : bitsF k n / 2 = bitsF (k + 1) n := by
  simp only [bitsF, bitF]; rw [if_neg (by rw [h]; simp)]
theorem xor_comm32 (a b : Int) : bits BinOp.xor IntKind.u32 a b = bits BinOp.xor IntKind.u32 b a := by
  simp only [bits, BitVec.xor_comm]
theorem max32 (a : Int) : bits BinOp.xor IntKind.u32 IntKind.u32.max a = bits BinOp.xor IntKind.u32 a 4294967295 := by
  rw [xor_comm32, show IntKind.u32.max = 4294967295 by decide]
def crcF (c : Int) (s : ByteArray) : Int := wrap64 (bits BinOp.xor IntKind.u32 (regF s (bits BinOp.xor IntKind.u32 c 4294967295) s.size) 4294967295)
theorem regF_succ (s : ByteArray) (r : Int) (k : Nat) (h : k < s.size) : regF s r (k + 1) = bitsF 8 (bits BinOp.xor IntKind.u32 (regF s r k) ((s[k].toNat : Int) % 4294967296)) := by
  rw [bt_at s k h]; rfl
theorem regF_succ' (s : ByteArray) (r : Int) (k : Nat) (h : k < s.size) : byteF (regF s r k) (s[k].toNat : Int) = regF s r (k + 1) := by
  rw [bt_at s k h]; rfl

end Go.Proofs.YtcckpkcjekcajaaDoor
