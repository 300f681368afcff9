/- Seal: the model and the program answer alike. -/
import Derived.Test.YtcckpkcjekcajaaDoorCrc
import Derived.Test.YtcckpkcjekcajaaDoorM1
namespace Go.Proofs.YtcckpkcjekcajaaDoor
open Go.RowKit

def octet (c : Int) : UInt8 := (c % 256).toNat.toUInt8
def fourL (c : Int) : List UInt8 := [octet c, octet (c / 256), octet (c / 65536), octet (c / 16777216)]
/-- Four bytes, the least first. -/
def fourS (c : Int) : ByteArray := ⟨(fourL c).toArray⟩
theorem octet_val (c : Int) : c % 256 = ((octet c).toNat : Int) := by unfold octet; simp; omega
theorem octet_top (c : Int) (h0 : 0 ≤ c) (h1 : c ≤ 4294967295) : c / 16777216 = ((octet (c / 16777216)).toNat : Int) := by rw [← octet_val]; omega
theorem crcF_bound (c : Int) (s : ByteArray) : 0 ≤ crcF c s ∧ crcF c s ≤ 4294967295 := by
  unfold crcF
  generalize regF s (bits BinOp.xor IntKind.u32 c 4294967295) s.size = r
  have a := bits_lo_u32 BinOp.xor r 4294967295
  have b := bits_hi_u32 BinOp.xor r 4294967295
  generalize bits BinOp.xor IntKind.u32 r 4294967295 = x at *
  rw [IntWalk.wrap64_in x (by omega)]
  exact ⟨a, b⟩

theorem set_take (xs : List Value) (k : Nat) (c : Int) (v : Value) (u : UInt8) (h : k < xs.length) (hk : (fourL c)[k]? = some u) (hx : xs.take k = ((fourL c).take k).map B) (hv : v = B u) :
    (xs.set k v).take (k + 1) = ((fourL c).take (k + 1)).map B := by
  subst hv
  obtain ⟨hk', rfl⟩ := List.getElem?_eq_some_iff.1 hk
  rw [List.take_succ_eq_append_getElem (by simpa using h), List.take_set_of_le (Nat.le_refl _), hx, List.take_succ_eq_append_getElem hk', List.map_append]
  simp

theorem fourS_size (c : Int) : (fourS c).size = 4 := rfl

end Go.Proofs.YtcckpkcjekcajaaDoor
