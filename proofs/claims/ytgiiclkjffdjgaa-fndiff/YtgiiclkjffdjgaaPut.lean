/- PutNum: the model and the program encode alike. -/
import Derived.Test.YtgiiclkjffdjgaaM1
import Derived.Test.YtgiiclkjffdjgaaVar
namespace Go.Proofs.Ytgiiclkjffdjgaa
open Go.RowKit

def SpecRel (w : World) (x0 : Nat) (u v : Value) (wr : World) : Prop :=
  ∃ (x : Nat) (l : List UInt8), x < lim64 ∧ u = .int .u64 x ∧ wr.ownsRow w.heap.size 5 1 v l.length (l.map B) ∧ Below w.heap.size w wr ∧ l ++ Lib.uvarint x = Lib.uvarint x0

theorem take_set_more (xs : List Value) (l : List UInt8) (b : UInt8) (v : Value) (h : l.length < xs.length) (hx : xs.take l.length = l.map B) (hv : v = B b) :
    (xs.set l.length v).take (l ++ [b]).length = (l ++ [b]).map B := by
  subst hv
  rw [List.length_append, List.length_singleton, List.take_succ_eq_append_getElem (by simpa using h), List.take_set_of_le (Nat.le_refl _), hx]
  simp

/-- The bytes of an integer, behind a name. -/
def putS (n : Int) : ByteArray := ⟨(Lib.uvarint (Lib.zigzag n)).toArray⟩
theorem putS_size (n : Int) (h0 : -9223372036854775808 ≤ n) (h1 : n ≤ 9223372036854775807) : (putS n).size ≤ 10 := by
  have := Lib.uvarint_length64 (Lib.zigzag_lt h0 h1)
  simpa [putS, ByteArray.size] using this
end Go.Proofs.Ytgiiclkjffdjgaa
