/- spec.GetNum decodes as the plain function goN says. -/
import Derived.Test.YtfcjldoghodldaaDoorRows
import Derived.Test.YtfcjldoghodldaaDoorBase
import Derived.WalkKit
import Derived.WalkSpells
import Derived.WalkLawsBesides
import Derived.Lib.Hide
import Derived.ScopeJumps
import Derived.WalkMore
import Derived.Test.YtfcjldoghodldaaDoorGNum
namespace Go.Proofs.YtfcjldoghodldaaDoor
open Go.RowKit

/-- The block of a result of three fields. -/
def outB (x y z : Int) : Obj := .cells #[.int .i64 x, .int .i64 y, .int .i64 z] 26
def GSpecRel (s : ByteArray) (a : Nat) (w : World) (R : Int × Int × Int) (x i : Value) (wr : World) : Prop :=
  ∃ k u : Nat, k ≤ 9 ∧ u < 2 ^ (7 * k) ∧ i = .int .i64 k ∧ x = .int .u64 u ∧ wr = w.alloc (.cells #[.int .i64 0, .int .i64 0, .int .i64 0] 26) ∧ goN s a (9 - k + 1) k u = R

def numV (R : Int × Int × Int) : Value := .agg #[.int .i64 R.1, .int .i64 R.2.1, .int .i64 R.2.2]

end Go.Proofs.YtfcjldoghodldaaDoor
