/- spec.StepsCode. -/
import Derived.Test.YthkbllkhomjmbaaBCodeM
import Derived.Test.YthkbllkhomjmbaaBSRight
namespace Go.Proofs.Ythkbllkhomjmbaa
open Go.RowKit

def ScR1 (l : List stpT) (n : Int) (w : World) (i : Value) (wr : World) : Prop := ∃ k : Nat, k ≤ l.length ∧ i = .int .i64 k ∧ (∀ j (h : j < l.length), j < k → wrongS n l[j] = false) ∧ Below w.heap.size w wr
def ScR2 (l : List stpT) (W : World) (i : Value) (wr : World) : Prop := ∃ k : Nat, k ≤ l.length ∧ i = .int .i64 k ∧ Apart l k ∧ Still W wr
def ScR3 (l : List stpT) (k : Nat) (W : World) (i : Value) (wr : World) : Prop := ∃ m : Nat, m ≤ k ∧ i = .int .i64 m ∧ (∀ j, j < m → ¬ Pair l k j) ∧ Still W wr
def ScR4 (l : List stpT) (W : World) (x i : Value) (wr : World) : Prop := ∃ k : Nat, k ≤ l.length ∧ i = .int .i64 k ∧ x = .int .i64 (lastT l k) ∧ ¬ Low l k ∧ Still W wr

end Go.Proofs.Ythkbllkhomjmbaa
