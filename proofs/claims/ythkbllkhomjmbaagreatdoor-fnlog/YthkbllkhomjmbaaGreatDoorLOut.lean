/- An answer over a flash in the laws: compared, marked, held. -/
import Derived.Test.YthkbllkhomjmbaaGreatDoorSRead
namespace Go.Proofs.YthkbllkhomjmbaaGreatDoor
open Go.RowKit

theorem four_cells {w w1 : World} {K : Nat} {T : TypeId} {a b c d : Value} (hb : Below K (w.alloc (.cells #[a, b, c, d] T)) w1) (hK : w.heap.size < K) :
    w1.cell? ⟨w.heap.size, 0, none⟩ = some a ∧ w1.cell? ⟨w.heap.size, 1, none⟩ = some b ∧ w1.cell? ⟨w.heap.size, 2, none⟩ = some c ∧ w1.cell? ⟨w.heap.size, 3, none⟩ = some d := (out_cells hb hK).1

end Go.Proofs.YthkbllkhomjmbaaGreatDoor
