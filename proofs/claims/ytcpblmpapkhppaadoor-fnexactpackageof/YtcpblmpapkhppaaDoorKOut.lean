/- Answers with a package. -/
import Derived.Test.YtcpblmpapkhppaaDoorM1
import Derived.Test.YtcpblmpapkhppaaDoorAGr
namespace Go.Proofs.YtcpblmpapkhppaaDoor
open Go.RowKit

def pkOutV (R : pkT × Int) (v : Value) : Value := .agg #[.int .i64 R.1.1, .string R.1.2.1, v, .int .i64 R.2]
/-- An answer with a package of its own. -/
def MadePk (R : pkT × Int) (w : World) (e : Ending) (w' : World) : Prop := ∃ v, e = .returned (pkOutV R v) ∧ Gr w' w.heap.size 48 4 v R.1.2.2.length (stpCs R.1.2.2) ∧ Below w.heap.size w w'
def OwnPk (R : pkT × Int) (w : World) (e : Ending) (w' : World) : Prop := ∃ v, e = .returned (pkOutV R v) ∧ Own w' w.heap.size v R.1.2.2.length 4 (stpCs R.1.2.2) ∧ Below w.heap.size w w'
theorem calls_own {P : Program} {f : Nat} {args : Array Value} {w : World} {R : pkT × Int} (h : Calls P f args w (MadePk R w)) : Calls P f args w (OwnPk R w) := h.mono fun _ _ ⟨v, e, g, b⟩ => ⟨v, e, g.own, b⟩
end Go.Proofs.YtcpblmpapkhppaaDoor
