/- spec.DrawStepsCode. -/
import Derived.Test.YtcckpkcjekcajaaDoorBDraw4
namespace Go.Proofs.YtcckpkcjekcajaaDoor
open Go.RowKit

theorem Gr.cap {w : World} {lo e sz n c : Nat} {a : Option Addr} {xs : List Value} (h : Gr w lo e sz (.slice a n c) n xs) : n ≤ c := by
  rcases h with ⟨h0, h1, ⟨h2, h3⟩ | ⟨g, cap, cur, h2, h3, h4, h5, h6⟩⟩ | ⟨rfl, -, -⟩
  · omega
  · simp only [Value.slice.injEq] at h2
    obtain ⟨-, -, rfl⟩ := h2
    exact h5
  · exact Nat.zero_le _
/-- A list of steps and a number drawn from bytes. -/
def DrawnLN (w : World) (e : Ending) (w' : World) : Prop := ∃ (l : List stpT) (v : Value) (n : Int), l.length ≤ 21 ∧ (∀ d ∈ l, d.2.2.2.size ≤ 10) ∧ e = .returned (.tuple #[v, .int .i64 n]) ∧ Gr w' w.heap.size 33 4 v l.length (stpCs l) ∧ Below w.heap.size w w'
end Go.Proofs.YtcckpkcjekcajaaDoor
