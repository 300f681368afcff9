/- The law FnExactGetText out of the contracts of the model's and the program's GetText. -/
import Derived.Test.YthkbllkhomjmbaaDoorGText
namespace Go.Proofs.YthkbllkhomjmbaaDoor
open Go.RowKit

set_option maxHeartbeats 400000 in
theorem eqText_same (x : ByteArray) (a c : Int) (w : World) :
    Calls Tryd.prog 42 #[.agg #[.string x, .int .i64 a, .int .i64 c], .agg #[.string x, .int .i64 a, .int .i64 c]] w fun e w' => e = .returned (.bool true) ∧ Below w.heap.size w w' := by
  go_enter Tryd.func42, Tryd.ntmps42
  go_wp2_with fail
  go_ret
  exact ⟨rfl, ((Below.refl _ _).alloc (Nat.le_refl _) _).alloc (by simp) _⟩

theorem getR_bad (s : ByteArray) (x : Int) (h : ¬ (getR s x).2.2 = 0) : getR s x = (0, 0, (getR s x).2.2) := by
  unfold getR at *
  by_cases h8 : 8000 < s.size
  · rw [if_pos h8]
  rw [if_neg h8] at h ⊢
  by_cases h0 : x < 0
  · rw [if_pos h0]
  rw [if_neg h0] at h ⊢
  exact goN_bad s _ _ _ _ h

end Go.Proofs.YthkbllkhomjmbaaDoor
