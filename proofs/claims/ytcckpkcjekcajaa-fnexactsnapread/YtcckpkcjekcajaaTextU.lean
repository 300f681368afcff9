/- The laws' comparison of a text with a code. -/
import Derived.Test.YtcckpkcjekcajaaLBox
namespace Go.Proofs.Ytcckpkcjekcajaa
open Go.RowKit

def textU (R : ByteArray × Int) : Value := .agg #[.string R.1, .int .i64 0, .int .i64 R.2]
set_option maxHeartbeats 1000000 in
set_option maxRecDepth 100000 in
theorem eqTextU_same (R : ByteArray × Int) (w : World) :
    Calls Try.prog 15 #[textU R, textU R] w fun e w' => e = .returned (.bool true) ∧ Below w.heap.size w w' := by
  obtain ⟨x, c⟩ := R
  unfold textU
  dsimp only
  have d1 : (x.toList != x.toList) = false := by simp
  have d2 : (c != c) = false := by simp
  go_enter Try.func15, Try.ntmps15
  go_wp2_with fail
  go_ret
  exact ⟨rfl, ((Below.refl _ w).alloc (Nat.le_refl _) _).alloc (by simp) _⟩

end Go.Proofs.Ytcckpkcjekcajaa
