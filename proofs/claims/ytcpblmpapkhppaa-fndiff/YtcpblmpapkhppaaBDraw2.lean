/- The drawn steps: spec.l01Src.l06Any, spec.DrawStepRight. -/
import Derived.Test.YtcpblmpapkhppaaBDraw1
namespace Go.Proofs.Ytcpblmpapkhppaa
open Go.RowKit

theorem ints3 (x0 x1 x2 : Int) (j : Nat) (h : j < 3) : ∃ z : Int, (#[Value.int .i64 x0, .int .i64 x1, .int .i64 x2])[j]? = some (.int .i64 z) := by
  match j, h with
  | 0, _ => exact ⟨_, rfl⟩
  | 1, _ => exact ⟨_, rfl⟩
  | 2, _ => exact ⟨_, rfl⟩
theorem ints5 (x0 x1 x2 x3 x4 : Int) (j : Nat) (h : j < 5) : ∃ z : Int, (#[Value.int .i64 x0, .int .i64 x1, .int .i64 x2, .int .i64 x3, .int .i64 x4])[j]? = some (.int .i64 z) := by
  match j, h with
  | 0, _ => exact ⟨_, rfl⟩
  | 1, _ => exact ⟨_, rfl⟩
  | 2, _ => exact ⟨_, rfl⟩
  | 3, _ => exact ⟨_, rfl⟩
  | 4, _ => exact ⟨_, rfl⟩
theorem ints7 (x0 x1 x2 x3 x4 x5 x6 : Int) (j : Nat) (h : j < 7) : ∃ z : Int, (#[Value.int .i64 x0, .int .i64 x1, .int .i64 x2, .int .i64 x3, .int .i64 x4, .int .i64 x5, .int .i64 x6])[j]? = some (.int .i64 z) := by
  match j, h with
  | 0, _ => exact ⟨_, rfl⟩
  | 1, _ => exact ⟨_, rfl⟩
  | 2, _ => exact ⟨_, rfl⟩
  | 3, _ => exact ⟨_, rfl⟩
  | 4, _ => exact ⟨_, rfl⟩
  | 5, _ => exact ⟨_, rfl⟩
  | 6, _ => exact ⟨_, rfl⟩

end Go.Proofs.Ytcpblmpapkhppaa
