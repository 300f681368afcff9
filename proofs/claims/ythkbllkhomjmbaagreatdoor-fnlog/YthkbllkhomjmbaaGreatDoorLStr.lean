/- Slices of strings in the laws: copied, measured, compared, marked. -/
import Derived.Test.YthkbllkhomjmbaaGreatDoorBase
import Derived.Test.YthkbllkhomjmbaaGreatDoorRowz
import Derived.Deep.QuietTactic
import Derived.BigQuiet
import Derived.BigRegion
import Derived.Deep.RegionHeld3
namespace Go.Proofs.YthkbllkhomjmbaaGreatDoor
open Go.RowKit

theorem Tryz.info9 : (Tryz.prog.info? 9).map (fun i => (i.zero, i.size, i.bytes)) = some (some (.string ByteArray.empty), 1, 16) := by kernel_rfl
def strs (l : List ByteArray) : List Value := l.map Value.string
theorem strs_length (l : List ByteArray) : (strs l).length = l.length := by simp [strs]
theorem strs_at (l : List ByteArray) (j : Nat) (h : j < l.length) : (strs l)[j]? = some (.string l[j]) := by simp [strs, h]

def CopyRel (w : World) (l : List ByteArray) (i : Value) (wr : World) : Prop :=
  ∃ k : Nat, k ≤ l.length ∧ i = .int .i64 k ∧ CellsAt wr w.heap.size 9 l.length (fun j => .string (if j < k then l.getD j ByteArray.empty else ByteArray.empty)) ∧ Below w.heap.size w wr
theorem made_strs {w1 : World} {g n : Nat} (h : w1.heap[g]? = some (.cells (List.replicate n (Value.string ByteArray.empty)).toArray 9 (0, 0))) : CellsAt w1 g 9 n (fun _ => .string ByteArray.empty) :=
  cellsAt_list h n _ (by simp) (fun j hj => by simp [hj])

/-- What is left of a measure: less than nothing, or all was within it. -/
def Left (P : Prop) (w : World) (e : Ending) (w' : World) : Prop := ∃ r : Int, e = .returned (.int .i64 r) ∧ w = w' ∧ (r = -1 ∨ 0 ≤ r ∧ P)
def LeftIn (left : Int) (P : Prop) (w : World) (e : Ending) (w' : World) : Prop := ∃ r : Int, e = .returned (.int .i64 r) ∧ w = w' ∧ (r = -1 ∨ 0 ≤ r ∧ r ≤ left ∧ P)
def SizeRel (l : List ByteArray) (left : Int) (x i : Value) : Prop :=
  ∃ (k : Nat) (r : Int), k ≤ l.length ∧ i = .int .i64 k ∧ x = .int .i64 r ∧ 0 ≤ r ∧ r ≤ left ∧ ∀ j (h : j < l.length), j < k → (l[j].size : Int) ≤ left
def EqRel (w : World) (n : Nat) (i : Value) (wr : World) : Prop := ∃ k : Nat, k ≤ n ∧ i = .int .i64 k ∧ Still w wr
end Go.Proofs.YthkbllkhomjmbaaGreatDoor
