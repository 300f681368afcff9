/- Steps: which are valid; free of any program. -/
import Derived.Test.YtcckpkcjekcajaaDoorLStep
namespace Go.Proofs.YtcckpkcjekcajaaDoor
open Go.RowKit

/-- x lies in 0 .. n - 1. -/
def inB (x n : Int) : Bool := decide (0 ≤ x) && decide (x ≤ n - 1)
def isT (x : Int) : Bool := decide (0 ≤ x) && decide (x ≤ 1000000)
theorem inB_iff (x n : Int) : inB x n = true ↔ 0 ≤ x ∧ x < n := by unfold inB; simp; omega
theorem inB_no (x n : Int) : inB x n = false ↔ ¬ (0 ≤ x ∧ x < n) := by rw [← inB_iff]; simp
theorem isT_iff (x : Int) : isT x = true ↔ 0 ≤ x ∧ x ≤ 1000000 := by unfold isT; simp
theorem isT_no (x : Int) : isT x = false ↔ ¬ (0 ≤ x ∧ x ≤ 1000000) := by rw [← isT_iff]; simp
/-- A step is valid for n blocks. -/
def StepOk (n k t f : Int) (d : ByteArray) : Prop :=
  (1 ≤ n ∧ n ≤ 8) ∧
  ((k = 1 ∧ inB t n = true ∧ f = 0 ∧ d.size = 0) ∨ (k = 2 ∧ inB t n = true ∧ f = 0 ∧ d.size = 8) ∨
   (k = 3 ∧ inB t n = true ∧ inB f n = true ∧ d.size = 0) ∨ (k = 4 ∧ inB t n = true ∧ inB f n = true ∧ d.size = 8) ∨
   (k = 5 ∧ t = 0 ∧ isT f = true ∧ d.size = 0))
instance (n k t f : Int) (d : ByteArray) : Decidable (StepOk n k t f d) := by unfold StepOk; infer_instance
def stepB (n k t f : Int) (d : ByteArray) : Bool := decide (StepOk n k t f d)
theorem stepB_iff (n k t f : Int) (d : ByteArray) : stepB n k t f d = true ↔ StepOk n k t f d := by unfold stepB; simp
theorem stepB_yes {n k t f : Int} {d : ByteArray} (h : StepOk n k t f d) : stepB n k t f d = true := (stepB_iff ..).2 h
theorem stepB_no {n k t f : Int} {d : ByteArray} (h : ¬ StepOk n k t f d) : stepB n k t f d = false := by
  cases h' : stepB n k t f d with
  | false => rfl
  | true => exact absurd ((stepB_iff ..).1 h') h
theorem empty_of {d : ByteArray} (h : d.size = 0) : d = ⟨#[]⟩ := by
  apply ByteArray.ext
  exact Array.eq_empty_of_size_eq_zero h
theorem toList_ne {d : ByteArray} (h : d.size ≠ 0) : ¬ d.toList = [] := fun he => h (by
  rw [ByteArray.toList_eq] at he
  have : d.data.size = 0 := by simpa using congrArg List.length he
  exact this)
end Go.Proofs.YtcckpkcjekcajaaDoor
