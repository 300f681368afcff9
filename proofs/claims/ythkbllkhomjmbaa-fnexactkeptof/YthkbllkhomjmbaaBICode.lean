/- impl.StepsCode. -/
import Derived.Test.YthkbllkhomjmbaaBCodeM
import Derived.Test.YthkbllkhomjmbaaBIRight
namespace Go.Proofs.Ythkbllkhomjmbaa
open Go.RowKit

theorem below_nx {W a b : World} (h : Below W.heap.size W a) (k : Below a.heap.size a b) : Below W.heap.size W b := h.trans (k.mono h.size)
def IxRel (l : List stpT) (n : Int) (w : World) (i : Value) (wr : World) : Prop := ∃ k : Nat, k ≤ l.length ∧ i = .int .i64 k ∧ (∀ j (h : j < l.length), j < k → wrongS n l[j] = false) ∧ Below w.heap.size w wr
/-- What IndexFunc gives: whether there is a step that is not valid, by the sign. -/
def IxFound (l : List stpT) (n : Int) (w : World) (e : Ending) (w' : World) : Prop := ∃ r : Int, e = .returned (.int .i64 r) ∧ (0 ≤ r ↔ ∃ s ∈ l, wrongS n s = true) ∧ -1 ≤ r ∧ r ≤ 1048576 ∧ Below w.heap.size w w'
theorem assert1 (v : Value) (w : World) : (Instr.typeAssert (.iface 58 v) 44 47 true).run Try.prog w = .ok (.tuple #[.agg #[.int .i64 0], .bool false]) w := by kernel_rfl
theorem assert2 (v : Value) (w : World) : (Instr.typeAssert (.iface 60 v) 44 47 true).run Try.prog w = .ok (.tuple #[.agg #[.int .i64 0], .bool false]) w := by kernel_rfl
theorem assert3 (v : Value) (w : World) : (Instr.typeAssert (.iface 62 v) 44 47 true).run Try.prog w = .ok (.tuple #[.agg #[.int .i64 0], .bool false]) w := by kernel_rfl
theorem assert4 (v : Value) (w : World) : (Instr.typeAssert (.iface 64 v) 44 47 true).run Try.prog w = .ok (.tuple #[.agg #[.int .i64 0], .bool false]) w := by kernel_rfl
theorem assert5 (v : Value) (w : World) : (Instr.typeAssert (.iface 47 v) 44 47 true).run Try.prog w = .ok (.tuple #[v, .bool true]) w := by kernel_rfl
/-- The operation of a writing step: it is no label. -/
theorem op_write (k t f : Int) (d : ByteArray) (h1 : 1 ≤ k) (h4 : k ≤ 4) : ∃ T v, (∀ w, Calls Try.prog 25 #[.agg #[.int .i64 k, .int .i64 t, .int .i64 f, .string d]] w fun e w' => e = .returned (.iface T v) ∧ Below w.heap.size w w') ∧
    ∀ w, (Instr.typeAssert (.iface T v) 44 47 true).run Try.prog w = .ok (.tuple #[.agg #[.int .i64 0], .bool false]) w := by
  have h : k = 1 ∨ k = 2 ∨ k = 3 ∨ k = 4 := by omega
  rcases h with rfl | rfl | rfl | rfl
  · exact ⟨_, _, op1 t f d, assert1 _⟩
  · exact ⟨_, _, op2 t f d, assert2 _⟩
  · exact ⟨_, _, op3 t f d, assert3 _⟩
  · exact ⟨_, _, op4 t f d, assert4 _⟩

/-- The code so far. -/
def LowC (l : List stpT) (k : Nat) (c : Int) : Prop := (c = 0 ∧ ¬ Low l k) ∨ (c = 8 ∧ Low l k)
def Cf (l : List stpT) (R : Int) : Prop := (R = 12 ∧ Twice l) ∨ (R = 8 ∧ ¬ Twice l ∧ Low l l.length) ∨ (R = 0 ∧ ¬ Twice l ∧ ¬ Low l l.length)
end Go.Proofs.Ythkbllkhomjmbaa
