/- Slices of Step in the laws: copied, measured, compared, marked. -/
import Derived.Test.YthkbllkhomjmbaaGreatDoorLDirty
namespace Go.Proofs.YthkbllkhomjmbaaGreatDoor
open Go.RowKit

abbrev stpT := Int × Int × Int × ByteArray
def stpCs : List stpT → List Value
  | [] => []
  | d :: l => .int .i64 d.1 :: .int .i64 d.2.1 :: .int .i64 d.2.2.1 :: .string d.2.2.2 :: stpCs l
theorem stpCs_length : ∀ l : List stpT, (stpCs l).length = l.length * 4
  | [] => rfl
  | d :: l => by simp [stpCs, stpCs_length l]; omega
theorem stpCs_0 : ∀ (l : List stpT) (k : Nat) (h : k < l.length), (stpCs l)[k * 4]? = some (.int .i64 l[k].1)
  | d :: l, 0, _ => rfl
  | d :: l, k + 1, h => by
    rw [show (k + 1) * 4 = k * 4 + 1 + 1 + 1 + 1 by omega]
    simpa [stpCs] using stpCs_0 l k (by simpa using h)
theorem stpCs_1 : ∀ (l : List stpT) (k : Nat) (h : k < l.length), (stpCs l)[k * 4 + 1]? = some (.int .i64 l[k].2.1)
  | d :: l, 0, _ => rfl
  | d :: l, k + 1, h => by
    rw [show (k + 1) * 4 + 1 = k * 4 + 1 + 1 + 1 + 1 + 1 by omega]
    simpa [stpCs] using stpCs_1 l k (by simpa using h)
theorem stpCs_2 : ∀ (l : List stpT) (k : Nat) (h : k < l.length), (stpCs l)[k * 4 + 2]? = some (.int .i64 l[k].2.2.1)
  | d :: l, 0, _ => rfl
  | d :: l, k + 1, h => by
    rw [show (k + 1) * 4 + 2 = k * 4 + 2 + 1 + 1 + 1 + 1 by omega]
    simpa [stpCs] using stpCs_2 l k (by simpa using h)
theorem stpCs_3 : ∀ (l : List stpT) (k : Nat) (h : k < l.length), (stpCs l)[k * 4 + 3]? = some (.string l[k].2.2.2)
  | d :: l, 0, _ => rfl
  | d :: l, k + 1, h => by
    rw [show (k + 1) * 4 + 3 = k * 4 + 3 + 1 + 1 + 1 + 1 by omega]
    simpa [stpCs] using stpCs_3 l k (by simpa using h)
theorem stpCs_append : ∀ (a b : List stpT), stpCs (a ++ b) = stpCs a ++ stpCs b
  | [], b => rfl
  | d :: a, b => by simp only [List.cons_append, stpCs]; rw [stpCs_append a b]
theorem Tryz.infostp : (Tryz.prog.info? 48).map (fun i => (i.zero, i.size, i.bytes)) = some (some (.agg #[.int .i64 0, .int .i64 0, .int .i64 0, .string ByteArray.empty]), 4, 40) := by kernel_rfl
def stpPart (l : List stpT) (k j : Nat) : Value := if j < k * 4 then (stpCs l).getD j undef else if j % 4 = 0 then .int .i64 0 else if j % 4 = 1 then .int .i64 0 else if j % 4 = 2 then .int .i64 0 else .string ByteArray.empty
def stpCopyRel (w : World) (l : List stpT) (i : Value) (wr : World) : Prop :=
  ∃ k : Nat, k ≤ l.length ∧ i = .int .i64 k ∧ CellsAt wr w.heap.size 48 (l.length * 4) (stpPart l k) ∧ Below w.heap.size w wr
theorem made_stp {w1 : World} {g n : Nat} {l : List stpT} (h : w1.heap[g]? = some (.cells (madeCells #[Value.int .i64 0, Value.int .i64 0, Value.int .i64 0, Value.string ByteArray.empty] (n * 4)).toList.toArray 48 (0, 0))) : CellsAt w1 g 48 (n * 4) (stpPart l 0) := by
  refine cellsAt_list h (n * 4) _ (by simp [madeCells]) (fun j hj => ?_)
  have h2 : j % 4 = 0 ∨ j % 4 = 1 ∨ j % 4 = 2 ∨ j % 4 = 3 := by omega
  rcases h2 with h2 | h2 | h2 | h2 <;> simp [madeCells, hj, stpPart, h2]
theorem stp_laid {w2 : World} {g n k : Nat} {T : TypeId} {l : List stpT} (h : CellsAt w2 g T n (stpPart l k)) (hk : k < l.length) :
    CellsAt ((((w2.setCell ⟨g, k * 4, none⟩ (.int .i64 l[k].1)).setCell ⟨g, k * 4 + 1, none⟩ (.int .i64 l[k].2.1)).setCell ⟨g, k * 4 + 2, none⟩ (.int .i64 l[k].2.2.1)).setCell ⟨g, k * 4 + 3, none⟩ (.string l[k].2.2.2)) g T n (stpPart l (k + 1)) := by
  refine ((((h.set (v' := fun j => if j = k * 4 then .int .i64 l[k].1 else stpPart l k j) (k * 4) _ (if_pos rfl) (fun i hi => if_neg hi)).set (v' := fun j => if j = k * 4 + 1 then .int .i64 l[k].2.1 else if j = k * 4 then .int .i64 l[k].1 else stpPart l k j) (k * 4 + 1) _ (if_pos rfl) (fun i hi => if_neg hi)).set (v' := fun j => if j = k * 4 + 2 then .int .i64 l[k].2.2.1 else if j = k * 4 + 1 then .int .i64 l[k].2.1 else if j = k * 4 then .int .i64 l[k].1 else stpPart l k j) (k * 4 + 2) _ (if_pos rfl) (fun i hi => if_neg hi)).set (v' := fun j => if j = k * 4 + 3 then .string l[k].2.2.2 else if j = k * 4 + 2 then .int .i64 l[k].2.2.1 else if j = k * 4 + 1 then .int .i64 l[k].2.1 else if j = k * 4 then .int .i64 l[k].1 else stpPart l k j) (k * 4 + 3) _ (if_pos rfl) (fun i hi => if_neg hi)).congr fun j _ => ?_
  have e0 := stpCs_0 l k hk
  have e1 := stpCs_1 l k hk
  have e2 := stpCs_2 l k hk
  have e3 := stpCs_3 l k hk
  by_cases h3 : j = k * 4 + 3
  · subst h3; simp [stpPart, e3]; try omega
  by_cases h2 : j = k * 4 + 2
  · subst h2; simp [stpPart, e2]; try omega
  by_cases h1 : j = k * 4 + 1
  · subst h1; simp [stpPart, e1]; try omega
  by_cases h0 : j = k * 4
  · subst h0; simp [stpPart, e0]; try omega
  simp only [h0, h1, h2, h3, if_false, stpPart]
  by_cases h9 : j < k * 4
  · rw [if_pos h9, if_pos (by omega)]
  · rw [if_neg h9, if_neg (by omega)]

def stpSizeRel (l : List stpT) (left : Int) (w : World) (x i : Value) (wr : World) : Prop :=
  ∃ (k : Nat) (r : Int), k ≤ l.length ∧ i = .int .i64 k ∧ x = .int .i64 r ∧ 0 ≤ r ∧ r ≤ left ∧ (∀ j (h : j < l.length), j < k → (l[j].2.2.2.size : Int) ≤ left) ∧ Below w.heap.size w wr
/-- The mark of cell j. -/
def stpMark (k j : Nat) : Value := if j % 4 = 0 then .int .i64 ((k + j : Nat) : Int) else if j % 4 = 1 then .int .i64 ((k + j : Nat) : Int) else if j % 4 = 2 then .int .i64 ((k + j : Nat) : Int) else .string (markS (k + j))
def stpMarks (k n : Nat) : List Value := (List.range (n * 4)).map (stpMark k)
def stpMarked (k i : Nat) (xs : List Value) : List Value := (List.range xs.length).map fun j => if j < i then stpMark k j else xs.getD j undef
theorem stpMarked_zero (k : Nat) (xs : List Value) : stpMarked k 0 xs = xs := by
  apply List.ext_getElem
  · simp [stpMarked]
  · intro j h1 h2; simp [stpMarked, h2]
theorem stpMarked_all (k n : Nat) (xs : List Value) (h : xs.length = n * 4) : stpMarked k (n * 4) xs = stpMarks k n := by
  apply List.ext_getElem
  · simp [stpMarked, stpMarks, h]
  · intro j h1 h2; simp [stpMarked, h] at h1; simp [stpMarked, stpMarks, h1]
theorem stpMarked_set (k i : Nat) (xs : List Value) : (stpMarked k i xs).set i (stpMark k i) = stpMarked k (i + 1) xs := by
  apply List.ext_getElem
  · simp [stpMarked]
  · intro j h1 h2
    rw [List.getElem_set]
    by_cases hj : i = j
    · subst hj; simp [stpMarked]
    · rw [if_neg hj]; simp only [stpMarked, List.getElem_map, List.getElem_range]
      by_cases hji : j < i
      · rw [if_pos hji, if_pos (by omega)]
      · rw [if_neg hji, if_neg (by omega)]
theorem stpMarks_at (k n j : Nat) (h : j < n * 4) : (stpMarks k n)[j]? = some (stpMark k j) := by simp [stpMarks, h]
theorem stpMark_0 (k j : Nat) : stpMark k (j * 4) = .int .i64 ((k + j * 4 : Nat) : Int) := by unfold stpMark; rw [if_pos (by omega)]
theorem stpMark_1 (k j : Nat) : stpMark k (j * 4 + 1) = .int .i64 ((k + j * 4 + 1 : Nat) : Int) := by unfold stpMark; rw [if_neg (by omega), if_pos (by omega)]; rfl
theorem stpMark_2 (k j : Nat) : stpMark k (j * 4 + 2) = .int .i64 ((k + j * 4 + 2 : Nat) : Int) := by unfold stpMark; rw [if_neg (by omega), if_neg (by omega), if_pos (by omega)]; rfl
theorem stpMark_3 (k j : Nat) : stpMark k (j * 4 + 3) = .string (markS (k + j * 4 + 3)) := by unfold stpMark; rw [if_neg (by omega), if_neg (by omega), if_neg (by omega)]; rfl
def stpMarkRel (lo : Nat) (v : Value) (k n : Nat) (xs : List Value) (w : World) (q i : Value) (wr : World) : Prop :=
  ∃ j : Nat, j ≤ n ∧ q = .int .i64 ((k + j * 4 : Nat) : Int) ∧ i = .int .i64 j ∧ Own wr lo v n 4 (stpMarked k (j * 4) xs) ∧ w.grownBy wr (blk v n)
def stpHeldRel (k n : Nat) (w : World) (q i : Value) (wr : World) : Prop :=
  ∃ j : Nat, j ≤ n ∧ q = .int .i64 ((k + j * 4 : Nat) : Int) ∧ i = .int .i64 j ∧ Below w.heap.size w wr

end Go.Proofs.YthkbllkhomjmbaaGreatDoor
