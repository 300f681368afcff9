/- A block of memory whose cells are told by a function; free of any program. -/
import Derived.WalkKit
import Derived.WalkSpells
import Derived.WalkLawsBesides
import Derived.Below
import Derived.Laws.Rows
import Derived.Lib.Hide
namespace Go.Proofs.YtcckpkcjekcajaaDoor
open Go.RowKit

/-- v 0 .. v (n - 1) as cells. -/
def cellsV (n : Nat) (v : Nat → Value) : Array Value := ((List.range n).map v).toArray
theorem cellsV_size (n : Nat) (v : Nat → Value) : (cellsV n v).size = n := by simp [cellsV]
theorem cellsV_at (n : Nat) (v : Nat → Value) (j : Nat) (h : j < n) : (cellsV n v)[j]? = some (v j) := by simp [cellsV, h]
theorem cellsV_list (n : Nat) (v : Nat → Value) : (cellsV n v).toList = (List.range n).map v := by simp [cellsV]
/-- Block g holds v 0 .. v (n - 1), laid as cells of the type T. -/
def CellsAt (wr : World) (g : Nat) (T : TypeId) (n : Nat) (v : Nat → Value) : Prop := wr.heap[g]? = some (.cells (cellsV n v) T (0, 0))
theorem CellsAt.cell {wr : World} {g n : Nat} {T : TypeId} {v : Nat → Value} (h : CellsAt wr g T n v) (j : Nat) (hj : j < n) : wr.cell? ⟨g, j, none⟩ = some (v j) := by
  rw [cell_of_row wr g j _ T (0, 0) h, cellsV_at n v j hj]
theorem CellsAt.frozen {wr : World} {g n : Nat} {T : TypeId} {v : Nat → Value} (h : CellsAt wr g T n v) (j : Nat) : wr.frozen? ⟨g, j, none⟩ = false := frozen_of_row wr g j _ T h
theorem CellsAt.lt {wr : World} {g n : Nat} {T : TypeId} {v : Nat → Value} (h : CellsAt wr g T n v) : g < wr.heap.size := (Array.getElem?_eq_some_iff.1 h).1
theorem CellsAt.set {wr : World} {g n : Nat} {T : TypeId} {v v' : Nat → Value} (h : CellsAt wr g T n v) (j : Nat) (x : Value) (hx : v' j = x) (hf : ∀ i, i ≠ j → v' i = v i) : CellsAt (wr.setCell ⟨g, j, none⟩ x) g T n v' := by
  unfold CellsAt
  rw [heap_setCell_same wr g j _ T x h]
  congr 2
  apply Array.ext_getElem?
  intro i
  unfold cellsV
  simp only [List.setIfInBounds_toArray, List.getElem?_toArray, List.getElem?_set, List.length_map, List.length_range]
  by_cases hi : j = i
  · subst hi; by_cases hj : j < n <;> simp [hj, hx]
  · rw [if_neg hi]; by_cases hn : i < n
    · simp [hn, hf i (fun e => hi e.symm)]
    · simp [hn]
theorem cellsV_congr {n : Nat} {v v' : Nat → Value} (hf : ∀ i, i < n → v' i = v i) : cellsV n v' = cellsV n v := by
  unfold cellsV; congr 1
  apply List.map_congr_left; intro i hi; rw [hf i (by simpa using hi)]
theorem CellsAt.congr {wr : World} {g n : Nat} {T : TypeId} {v v' : Nat → Value} (h : CellsAt wr g T n v) (hf : ∀ i, i < n → v' i = v i) : CellsAt wr g T n v' := by
  unfold CellsAt at *; rw [h, cellsV_congr hf]
theorem CellsAt.below {wr wr' : World} {g n B : Nat} {T : TypeId} {v : Nat → Value} (h : CellsAt wr g T n v) (hb : Below B wr wr') (hg : g < B) : CellsAt wr' g T n v := (hb.block g hg).trans h
theorem CellsAt.drew {wr : World} {g n : Nat} {T : TypeId} {v : Nat → Value} (h : CellsAt wr g T n v) : CellsAt wr.drew g T n v := h
theorem CellsAt.drewN {wr : World} {g n m : Nat} {T : TypeId} {v : Nat → Value} (h : CellsAt wr g T n v) : CellsAt (wr.drewN m) g T n v := h
theorem cellsAt_new (W : World) (g n : Nat) (T : TypeId) (v : Nat → Value) (hg : W.heap.size = g) {cs : Array Value} (hc : cs = cellsV n v) : CellsAt (W.alloc (.cells cs T)) g T n v := by
  subst hg; subst hc; exact heap_alloc_new W _
/-- A list known whole as such a block. -/
theorem cellsAt_list {wr : World} {g : Nat} {T : TypeId} {xs : List Value} (h : wr.heap[g]? = some (.cells xs.toArray T (0, 0))) (n : Nat) (v : Nat → Value) (hn : xs.length = n) (hv : ∀ j, j < n → xs[j]? = some (v j)) : CellsAt wr g T n v := by
  unfold CellsAt; rw [h]; congr 2
  apply Array.ext_getElem?
  intro j
  by_cases hj : j < n
  · rw [cellsV_at n v j hj]; simpa using hv j hj
  · rw [Array.getElem?_eq_none (by simp; omega), Array.getElem?_eq_none (by rw [cellsV_size]; omega)]
end Go.Proofs.YtcckpkcjekcajaaDoor
