/- Writes: the specification's and the program's. -/
import Derived.Test.YthkbllkhomjmbaaAGr
import Derived.Test.YthkbllkhomjmbaaBStepM
namespace Go.Proofs.Ythkbllkhomjmbaa
open Go.RowKit

/-- The steps among the first k that are no labels. -/
def wrT (l : List stpT) (k : Nat) : List stpT := (l.take k).filter fun s => s.1 != 5
def writesL (l : List stpT) : List stpT := if 20 < l.length then [] else wrT l l.length
theorem wrT_zero (l : List stpT) : wrT l 0 = [] := rfl
theorem wrT_no (l : List stpT) (k : Nat) (h : k < l.length) (h5 : l[k].1 = 5) : wrT l (k + 1) = wrT l k := by
  unfold wrT
  rw [List.take_succ_eq_append_getElem h, List.filter_append]
  simp [h5]
theorem wrT_yes (l : List stpT) (k : Nat) (h : k < l.length) (h5 : l[k].1 ≠ 5) : wrT l (k + 1) = wrT l k ++ [l[k]] := by
  unfold wrT
  rw [List.take_succ_eq_append_getElem h, List.filter_append]
  simp [h5]
theorem wrT_len (l : List stpT) (k : Nat) : (wrT l k).length ≤ k := by
  unfold wrT
  have h1 := List.length_filter_le (fun s : stpT => s.1 != 5) (l.take k)
  have h2 : (l.take k).length ≤ k := by simp; omega
  omega
theorem writesL_len (l : List stpT) : (writesL l).length ≤ 20 := by
  unfold writesL
  split
  · simp
  · have := wrT_len l l.length; omega
theorem stpCs_snoc (l : List stpT) (x : stpT) : stpCs (l ++ [x]) = stpCs l ++ [.int .i64 x.1, .int .i64 x.2.1, .int .i64 x.2.2.1, .string x.2.2.2] := by rw [stpCs_append]; rfl
theorem four_new (w : World) (x y z u : Value) (t : TypeId) : ∀ j v, [x, y, z, u][j]? = some v → (w.alloc (.cells #[x, y, z, u] t)).cell? ((⟨w.heap.size, 0, none⟩ : Addr).add j) = some v := by
  intro j u hj
  rw [Addr.add_lit, (bx_new w t #[x, y, z, _]).cell]
  simpa using hj
theorem gr_form {w : World} {lo e sz n : Nat} {v : Value} {xs : List Value} (h : Gr w lo e sz v n xs) : ∃ a c, v = .slice a n c := by
  obtain ⟨a, c, rfl, -⟩ := h.own.2
  exact ⟨a, c, rfl⟩
/-- What a call gives that makes a list of steps which may be appended to. -/
def MadeS (w : World) (l : List stpT) (e : Ending) (w' : World) : Prop := ∃ v, e = .returned v ∧ Gr w' w.heap.size 26 4 v l.length (stpCs l) ∧ Below w.heap.size w w'
theorem MadeS.row {w w' : World} {l : List stpT} {e : Ending} (h : MadeS w l e w') : MadeRow w l.length 4 (stpCs l) e w' := by
  obtain ⟨v, h1, h2, h3⟩ := h
  exact ⟨v, h1, h2.own, h3⟩
def WrRel (l : List stpT) (w : World) (lv i : Value) (wr : World) : Prop :=
  ∃ k : Nat, k ≤ l.length ∧ i = .int .i64 k ∧ Gr wr w.heap.size 26 4 lv (wrT l k).length (stpCs (wrT l k)) ∧ Below w.heap.size w wr


end Go.Proofs.Ythkbllkhomjmbaa
