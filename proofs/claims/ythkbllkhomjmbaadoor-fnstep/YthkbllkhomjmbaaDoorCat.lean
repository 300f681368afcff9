/- Texts one behind the other; free of any program. -/
import Derived.Test.YthkbllkhomjmbaaDoorBase
namespace Go.Proofs.YthkbllkhomjmbaaDoor
open Go.RowKit

def cat : List ByteArray → ByteArray
  | [] => ⟨#[]⟩
  | x :: l => x ++ cat l
theorem cat_cons (x : ByteArray) (l : List ByteArray) : cat (x :: l) = x ++ cat l := rfl
theorem cat_one (x : ByteArray) : cat [x] = x := by
  apply ByteArray.ext; simp [cat]
theorem cat_append (a b : List ByteArray) : cat (a ++ b) = cat a ++ cat b := by
  induction a with
  | nil => apply ByteArray.ext; simp [cat]
  | cons x l ih => rw [List.cons_append, cat_cons, cat_cons, ih, ByteArray.append_assoc]
theorem cat_succ (l : List ByteArray) (k : Nat) (h : k < l.length) : cat (l.take (k + 1)) = cat (l.take k) ++ l[k] := by
  rw [List.take_succ_eq_append_getElem h, cat_append, cat_one]
theorem cat_size_take (l : List ByteArray) (k : Nat) : (cat (l.take k)).size ≤ (cat l).size := by
  have h : cat l = cat (l.take k) ++ cat (l.drop k) := by rw [← cat_append, List.take_append_drop]
  rw [h, ByteArray.size_append]; omega
theorem cat_size_succ (l : List ByteArray) (k : Nat) (h : k < l.length) : (cat (l.take (k + 1))).size = (cat (l.take k)).size + l[k].size := by
  rw [cat_succ l k h, ByteArray.size_append]
theorem cat_two (a b : ByteArray) : cat [a, b] = a ++ b := by rw [cat_cons, cat_one]
end Go.Proofs.YthkbllkhomjmbaaDoor
