/- Records and what is kept: free of any program. -/
import Derived.Test.YthkbllkhomjmbaaDoorKM0
namespace Go.Proofs.YthkbllkhomjmbaaDoor
open Go.RowKit

def recB (n : Int) (s : stpT) : Bool := isT n && stepB 8 s.1 s.2.1 s.2.2.1 s.2.2.2
def recE (n : Int) (s : stpT) : ByteArray := putS n ++ stepS s.1 s.2.1 s.2.2.1 s.2.2.2
def recBs (n : Int) (s : stpT) : ByteArray := if recB n s = true then sealS (recE n s) else ⟨#[]⟩
def noStp : stpT := (0, 0, 0, ⟨#[]⟩)
theorem recB_iff (n : Int) (s : stpT) : recB n s = true ↔ (0 ≤ n ∧ n ≤ 1000000) ∧ stepB 8 s.1 s.2.1 s.2.2.1 s.2.2.2 = true := by
  unfold recB; rw [Bool.and_eq_true, isT_iff]
theorem recE_size {n : Int} {s : stpT} (h : recB n s = true) : (recE n s).size ≤ 100 := by
  obtain ⟨⟨n0, n1⟩, h⟩ := (recB_iff _ _).1 h
  obtain ⟨k0, k1, t0, t1, f0, f1, d1⟩ := ok_bounds h
  have z0 := putS_size n (by omega) (by omega)
  have z1 := putS_size s.1 (by omega) (by omega)
  have z2 := putS_size s.2.1 (by omega) (by omega)
  have z3 := putS_size s.2.2.1 (by omega) (by omega)
  have z4 := putS_size s.2.2.2.size (by omega) (by omega)
  have hz := stepS_size2 s.1 s.2.1 s.2.2.1 s.2.2.2
  unfold recE
  rw [ByteArray.size_append]; omega
theorem recBs_yes {n : Int} {s : stpT} (h : recB n s = true) : recBs n s = sealS (recE n s) := if_pos h
theorem recBs_no {n : Int} {s : stpT} (h : recB n s = false) : recBs n s = ⟨#[]⟩ := if_neg (by rw [h]; simp)
def keptN (l : List stpT) : Nat → Nat
  | 0 => 0
  | k + 1 => if (l.getD k noStp).1 = 5 then k + 1 else keptN l k
def keptS (l : List stpT) : Nat := if l.length ≤ 20 then keptN l l.length else 0
theorem keptN_le (l : List stpT) : ∀ k, keptN l k ≤ k
  | 0 => Nat.le_refl _
  | k + 1 => by
    unfold keptN
    split
    · exact Nat.le_refl _
    · have := keptN_le l k; omega
theorem keptN_label (l : List stpT) : ∀ k, keptN l k = 0 ∨ (l.getD (keptN l k - 1) noStp).1 = 5
  | 0 => .inl rfl
  | k + 1 => by
    unfold keptN
    split
    · rename_i h; exact .inr (by simpa using h)
    · exact keptN_label l k
theorem keptS_le (l : List stpT) : keptS l ≤ l.length := by
  unfold keptS
  split
  · exact keptN_le l _
  · exact Nat.zero_le _
theorem keptS_label (l : List stpT) : keptS l = 0 ∨ (l.getD (keptS l - 1) noStp).1 = 5 := by
  unfold keptS
  split
  · exact keptN_label l _
  · exact .inl rfl
theorem keptN_yes {l : List stpT} {k : Nat} (hk : k < l.length) (h : l[k].1 = 5) : keptN l (k + 1) = k + 1 := by
  rw [keptN, if_pos (by rw [List.getD_eq_getElem?_getD, List.getElem?_eq_getElem hk]; exact h)]
theorem keptN_no {l : List stpT} {k : Nat} (hk : k < l.length) (h : l[k].1 ≠ 5) : keptN l (k + 1) = keptN l k := by
  rw [keptN, if_neg (by rw [List.getD_eq_getElem?_getD, List.getElem?_eq_getElem hk]; exact h)]
end Go.Proofs.YthkbllkhomjmbaaDoor
