/- Lists of extents: mathematics. -/
import Derived.Test.YtmhmjofmafeidaaAFreeM
import Derived.Test.YtmhmjofmafeidaaLExtent
namespace Go.Proofs.Ytmhmjofmafeidaa
open Go.RowKit

def goodE (e : extT) : Bool := decide (0 ≤ e.1) && decide (1 ≤ e.2) && decide (e.2 ≤ 24 - e.1)
theorem goodE_iff (e : extT) : goodE e = true ↔ 0 ≤ e.1 ∧ 1 ≤ e.2 ∧ e.2 ≤ 24 - e.1 := by simp [goodE, and_assoc]
def cov (e : extT) (k : Nat) : Bool := decide (e.1 ≤ (k : Int)) && decide ((k : Int) < e.1 + e.2)
theorem cov_iff (e : extT) (k : Nat) : cov e k = true ↔ e.1 ≤ (k : Int) ∧ (k : Int) < e.1 + e.2 := by simp [cov]
/-- How many extents cover k. -/
def cnt (l : List extT) (k : Nat) : Nat := l.countP (cov · k)
theorem cnt_nil (k : Nat) : cnt [] k = 0 := rfl
theorem cnt_take (l : List extT) (j : Nat) (h : j < l.length) (k : Nat) : cnt (l.take (j + 1)) k = cnt (l.take j) k + (if cov l[j] k then 1 else 0) := by
  unfold cnt; rw [List.take_succ_eq_append_getElem h, List.countP_append, List.countP_singleton]
theorem cnt_le (l : List extT) (j k : Nat) : cnt (l.take j) k ≤ cnt l k := by
  unfold cnt
  conv => rhs; rw [← List.take_append_drop j l]
  rw [List.countP_append]; omega
def twice (l : List extT) : Bool := (List.range 24).any fun k => decide (1 < cnt l k)
theorem twice_iff (l : List extT) : twice l = true ↔ ∃ k, k < 24 ∧ 1 < cnt l k := by simp [twice]
theorem twice_not (l : List extT) : twice l = false ↔ ∀ k, k < 24 → cnt l k ≤ 1 := by
  rw [← Bool.not_eq_true, twice_iff]
  constructor
  · intro h k hk
    rcases Nat.lt_or_ge 1 (cnt l k) with h1 | h1
    · exact absurd ⟨k, hk, h1⟩ h
    · exact h1
  · rintro h ⟨k, hk, h1⟩
    have := h k hk
    omega
/-- The numbers below n that are covered once. -/
def onceT (l : List extT) : Nat → List Int
  | 0 => []
  | n + 1 => if cnt l n = 1 then onceT l n ++ [(n : Int)] else onceT l n
theorem onceT_yes (l : List extT) (n : Nat) (h : cnt l n = 1) : onceT l (n + 1) = onceT l n ++ [(n : Int)] := by rw [onceT, if_pos h]
theorem onceT_no (l : List extT) (n : Nat) (h : ¬ cnt l n = 1) : onceT l (n + 1) = onceT l n := by rw [onceT, if_neg h]
theorem onceT_len (l : List extT) : ∀ n, (onceT l n).length ≤ n
  | 0 => by simp [onceT]
  | n + 1 => by
    have := onceT_len l n
    unfold onceT
    split
    · simp; omega
    · omega
/-- The answer of ListOf. -/
def listO (l : List extT) : List Int × Int :=
  if 400 < l.length then ([], 2) else if l.all goodE then (if twice l then ([], 12) else (onceT l 24, 0)) else ([], 1)
theorem listO_len (l : List extT) : (listO l).1.length ≤ 24 := by
  unfold listO
  split
  · simp
  · split
    · split
      · simp
      · exact onceT_len l 24
    · simp
theorem listO_big (l : List extT) (h : 400 < l.length) : listO l = ([], 2) := by unfold listO; rw [if_pos h]
theorem listO_bad (l : List extT) (h : ¬ 400 < l.length) (e : extT) (he : e ∈ l) (hb : goodE e = false) : listO l = ([], 1) := by
  unfold listO
  rw [if_neg h, if_neg]
  intro ha
  have := (List.all_eq_true.1 ha) e he
  rw [hb] at this; cases this
theorem all_good (l : List extT) (h : ∀ j (hj : j < l.length), goodE l[j] = true) : l.all goodE = true := by
  rw [List.all_eq_true]
  intro e he
  obtain ⟨j, hj, rfl⟩ := List.getElem_of_mem he
  exact h j hj
theorem listO_twice (l : List extT) (h : ¬ 400 < l.length) (hg : ∀ j (hj : j < l.length), goodE l[j] = true) (ht : twice l = true) : listO l = ([], 12) := by
  unfold listO
  rw [if_neg h, if_pos (all_good l hg), if_pos ht]
theorem listO_list (l : List extT) (h : ¬ 400 < l.length) (hg : ∀ j (hj : j < l.length), goodE l[j] = true) (ht : twice l = false) : listO l = (onceT l 24, 0) := by
  unfold listO
  rw [if_neg h, if_pos (all_good l hg), ht]; rfl
/-- The bits of an extent. -/
def covN (e : extT) : Nat := (2 ^ e.2.toNat - 1) * 2 ^ e.1.toNat
theorem covN_bit (e : extT) (h : goodE e = true) (k : Nat) : (covN e).testBit k = cov e k := by
  rw [goodE_iff] at h
  unfold covN cov
  rw [Nat.testBit_mul_two_pow, Nat.testBit_two_pow_sub_one]
  by_cases h1 : e.1 ≤ (k : Int)
  · by_cases h2 : (k : Int) < e.1 + e.2
    · have a : e.1.toNat ≤ k := by omega
      have b : k - e.1.toNat < e.2.toNat := by omega
      simp [h1, h2, a, b]
    · have b : ¬ k - e.1.toNat < e.2.toNat := by omega
      simp [h2, b]
  · have a : ¬ e.1.toNat ≤ k := by omega
    simp [h1, a]
theorem covN_lt (e : extT) (h : goodE e = true) : covN e < 2 ^ 24 := by
  rw [goodE_iff] at h
  unfold covN
  have h0 : 1 ≤ 2 ^ e.2.toNat := Nat.one_le_two_pow
  have h1 : (2 ^ e.2.toNat - 1) * 2 ^ e.1.toNat < 2 ^ e.2.toNat * 2 ^ e.1.toNat := Nat.mul_lt_mul_of_pos_right (by omega) (Nat.pow_pos (by decide))
  rw [← Nat.pow_add] at h1
  exact Nat.lt_of_lt_of_le h1 (Nat.pow_le_pow_right (by decide) (by omega))
/-- The bits of the first j extents. -/
def orT (l : List extT) : Nat → Nat
  | 0 => 0
  | j + 1 => orT l j ||| covN (l[j]?.getD (0, 0))
theorem orT_succ (l : List extT) (j : Nat) (h : j < l.length) : orT l (j + 1) = orT l j ||| covN l[j] := by simp [orT, h]
theorem orT_lt (l : List extT) (hg : ∀ j (hj : j < l.length), goodE l[j] = true) : ∀ j, j ≤ l.length → orT l j < 2 ^ 24
  | 0, _ => by simp [orT]
  | j + 1, hj => by rw [orT_succ l j (by omega)]; exact Nat.or_lt_two_pow (orT_lt l hg j (by omega)) (covN_lt _ (hg j (by omega)))
theorem orT_bit (l : List extT) (hg : ∀ j (hj : j < l.length), goodE l[j] = true) : ∀ j, j ≤ l.length → ∀ k, (orT l j).testBit k = decide (1 ≤ cnt (l.take j) k)
  | 0, _, k => by simp [orT, cnt]
  | j + 1, hj, k => by
    rw [orT_succ l j (by omega), Nat.testBit_or, orT_bit l hg j (by omega) k, covN_bit _ (hg j (by omega)), cnt_take l j (by omega) k]
    cases cov l[j] k <;> simp
theorem and_yes (l : List extT) (hg : ∀ j (hj : j < l.length), goodE l[j] = true) (j : Nat) (hj : j < l.length) (h : orT l j &&& covN l[j] ≠ 0) : twice l = true := by
  obtain ⟨k, hk⟩ := Nat.exists_testBit_of_ne_zero h
  rw [Nat.testBit_and, Bool.and_eq_true, orT_bit l hg j (by omega), covN_bit _ (hg j hj), decide_eq_true_eq] at hk
  rw [twice_iff]
  have h2 := (cov_iff _ _).1 hk.2
  have h3 := (goodE_iff _).1 (hg j hj)
  refine ⟨k, by omega, ?_⟩
  have := cnt_le l (j + 1) k
  rw [cnt_take l j hj k, if_pos hk.2] at this
  omega
theorem and_no (l : List extT) (hg : ∀ j (hj : j < l.length), goodE l[j] = true) (j : Nat) (hj : j < l.length) (h : orT l j &&& covN l[j] = 0) (h1 : ∀ k, cnt (l.take j) k ≤ 1) (k : Nat) : cnt (l.take (j + 1)) k ≤ 1 := by
  have h2 : (orT l j &&& covN l[j]).testBit k = false := by rw [h]; simp
  rw [Nat.testBit_and, orT_bit l hg j (by omega), covN_bit _ (hg j hj)] at h2
  have := h1 k
  rw [cnt_take l j hj k]
  cases hc : cov l[j] k with
  | false => simp; omega
  | true =>
    rw [hc] at h2
    simp at h2
    simp; omega
theorem from_or (l : List extT) (hg : ∀ j (hj : j < l.length), goodE l[j] = true) (h1 : ∀ k, cnt l k ≤ 1) : ∀ n, n ≤ 24 → bitsL ((orT l l.length : Nat) : Int) n = onceT l n
  | 0, _ => rfl
  | n + 1, hn => by
    have ih := from_or l hg h1 n (by omega)
    have hl := orT_lt l hg l.length (Nat.le_refl _)
    have hb := bitI_nat (orT l l.length) n (Nat.lt_trans hl (by decide))
    rw [orT_bit l hg l.length (Nat.le_refl _), List.take_length] at hb
    have := h1 n
    unfold bitsL onceT
    rw [hb, ih]
    by_cases h : cnt l n = 1
    · simp [h]
    · have h' : ¬ 1 ≤ cnt l n := by omega
      simp only [h, h', if_false, decide_false]; rfl
end Go.Proofs.Ytmhmjofmafeidaa
