/- The free numbers of the area: mathematics. -/
import Derived.Test.YtmhmjofmafeidaaAMask
namespace Go.Proofs.Ytmhmjofmafeidaa
open Go.RowKit

/-- Whether n is in l. -/
def hasL (l : List Int) (n : Int) : Bool := l.any (· == n)
theorem hasL_iff (l : List Int) (n : Int) : hasL l n = true ↔ n ∈ l := by simp [hasL]
/-- The numbers below n that are in neither list. -/
def freeT (a b : List Int) : Nat → List Int
  | 0 => []
  | n + 1 => if hasL a n || hasL b n then freeT a b n else freeT a b n ++ [(n : Int)]
theorem freeT_yes (a b : List Int) (n : Nat) (h1 : hasL a n = false) (h2 : hasL b n = false) : freeT a b (n + 1) = freeT a b n ++ [(n : Int)] := by simp [freeT, h1, h2]
theorem freeT_no1 (a b : List Int) (n : Nat) (h1 : hasL a n = true) : freeT a b (n + 1) = freeT a b n := by simp [freeT, h1]
theorem freeT_no2 (a b : List Int) (n : Nat) (h2 : hasL b n = true) : freeT a b (n + 1) = freeT a b n := by simp [freeT, h2]
theorem freeT_len (a b : List Int) : ∀ n, (freeT a b n).length ≤ n
  | 0 => by simp [freeT]
  | n + 1 => by
    have := freeT_len a b n
    unfold freeT
    split
    · omega
    · simp; omega
def freeL (a b : List Int) : List Int := if okL a && okL b then freeT a b 24 else []
theorem freeL_len (a b : List Int) : (freeL a b).length ≤ 24 := by
  unfold freeL; split
  · exact freeT_len a b 24
  · simp
/-- The bits of a list's mask. -/
theorem mask_bit (l : List Int) (h : okL l = true) : ∀ k, k ≤ l.length → ∀ j : Nat, (maskT l k).testBit j = hasL (l.take k) (j : Int)
  | 0, _, j => by simp [maskT, hasL]
  | k + 1, hk, j => by
    have ih := mask_bit l h k (by omega) j
    have hr := maskT_room l h k (by omega)
    have hx := okL_at l h k (by omega)
    rw [maskT_succ l k (by omega), ← or_pow _ _ hr, Nat.testBit_or, ih, Nat.testBit_two_pow, List.take_succ_eq_append_getElem (by omega)]
    simp only [hasL, List.any_append, List.any_cons, List.any_nil, Bool.or_false]
    congr 1
    by_cases e : l[k].toNat = j
    · have : l[k] = (j : Int) := by omega
      simp [e, this]
    · have : ¬ l[k] = (j : Int) := by omega
      simp [e, this]
theorem mask_has (l : List Int) (h : okL l = true) (j : Nat) : (maskT l l.length).testBit j = hasL l (j : Int) := by
  rw [mask_bit l h l.length (Nat.le_refl _) j, List.take_length]
theorem i64_andNot (a b : Nat) (ha : a < 2 ^ 62) (hb : b < 2 ^ 62) : ∃ n : Nat, n ≤ a ∧ (∀ k, k < 64 → n.testBit k = (a.testBit k && !b.testBit k)) ∧ IntKind.i64.wrap ((BitVec.ofInt 64 (a : Int) &&& ~~~ BitVec.ofInt 64 (b : Int)).toNat : Int) = (n : Int) := by
  have e : (2 : Nat) ^ 62 = 4611686018427387904 := by decide
  refine ⟨(BitVec.ofInt 64 (a : Int) &&& ~~~ BitVec.ofInt 64 (b : Int)).toNat, ?_, fun k hk => ?_, ?_⟩
  · rw [BitVec.toNat_and, BitVec.ofInt_natCast, BitVec.toNat_ofNat, mod64 a (by omega)]; exact Nat.and_le_left
  · rw [BitVec.toNat_and, Nat.testBit_and, BitVec.ofInt_natCast, BitVec.ofInt_natCast, BitVec.toNat_ofNat, mod64 a (by omega)]
    congr 1
    rw [BitVec.testBit_toNat, BitVec.getLsbD_not, BitVec.getLsbD_ofNat]
    simp [hk]
  · apply i64_small
    rw [BitVec.toNat_and, BitVec.ofInt_natCast, BitVec.toNat_ofNat, mod64 a (by omega)]
    exact Nat.lt_of_le_of_lt Nat.and_le_left (by omega)
theorem full_bit (k : Nat) (h : k < 24) : (16777215 : Nat).testBit k = true := by
  have : ∀ k : Fin 24, (16777215 : Nat).testBit k.val = true := by decide
  exact this ⟨k, h⟩
theorem free_of_bits (a b : List Int) (m : Nat) (hm : ∀ k, k < 24 → m.testBit k = (!(hasL a k || hasL b k))) (hl : m < 2 ^ 62) : ∀ n, n ≤ 24 → bitsL (m : Int) n = freeT a b n
  | 0, _ => rfl
  | n + 1, hn => by
    have ih := free_of_bits a b m hm hl n (by omega)
    have hb := bitI_nat m n hl
    rw [hm n (by omega)] at hb
    unfold bitsL freeT
    rw [hb, ih]
    cases hasL a n <;> cases hasL b n <;> rfl
end Go.Proofs.Ytmhmjofmafeidaa
