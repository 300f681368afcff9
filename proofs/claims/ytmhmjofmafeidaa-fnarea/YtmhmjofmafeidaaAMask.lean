/- The bit mask of a list: mathematics. -/
import Derived.Test.YtmhmjofmafeidaaABits
namespace Go.Proofs.Ytmhmjofmafeidaa
open Go.RowKit

/-- The mask of the first k numbers. -/
def maskT (l : List Int) : Nat → Nat
  | 0 => 0
  | k + 1 => maskT l k + 2 ^ (l[k]?.getD 0).toNat
theorem maskT_succ (l : List Int) (k : Nat) (h : k < l.length) : maskT l (k + 1) = maskT l k + 2 ^ l[k].toNat := by simp [maskT, h]
def maskL (l : List Int) : Int := if okL l then ((maskT l l.length : Nat) : Int) else -1
theorem maskT_lt (l : List Int) (h : okL l = true) : ∀ k, k ≤ l.length → maskT l k < 2 ^ (prev l k + 1).toNat
  | 0, _ => by simp [maskT, prev]
  | k + 1, hk => by
    have h1 := maskT_lt l h k (by omega)
    have h2 := okL_prev l h k (by omega)
    have h3 := okL_at l h k (by omega)
    have h4 : (prev l k + 1).toNat ≤ l[k].toNat := by omega
    have h5 := Nat.pow_le_pow_right (n := 2) (by decide) h4
    have h6 : (prev l (k + 1) + 1).toNat = l[k].toNat + 1 := by rw [prev_succ l k (by omega)]; omega
    rw [maskT_succ l k (by omega), h6, Nat.pow_succ]
    omega
theorem maskT_room (l : List Int) (h : okL l = true) (k : Nat) (hk : k < l.length) : maskT l k < 2 ^ l[k].toNat := by
  have h1 := maskT_lt l h k (by omega)
  have h2 := okL_prev l h k hk
  have h4 : (prev l k + 1).toNat ≤ l[k].toNat := by have := okL_at l h k hk; omega
  have h5 := Nat.pow_le_pow_right (n := 2) (by decide) h4
  omega
theorem maskT_top (l : List Int) (h : okL l = true) (k : Nat) (hk : k ≤ l.length) : maskT l k < 16777216 := by
  have h1 := maskT_lt l h k hk
  have h2 : (prev l k + 1).toNat ≤ 24 := by
    cases k with
    | zero => simp [prev]
    | succ k => rw [prev_succ l k (by omega)]; have := okL_at l h k (by omega); omega
  have h5 := Nat.pow_le_pow_right (n := 2) (by decide) h2
  have h6 : (2 : Nat) ^ 24 = 16777216 := by decide
  omega
theorem pow_small (x : Int) (h0 : 0 ≤ x) (h1 : x < 24) : 2 ^ x.toNat < 16777216 := by
  have h2 : x.toNat ≤ 23 := by omega
  have h5 := Nat.pow_le_pow_right (n := 2) (by decide) h2
  have h6 : (2 : Nat) ^ 23 = 8388608 := by decide
  omega
theorem or_pow (a n : Nat) (h : a < 2 ^ n) : a ||| 2 ^ n = a + 2 ^ n := by
  have := Nat.two_pow_add_eq_or_of_lt h 1
  rw [Nat.mul_one] at this
  rw [Nat.or_comm, ← this, Nat.add_comm]
theorem i64_small (n : Nat) (h : n < 9223372036854775808) : IntKind.i64.wrap (n : Int) = (n : Int) := by rw [IntKind.wrap_i64]; omega
theorem mod64 (n : Nat) (h : n < 9223372036854775808) : n % 2 ^ 64 = n := Nat.mod_eq_of_lt (by omega)
theorem i64_or (a b : Nat) (ha : a < 2 ^ 62) (hb : b < 2 ^ 62) : bits BinOp.or IntKind.i64 (a : Int) (b : Int) = ((a ||| b : Nat) : Int) := by
  show IntKind.i64.wrap ((BitVec.ofInt 64 (a : Int) ||| BitVec.ofInt 64 (b : Int)).toNat : Int) = _
  have h := Nat.or_lt_two_pow ha hb
  have e : (2 : Nat) ^ 62 = 4611686018427387904 := by decide
  rw [BitVec.toNat_or, BitVec.ofInt_natCast, BitVec.ofInt_natCast, BitVec.toNat_ofNat, BitVec.toNat_ofNat, mod64 a (by omega), mod64 b (by omega), i64_small _ (by omega)]
theorem i64_and (a b : Nat) (ha : a < 2 ^ 62) (hb : b < 2 ^ 62) : bits BinOp.and IntKind.i64 (a : Int) (b : Int) = ((a &&& b : Nat) : Int) := by
  show IntKind.i64.wrap ((BitVec.ofInt 64 (a : Int) &&& BitVec.ofInt 64 (b : Int)).toNat : Int) = _
  have h := Nat.and_lt_two_pow a hb
  have e : (2 : Nat) ^ 62 = 4611686018427387904 := by decide
  rw [BitVec.toNat_and, BitVec.ofInt_natCast, BitVec.ofInt_natCast, BitVec.toNat_ofNat, BitVec.toNat_ofNat, mod64 a (by omega), mod64 b (by omega), i64_small _ (by omega)]
theorem bitI_nat (n k : Nat) (h : n < 2 ^ 62) : bitI (n : Int) k = n.testBit k := by
  unfold bitI
  rw [show (n : Int) / 2 ^ k = ((n / 2 ^ k : Nat) : Int) by push_cast; rfl, show (1 : Int) = ((1 : Nat) : Int) by rfl, i64_and _ 1 (Nat.lt_of_le_of_lt (Nat.div_le_self _ _) h) (by decide), Nat.testBit_eq_decide_div_mod_eq, Nat.and_one_is_mod]
  generalize n / 2 ^ k % 2 = r
  by_cases h1 : r = 1
  · subst h1; rfl
  · have h2 : ¬ (r : Int) = 1 := by omega
    simp [h1, h2]
theorem wrap_pow (x : Int) (h0 : 0 ≤ x) (h1 : x < 24) : wrap64 (2 ^ x.toNat) = ((2 ^ x.toNat : Nat) : Int) := by
  have h := pow_small x h0 h1
  have e : (2 : Int) ^ x.toNat = ((2 ^ x.toNat : Nat) : Int) := by push_cast; rfl
  rw [e]
  have h2 := i64_small (2 ^ x.toNat) (Nat.lt_trans h (by decide))
  rw [IntWalk.i64_left] at h2
  exact h2
theorem or_step (l : List Int) (h : okL l = true) (k : Nat) (hk : k < l.length) : bits BinOp.or IntKind.i64 ((maskT l k : Nat) : Int) (wrap64 (2 ^ l[k].toNat)) = ((maskT l (k + 1) : Nat) : Int) := by
  have h1 := okL_at l h k hk
  have h2 := maskT_top l h k (by omega)
  have h3 := pow_small _ h1.1 h1.2
  have e : (2 : Nat) ^ 62 = 4611686018427387904 := by decide
  rw [wrap_pow _ h1.1 h1.2, i64_or _ _ (by omega) (by omega), or_pow _ _ (maskT_room l h k hk), maskT_succ l k hk]
theorem maskL_ge (l : List Int) : -1 ≤ maskL l := by unfold maskL; split <;> omega
theorem maskL_lt (l : List Int) : maskL l < 16777216 := by
  unfold maskL
  split
  · have := maskT_top l (by assumption) l.length (Nat.le_refl _); omega
  · omega
end Go.Proofs.Ytmhmjofmafeidaa
