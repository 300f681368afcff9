/- Decoding undoes encoding: plain facts, nothing of the program. -/
import Derived.Test.YthkbllkhomjmbaaDoorGNum
import Derived.Lib.IndexBytes
namespace Go.Proofs.YthkbllkhomjmbaaDoor
open Go

/-- The bytes l stand in s from place p on. -/
def At (s : ByteArray) (p : Nat) (l : List UInt8) : Prop := ∀ j (h : j < l.length), byt s (p + j) = (l[j]).toNat
theorem At.head {s : ByteArray} {p : Nat} {b : UInt8} {l : List UInt8} (h : At s p (b :: l)) : byt s p = b.toNat := by
  have := h 0 (by simp); simpa using this
theorem At.tail {s : ByteArray} {p : Nat} {b : UInt8} {l : List UInt8} (h : At s p (b :: l)) : At s (p + 1) l := fun j hj => by
  have := h (j + 1) (by simp; omega)
  rw [show p + 1 + j = p + (j + 1) by omega, this]; simp

theorem pow_next (i : Nat) : 2 ^ (7 * (i + 1)) = 128 * 2 ^ (7 * i) := by rw [show 7 * (i + 1) = 7 + 7 * i by omega, Nat.pow_add]
theorem pow_pos7 (i : Nat) : 0 < 2 ^ (7 * i) := Nat.pow_pos (by decide)
theorem pow_big (i : Nat) (h : 9 ≤ i) : 9223372036854775808 ≤ 2 ^ (7 * i) :=
  Nat.le_trans (show 9223372036854775808 ≤ 2 ^ 63 by decide) (Nat.pow_le_pow_right (by decide) (by omega))
theorem small_nine (x i : Nat) (hi : 9 ≤ i) (h : x * 2 ^ (7 * i) < lim64) : x ≤ 1 := by
  unfold lim64 at h
  have := pow_big i hi
  rcases Nat.lt_or_ge 1 x with h2 | h2
  · have : 2 * 9223372036854775808 ≤ x * 2 ^ (7 * i) := Nat.mul_le_mul h2 this
    omega
  · exact h2
theorem addU_step (u x i : Nat) : addU u (x % 128 + 128) i + x / 128 * 2 ^ (7 * (i + 1)) = u + x * 2 ^ (7 * i) := by
  unfold addU
  rw [pow_next]
  have e : x * 2 ^ (7 * i) = x % 128 * 2 ^ (7 * i) + x / 128 * (128 * 2 ^ (7 * i)) := by
    rw [← Nat.mul_assoc, ← Nat.add_mul]; congr 1; omega
  rw [show (x % 128 + 128) % 128 = x % 128 by omega]
  omega
theorem next_lt (x i : Nat) (h : x * 2 ^ (7 * i) < lim64) : x / 128 * 2 ^ (7 * (i + 1)) < lim64 := by
  refine Nat.lt_of_le_of_lt ?_ h
  rw [pow_next, ← Nat.mul_assoc]
  exact Nat.mul_le_mul_right _ (by omega)
theorem more_val (x : Nat) : (x % 128 + 128).toUInt8.toNat = x % 128 + 128 := by
  show (x % 128 + 128) % 256 = _; omega
theorem last_val (x : Nat) (h : x < 128) : x.toUInt8.toNat = x := by
  show x % 256 = _; omega

theorem goN_read (s : ByteArray) (a : Nat) : ∀ (f i u x : Nat), (0 < x ∨ i = 0) → x * 2 ^ (7 * i) < lim64 → 10 ≤ i + f → At s (a + i) (Lib.uvarint x) → a + i + (Lib.uvarint x).length ≤ s.size →
    goN s a f i u = (unz (u + x * 2 ^ (7 * i)), ((a + i + (Lib.uvarint x).length : Nat) : Int), 0)
  | 0, i, u, x, h0, hx, hf, _, _ => by
    exfalso
    have hp := pow_big i (by omega)
    have hp2 : 2 ^ (7 * 10) ≤ 2 ^ (7 * i) := Nat.pow_le_pow_right (by decide) (by omega)
    have e : (2 : Nat) ^ (7 * 10) = 1180591620717411303424 := by decide
    have : 1 * 2 ^ (7 * i) ≤ x * 2 ^ (7 * i) := Nat.mul_le_mul_right _ (by omega)
    unfold lim64 at hx
    omega
  | f + 1, i, u, x, h0, hx, hf, hA, hz => by
    by_cases h : x < 128
    · rw [Lib.uvarint_small h] at hA hz ⊢
      have hb := hA.head
      rw [last_val x h] at hb
      simp only [List.length_singleton] at hz ⊢
      have h9 : ¬ (i = 9 ∧ 1 < byt s (a + i)) := by
        rintro ⟨rfl, h1⟩
        have := small_nine x 9 (by omega) hx
        omega
      rw [goN_last (by omega) h9 (by omega) (by omega), hb]
      unfold addU
      rw [Nat.mod_eq_of_lt h]
      simp
    · have h128 : 128 ≤ x := by omega
      rw [Lib.uvarint_big h128] at hA hz ⊢
      have hb := hA.head
      rw [more_val] at hb
      have ht := hA.tail
      have hi : i < 9 := by
        rcases Nat.lt_or_ge i 9 with h9 | h9
        · exact h9
        · have := small_nine x i h9 hx; omega
      simp only [List.length_cons] at hz ⊢
      rw [goN_more (by omega) hi (by omega), hb, goN_read s a f (i + 1) _ (x / 128) (.inl (by omega)) (next_lt x i hx) (by omega) (by rw [← Nat.add_assoc]; exact ht) (by omega), addU_step]
      congr 2
      omega

/-- With the last byte missing, the end is missing. -/
theorem goN_cut (s : ByteArray) (a : Nat) : ∀ (f i u x : Nat), x * 2 ^ (7 * i) < lim64 → 10 ≤ i + f → i ≤ 9 → At s (a + i) (Lib.uvarint x).dropLast → a + i + (Lib.uvarint x).length = s.size + 1 →
    goN s a f i u = (0, 0, 4)
  | 0, i, _, _, _, _, _, _, _ => by omega
  | f + 1, i, u, x, hx, hf, hi9, hA, hz => by
    by_cases h : x < 128
    · rw [Lib.uvarint_small h] at hz
      simp only [List.length_singleton] at hz
      exact goN_short (by omega)
    · have h128 : 128 ≤ x := by omega
      have hp := Lib.uvarint_pos (x / 128)
      rw [Lib.uvarint_big h128] at hA hz
      rw [List.dropLast_cons_of_ne_nil (by intro e; rw [e] at hp; simp at hp)] at hA
      have hb := hA.head
      rw [more_val] at hb
      have ht := hA.tail
      have hi : i < 9 := by
        rcases Nat.lt_or_ge i 9 with h9 | h9
        · exact h9
        · have := small_nine x i h9 hx; omega
      simp only [List.length_cons] at hz
      rw [goN_more (by omega) hi (by omega), hb]
      exact goN_cut s a f (i + 1) _ (x / 128) (next_lt x i hx) (by omega) (by omega) (by rw [← Nat.add_assoc]; exact ht) (by omega)

theorem unz_zigzag (n : Int) : unz (Lib.zigzag n) = n := by
  unfold unz
  rcases Int.lt_or_le n 0 with h | h
  · have e := zz_foldn n h
    rw [if_pos (by omega)]; omega
  · have e := zz_fold n h
    rw [if_neg (by omega)]; omega
theorem At.of {s : ByteArray} {p l q : List UInt8} (h : s.data.toList = p ++ (l ++ q)) : At s p.length l := fun j hj => by
  unfold byt
  have : s.data.getD (p.length + j) 0 = l[j] := by
    rw [Array.getD_eq_getD_getElem?, ← Array.getElem?_toList, h, List.getElem?_append_right (by omega), Nat.add_sub_cancel_left, List.getElem?_append_left hj, List.getElem?_eq_getElem hj]; rfl
  rw [this]
end Go.Proofs.YthkbllkhomjmbaaDoor
