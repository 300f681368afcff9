/- Ground texts of this claim, in one. -/
import Derived.Test.YthkbllkhomjmbaaGreatDoorM1
import Derived.Test.YthkbllkhomjmbaaGreatDoorLBox
import Derived.Lib.IndexBytes
import Derived.Test.YthkbllkhomjmbaaGreatDoorBBytes
import Derived.Test.YthkbllkhomjmbaaGreatDoorBCodeM
import Derived.Test.YthkbllkhomjmbaaGreatDoorBWrites
import Derived.LaidEql
import Derived.Stop.Asserts
import Derived.RowKitTokens
import Derived.Deep.RegionHeld3
import Derived.Deep.DrawnRows
import Derived.Deep.RegionWith
import Derived.Test.YthkbllkhomjmbaaGreatDoorBIRight
import Derived.ScopeJumps
import Derived.Test.YthkbllkhomjmbaaGreatDoorLMark
import Derived.Test.YthkbllkhomjmbaaGreatDoorLDirty
import Derived.RangeFuncNested
import Derived.RangeFuncBound
import Derived.RangeFuncCalls
import Derived.RangeFuncLeaves
import Derived.RangeFuncBox
import Derived.Shelf.Abstract
import Derived.Shelf.RegionOpen
import Derived.WalkKit
import Derived.OwnWalkIn
import Derived.TacticsInMore
import Derived.LoopNIn
import Derived.LoopIn
import Derived.Maps.AppendAt
import Derived.RangeFuncFrom
import Derived.RangeFuncWrites
import Derived.ProofKit
import Derived.OpenShut
namespace Go.Proofs.YthkbllkhomjmbaaGreatDoor
open Go.RowKit

/-- A text read at x. -/
def textR (s : ByteArray) (x : Int) : ByteArray × Int × Int :=
  if (getR s x).2.2 = 0 then (if (getR s x).1 < 0 ∨ 8000 < (getR s x).1 then (⟨#[]⟩, 0, 3) else if (getR s x).2.1.toNat + (getR s x).1.toNat ≤ s.size then (s.extract (getR s x).2.1.toNat ((getR s x).2.1.toNat + (getR s x).1.toNat), ((getR s x).2.1.toNat : Int) + ((getR s x).1.toNat : Int), 0) else (⟨#[]⟩, 0, 4))
  else (⟨#[]⟩, 0, (getR s x).2.2)
theorem textR_size (s : ByteArray) (x : Int) : (textR s x).1.size ≤ s.size := by
  unfold textR
  split
  · split
    · exact Nat.zero_le _
    · split
      · simp; omega
      · exact Nat.zero_le _
  · exact Nat.zero_le _
theorem specTextR (s : ByteArray) (x : Int) (w : World) (hs : s.size ≤ maxLen) (hx : x ≤ 9223372036854775807) :
    Calls Tryz.prog 107 #[.string s, .int .i64 x] w fun e w' => e = .returned (textV (textR s x).1 (textR s x).2.1 (textR s x).2.2) ∧ Below w.heap.size w w' := by
  unfold textR
  by_cases hc : (getR s x).2.2 = 0
  · rw [if_pos hc]
    obtain ⟨h8, hq0, hq1⟩ := getR_ok s x hc
    have e : getR s x = ((getR s x).1, (getR s x).2.1, 0) := by rw [← hc]
    generalize (getR s x).1 = n at *
    generalize (getR s x).2.1 = q at *
    by_cases hn : n < 0 ∨ 8000 < n
    · rw [if_pos hn]; exact specText_B s x w hs hx n q e hn
    · rw [if_neg hn]
      obtain ⟨m, rfl⟩ := Int.eq_ofNat_of_zero_le (show 0 ≤ n by omega)
      obtain ⟨k, rfl⟩ := Int.eq_ofNat_of_zero_le hq0
      simp only [Int.toNat_natCast]
      by_cases hk : k + m ≤ s.size
      · rw [if_pos hk]; exact specText_D s x w hs hx m k e h8 (by omega) hk
      · rw [if_neg hk]; exact specText_C s x w hs hx m k e h8 (by omega) (by omega) (by omega)
  · rw [if_neg hc]
    exact specText_A s x w hs hx _ (getR_bad s x hc) (by rw [bne_iff_ne]; exact hc)
theorem implTextR (s : ByteArray) (x : Int) (w : World) (hs : s.size ≤ maxLen) (hx : x ≤ 9223372036854775807) (hL : Laid w) :
    Calls Tryz.prog 122 #[.string s, .int .i64 x] w fun e w' => e = .returned (textV (textR s x).1 (textR s x).2.1 (textR s x).2.2) ∧ Below w.heap.size w w' := by
  unfold textR
  by_cases hc : (getR s x).2.2 = 0
  · rw [if_pos hc]
    obtain ⟨h8, hq0, hq1⟩ := getR_ok s x hc
    have e : getR s x = ((getR s x).1, (getR s x).2.1, 0) := by rw [← hc]
    generalize (getR s x).1 = n at *
    generalize (getR s x).2.1 = q at *
    by_cases hn : n < 0 ∨ 8000 < n
    · rw [if_pos hn]; exact implText_B s x w hs hx hL n q e hn
    · rw [if_neg hn]
      obtain ⟨m, rfl⟩ := Int.eq_ofNat_of_zero_le (show 0 ≤ n by omega)
      obtain ⟨k, rfl⟩ := Int.eq_ofNat_of_zero_le hq0
      simp only [Int.toNat_natCast]
      by_cases hk : k + m ≤ s.size
      · rw [if_pos hk]; exact implText_D s x w hs hx hL m k e h8 (by omega) hk
      · rw [if_neg hk]; exact implText_C s x w hs hx hL m k e h8 (by omega) (by omega) (by omega)
  · rw [if_neg hc]
    exact implText_A s x w hs hx hL _ (getR_bad s x hc) (by rw [bne_iff_ne]; exact hc)
theorem getR_at (s : ByteArray) (x : Int) (_hs : s.size ≤ maxLen) : 0 ≤ (getR s x).2.1 ∧ (getR s x).2.1 ≤ 8000 := by
  by_cases hc : (getR s x).2.2 = 0
  · obtain ⟨h8, hq0, hq1⟩ := getR_ok s x hc
    exact ⟨hq0, by omega⟩
  · rw [getR_bad s x hc]; simp
/-- The metadata that a sector holds. -/
def metaR (s : ByteArray) : Int × ByteArray × Int :=
  if (unsealT s).2 = 0 then
    (if (getR (unsealT s).1 0).2.2 = 0 ∧ (textR (unsealT s).1 (getR (unsealT s).1 0).2.1).2.2 = 0 ∧ ((metaB (getR (unsealT s).1 0).1 (textR (unsealT s).1 (getR (unsealT s).1 0).2.1).1).toList == s.toList) = true
     then ((getR (unsealT s).1 0).1, (textR (unsealT s).1 (getR (unsealT s).1 0).2.1).1, 0) else (0, ⟨#[]⟩, 3))
  else (0, ⟨#[]⟩, (unsealT s).2)
def metaV (R : Int × ByteArray × Int) : Value := .agg #[.int .i64 R.1, .string R.2.1, .int .i64 R.2.2]

end Go.Proofs.YthkbllkhomjmbaaGreatDoor

namespace Go.Proofs.YthkbllkhomjmbaaGreatDoor
open Go

/-- The bytes l stand in s from place p on. -/
def At (s : ByteArray) (p : Nat) (l : List UInt8) : Prop := ∀ j (h : j < l.length), byt s (p + j) = (l[j]).toNat
theorem At.head {s : ByteArray} {p : Nat} {b : UInt8} {l : List UInt8} (h : At s p (b :: l)) : byt s p = b.toNat := by
  have := h 0 (by simp); simpa using this
theorem At.tail {s : ByteArray} {p : Nat} {b : UInt8} {l : List UInt8} (h : At s p (b :: l)) : At s (p + 1) l := fun j hj => by
  have := h (j + 1) (by simp; omega)
  rw [show p + 1 + j = p + (j + 1) by omega, this]; simp

theorem pow_next (i : Nat) : 2 ^ (7 * (i + 1)) = 128 * 2 ^ (7 * i) := by rw [show 7 * (i + 1) = 7 + 7 * i by omega, Nat.pow_add]
theorem pow_pos7 (i : Nat) : 0 < 2 ^ (7 * i) := Nat.pow_pos (by decide)
theorem pow_big (i : Nat) (h : 9 ≤ i) : 9223372036854775808 ≤ 2 ^ (7 * i) :=
  Nat.le_trans (show 9223372036854775808 ≤ 2 ^ 63 by decide) (Nat.pow_le_pow_right (by decide) (by omega))
theorem small_nine (x i : Nat) (hi : 9 ≤ i) (h : x * 2 ^ (7 * i) < lim64) : x ≤ 1 := by
  unfold lim64 at h
  have := pow_big i hi
  rcases Nat.lt_or_ge 1 x with h2 | h2
  · have : 2 * 9223372036854775808 ≤ x * 2 ^ (7 * i) := Nat.mul_le_mul h2 this
    omega
  · exact h2
theorem addU_step (u x i : Nat) : addU u (x % 128 + 128) i + x / 128 * 2 ^ (7 * (i + 1)) = u + x * 2 ^ (7 * i) := by
  unfold addU
  rw [pow_next]
  have e : x * 2 ^ (7 * i) = x % 128 * 2 ^ (7 * i) + x / 128 * (128 * 2 ^ (7 * i)) := by
    rw [← Nat.mul_assoc, ← Nat.add_mul]; congr 1; omega
  rw [show (x % 128 + 128) % 128 = x % 128 by omega]
  omega
theorem next_lt (x i : Nat) (h : x * 2 ^ (7 * i) < lim64) : x / 128 * 2 ^ (7 * (i + 1)) < lim64 := by
  refine Nat.lt_of_le_of_lt ?_ h
  rw [pow_next, ← Nat.mul_assoc]
  exact Nat.mul_le_mul_right _ (by omega)
theorem more_val (x : Nat) : (x % 128 + 128).toUInt8.toNat = x % 128 + 128 := by
  show (x % 128 + 128) % 256 = _; omega
theorem last_val (x : Nat) (h : x < 128) : x.toUInt8.toNat = x := by
  show x % 256 = _; omega

theorem goN_read (s : ByteArray) (a : Nat) : ∀ (f i u x : Nat), (0 < x ∨ i = 0) → x * 2 ^ (7 * i) < lim64 → 10 ≤ i + f → At s (a + i) (Lib.uvarint x) → a + i + (Lib.uvarint x).length ≤ s.size →
    goN s a f i u = (unz (u + x * 2 ^ (7 * i)), ((a + i + (Lib.uvarint x).length : Nat) : Int), 0)
  | 0, i, u, x, h0, hx, hf, _, _ => by
    exfalso
    have hp := pow_big i (by omega)
    have hp2 : 2 ^ (7 * 10) ≤ 2 ^ (7 * i) := Nat.pow_le_pow_right (by decide) (by omega)
    have e : (2 : Nat) ^ (7 * 10) = 1180591620717411303424 := by decide
    have : 1 * 2 ^ (7 * i) ≤ x * 2 ^ (7 * i) := Nat.mul_le_mul_right _ (by omega)
    unfold lim64 at hx
    omega
  | f + 1, i, u, x, h0, hx, hf, hA, hz => by
    by_cases h : x < 128
    · rw [Lib.uvarint_small h] at hA hz ⊢
      have hb := hA.head
      rw [last_val x h] at hb
      simp only [List.length_singleton] at hz ⊢
      have h9 : ¬ (i = 9 ∧ 1 < byt s (a + i)) := by
        rintro ⟨rfl, h1⟩
        have := small_nine x 9 (by omega) hx
        omega
      rw [goN_last (by omega) h9 (by omega) (by omega), hb]
      unfold addU
      rw [Nat.mod_eq_of_lt h]
      simp
    · have h128 : 128 ≤ x := by omega
      rw [Lib.uvarint_big h128] at hA hz ⊢
      have hb := hA.head
      rw [more_val] at hb
      have ht := hA.tail
      have hi : i < 9 := by
        rcases Nat.lt_or_ge i 9 with h9 | h9
        · exact h9
        · have := small_nine x i h9 hx; omega
      simp only [List.length_cons] at hz ⊢
      rw [goN_more (by omega) hi (by omega), hb, goN_read s a f (i + 1) _ (x / 128) (.inl (by omega)) (next_lt x i hx) (by omega) (by rw [← Nat.add_assoc]; exact ht) (by omega), addU_step]
      congr 2
      omega

/-- With the last byte missing, the end is missing. -/
theorem goN_cut (s : ByteArray) (a : Nat) : ∀ (f i u x : Nat), x * 2 ^ (7 * i) < lim64 → 10 ≤ i + f → i ≤ 9 → At s (a + i) (Lib.uvarint x).dropLast → a + i + (Lib.uvarint x).length = s.size + 1 →
    goN s a f i u = (0, 0, 4)
  | 0, i, _, _, _, _, _, _, _ => by omega
  | f + 1, i, u, x, hx, hf, hi9, hA, hz => by
    by_cases h : x < 128
    · rw [Lib.uvarint_small h] at hz
      simp only [List.length_singleton] at hz
      exact goN_short (by omega)
    · have h128 : 128 ≤ x := by omega
      have hp := Lib.uvarint_pos (x / 128)
      rw [Lib.uvarint_big h128] at hA hz
      rw [List.dropLast_cons_of_ne_nil (by intro e; rw [e] at hp; simp at hp)] at hA
      have hb := hA.head
      rw [more_val] at hb
      have ht := hA.tail
      have hi : i < 9 := by
        rcases Nat.lt_or_ge i 9 with h9 | h9
        · exact h9
        · have := small_nine x i h9 hx; omega
      simp only [List.length_cons] at hz
      rw [goN_more (by omega) hi (by omega), hb]
      exact goN_cut s a f (i + 1) _ (x / 128) (next_lt x i hx) (by omega) (by omega) (by rw [← Nat.add_assoc]; exact ht) (by omega)

theorem unz_zigzag (n : Int) : unz (Lib.zigzag n) = n := by
  unfold unz
  rcases Int.lt_or_le n 0 with h | h
  · have e := zz_foldn n h
    rw [if_pos (by omega)]; omega
  · have e := zz_fold n h
    rw [if_neg (by omega)]; omega
theorem At.of {s : ByteArray} {p l q : List UInt8} (h : s.data.toList = p ++ (l ++ q)) : At s p.length l := fun j hj => by
  unfold byt
  have : s.data.getD (p.length + j) 0 = l[j] := by
    rw [Array.getD_eq_getD_getElem?, ← Array.getElem?_toList, h, List.getElem?_append_right (by omega), Nat.add_sub_cancel_left, List.getElem?_append_left hj, List.getElem?_eq_getElem hj]; rfl
  rw [this]
end Go.Proofs.YthkbllkhomjmbaaGreatDoor

namespace Go.Proofs.YthkbllkhomjmbaaGreatDoor
open Go.RowKit

theorem mputS_list (n : Int) : (putS n).data.toList = Lib.uvarint (Lib.zigzag n) := by simp [putS]
theorem mputS_len (n : Int) : (putS n).size = (Lib.uvarint (Lib.zigzag n)).length := by simp [putS, ByteArray.size]
/-- What PutNum lays is read again, whatever stands in front and behind. -/
theorem mread (n : Int) (h0 : -9223372036854775808 ≤ n) (h1 : n ≤ 9223372036854775807) (s : ByteArray) (p q : List UInt8) (hs : s.data.toList = p ++ ((putS n).data.toList ++ q)) :
    goN s p.length 10 0 0 = (n, ((p.length + (putS n).size : Nat) : Int), 0) := by
  have hz : s.size = p.length + (putS n).size + q.length := by
    rw [Lib.size_eq, hs, Lib.size_eq (putS n)]; simp; omega
  rw [mputS_list] at hs
  have hl := zz_lt n h0 h1
  rw [goN_read s p.length 10 0 0 (Lib.zigzag n) (.inr rfl) (by simpa using hl) (by omega) (At.of hs) (by rw [← mputS_len]; omega)]
  simp [unz_zigzag n, mputS_len]
theorem mgetR (s : ByteArray) (p : Nat) (h : s.size ≤ 8000) : getR s (p : Int) = goN s p 10 0 0 := by
  unfold getR
  rw [if_neg (by omega), if_neg (by omega)]; rfl
theorem mhead (t u : ByteArray) : (t ++ u).extract 0 t.size = t := by
  apply ByteArray.ext
  apply Array.toList_inj.1
  rw [Lib.extract_data]; simp
theorem toList_inj {a b : ByteArray} (h : (a.toList == b.toList) = true) : a = b := by
  have h := eq_of_beq h
  rw [Lib.toList_data, Lib.toList_data] at h
  exact ByteArray.ext (Array.toList_inj.1 h)
theorem unsealT_ok {s : ByteArray} (h : (unsealT s).2 = 0) : s.size ≤ 8000 ∧ 4 ≤ s.size ∧ (unsealT s).1 = s.extract 0 (s.size - 4) := by
  unfold unsealT at *
  split at h
  · cases h
  · rename_i h1
    rw [if_neg h1]
    split at h
    · cases h
    · rename_i h2
      rw [if_neg h2]
      split at h
      · rename_i h3; rw [if_pos h3]; exact ⟨by omega, by omega, rfl⟩
      · cases h
/-- The codes of what can't be unsealed. -/
theorem unsealT_code (s : ByteArray) : (unsealT s).2 = 0 ∨ (unsealT s).2 = 2 ∨ (unsealT s).2 = 4 ∨ (unsealT s).2 = 5 := by
  unfold unsealT
  split
  · exact .inr (.inl rfl)
  · split
    · exact .inr (.inr (.inl rfl))
    · split
      · exact .inl rfl
      · exact .inr (.inr (.inr rfl))
theorem decodes {s : ByteArray} (h0 : (unsealT s).2 = 0) (hm : ((metaB (getR (unsealT s).1 0).1 (textR (unsealT s).1 (getR (unsealT s).1 0).2.1).1).toList == s.toList) = true) :
    (getR (unsealT s).1 0).2.2 = 0 ∧ (textR (unsealT s).1 (getR (unsealT s).1 0).2.1).2.2 = 0 := by
  obtain ⟨hs8, hs4, ht⟩ := unsealT_ok h0
  have he := toList_inj hm
  generalize (textR (unsealT s).1 (getR (unsealT s).1 0).2.1).1 = x at he
  generalize hn : (getR (unsealT s).1 0).1 = n at he
  unfold metaB at he
  split at he
  · rename_i hc
    obtain ⟨⟨n0, n1⟩, hx⟩ := hc
    have hsz : s.size = (metaRaw n x).size + 4 := by rw [← he]; unfold sealS; rw [ByteArray.size_append, fourS_size]
    have hraw : (unsealT s).1 = metaRaw n x := by
      rw [ht, show s.size - 4 = (metaRaw n x).size by omega, ← he]; exact mhead _ _
    have hrs : (metaRaw n x).size ≤ 8000 := by omega
    rw [hraw]
    have e1 : getR (metaRaw n x) 0 = (n, (((putS n).size : Nat) : Int), 0) := by
      have := mgetR (metaRaw n x) 0 hrs
      rw [show ((0 : Nat) : Int) = 0 from rfl] at this
      rw [this]
      have := mread n (by omega) (by omega) (metaRaw n x) [] (putS x.size ++ x).data.toList (by unfold metaRaw; simp)
      simpa using this
    rw [e1]
    refine ⟨rfl, ?_⟩
    show (textR (metaRaw n x) (((putS n).size : Nat) : Int)).2.2 = 0
    have e2 : getR (metaRaw n x) (((putS n).size : Nat) : Int) = ((x.size : Int), (((putS n).size + (putS x.size).size : Nat) : Int), 0) := by
      rw [mgetR _ _ hrs]
      have := mread (x.size : Int) (by omega) (by omega) (metaRaw n x) (putS n).data.toList x.data.toList (by unfold metaRaw; simp)
      rw [show (putS n).data.toList.length = (putS n).size from (Lib.size_eq _).symm] at this
      exact this
    unfold textR
    rw [e2]
    rw [if_pos rfl, if_neg (by omega), if_pos]
    simp only [Int.toNat_natCast]
    unfold metaRaw
    rw [ByteArray.size_append, ByteArray.size_append]; omega
  · rw [← he] at hs4; simp at hs4
/-- MetaRead by comparing alone. -/
theorem metaR_cmp (s : ByteArray) : metaR s =
    if (unsealT s).2 = 0 then
      (if ((metaB (getR (unsealT s).1 0).1 (textR (unsealT s).1 (getR (unsealT s).1 0).2.1).1).toList == s.toList) = true
       then ((getR (unsealT s).1 0).1, (textR (unsealT s).1 (getR (unsealT s).1 0).2.1).1, 0) else (0, ⟨#[]⟩, 3))
    else (0, ⟨#[]⟩, (unsealT s).2) := by
  unfold metaR
  by_cases h0 : (unsealT s).2 = 0
  · rw [if_pos h0, if_pos h0]
    by_cases hm : ((metaB (getR (unsealT s).1 0).1 (textR (unsealT s).1 (getR (unsealT s).1 0).2.1).1).toList == s.toList) = true
    · rw [if_pos hm, if_pos ⟨(decodes h0 hm).1, (decodes h0 hm).2, hm⟩]
    · rw [if_neg hm, if_neg (fun h => hm h.2.2)]
  · rw [if_neg h0, if_neg h0]
end Go.Proofs.YthkbllkhomjmbaaGreatDoor

namespace Go.Proofs.YthkbllkhomjmbaaGreatDoor
open Go.RowKit

/-- One number read behind a flag. -/
def numS (s : ByteArray) (x : Int) (bad : Bool) : Int × Int × Bool := if bad = false ∧ (getR s x).2.2 = 0 then ((getR s x).1, (getR s x).2.1, false) else (0, x, true)
def txtS (s : ByteArray) (x : Int) (bad : Bool) : ByteArray × Int × Bool := if bad = false ∧ (textR s x).2.2 = 0 then ((textR s x).1, (textR s x).2.1, false) else (⟨#[]⟩, x, true)
theorem numS_bad (s : ByteArray) (x : Int) : numS s x true = (0, x, true) := by unfold numS; rw [if_neg (by simp)]
theorem numS_no {s : ByteArray} {x : Int} (h : ¬ (getR s x).2.2 = 0) : numS s x false = (0, x, true) := by unfold numS; rw [if_neg (fun h' => h h'.2)]
theorem numS_yes {s : ByteArray} {x : Int} (h : (getR s x).2.2 = 0) : numS s x false = ((getR s x).1, (getR s x).2.1, false) := by unfold numS; rw [if_pos ⟨rfl, h⟩]
theorem txtS_bad (s : ByteArray) (x : Int) : txtS s x true = (⟨#[]⟩, x, true) := by unfold txtS; rw [if_neg (by simp)]
theorem txtS_no {s : ByteArray} {x : Int} (h : ¬ (textR s x).2.2 = 0) : txtS s x false = (⟨#[]⟩, x, true) := by unfold txtS; rw [if_neg (fun h' => h h'.2)]
theorem txtS_yes {s : ByteArray} {x : Int} (h : (textR s x).2.2 = 0) : txtS s x false = ((textR s x).1, (textR s x).2.1, false) := by unfold txtS; rw [if_pos ⟨rfl, h⟩]
theorem numS_lim (s : ByteArray) (x : Int) (bad : Bool) (hs : s.size ≤ maxLen) (hx : x ≤ 9223372036854775807) : (numS s x bad).2.1 ≤ 9223372036854775807 := by
  unfold numS
  split
  · have := getR_at s x hs; simp only; omega
  · exact hx
/-- The four parts read one behind the other, whatever their codes. -/
def p1 (s : ByteArray) : Int × Int × Int := getR s 0
def p2 (s : ByteArray) : Int × Int × Int := getR s (p1 s).2.1
def p3 (s : ByteArray) : Int × Int × Int := getR s (p2 s).2.1
def p4 (s : ByteArray) : ByteArray × Int × Int := textR s (p3 s).2.1
def rdB (s : ByteArray) : Bool := stepB 8 (p1 s).1 (p2 s).1 (p3 s).1 (p4 s).1 && ((stepBs (p1 s).1 (p2 s).1 (p3 s).1 (p4 s).1).toList == s.toList)
def rdStp (s : ByteArray) : stpT := ((p1 s).1, (p2 s).1, (p3 s).1, (p4 s).1)
def rdR (s : ByteArray) : stpT × Int := if 8000 < s.size then ((0, 0, 0, ⟨#[]⟩), 2) else if rdB s = true then (rdStp s, 0) else ((0, 0, 0, ⟨#[]⟩), 3)
theorem stepS_list (k t f : Int) (d : ByteArray) : (stepS k t f d).data.toList = (putS k).data.toList ++ ((putS t).data.toList ++ ((putS f).data.toList ++ ((putS d.size).data.toList ++ d.data.toList))) := by
  unfold stepS; simp
theorem stepS_size (k t f : Int) (d : ByteArray) : (stepS k t f d).size = (putS k).size + (putS t).size + (putS f).size + ((putS d.size).size + d.size) := by
  unfold stepS; simp only [ByteArray.size_append]
theorem stepS_reads {k t f : Int} {d : ByteArray} (h : stepB 8 k t f d = true) (s : ByteArray) (hs : stepS k t f d = s) :
    p1 s = (k, (((putS k).size : Nat) : Int), 0) ∧ p2 s = (t, (((putS k).size + (putS t).size : Nat) : Int), 0) ∧ p3 s = (f, (((putS k).size + (putS t).size + (putS f).size : Nat) : Int), 0) ∧ (p4 s).1 = d ∧ (p4 s).2.2 = 0 := by
  obtain ⟨k0, k1, t0, t1, f0, f1, d1⟩ := ok_bounds h
  have z1 := putS_size k (by omega) (by omega)
  have z2 := putS_size t (by omega) (by omega)
  have z3 := putS_size f (by omega) (by omega)
  have z4 := putS_size d.size (by omega) (by omega)
  have hz : s.size ≤ 8000 := by rw [← hs, stepS_size]; omega
  have hl := stepS_list k t f d
  rw [hs] at hl
  have sz : ∀ x : ByteArray, x.data.toList.length = x.size := fun x => (Lib.size_eq x).symm
  have e1 : p1 s = (k, (((putS k).size : Nat) : Int), 0) := by
    have h9 := mread k (by omega) (by omega) s [] _ (by rw [hl]; rfl)
    have h8 := mgetR s 0 hz
    unfold p1
    rw [show (0 : Int) = ((0 : Nat) : Int) from rfl, h8]
    simpa using h9
  have e2 : p2 s = (t, (((putS k).size + (putS t).size : Nat) : Int), 0) := by
    have h9 := mread t (by omega) (by omega) s (putS k).data.toList _ hl
    rw [sz] at h9
    unfold p2
    rw [e1, mgetR s _ hz]
    exact h9
  have e3 : p3 s = (f, (((putS k).size + (putS t).size + (putS f).size : Nat) : Int), 0) := by
    have h9 := mread f (by omega) (by omega) s ((putS k).data.toList ++ (putS t).data.toList) ((putS d.size).data.toList ++ d.data.toList) (by rw [hl]; simp)
    rw [List.length_append, sz, sz] at h9
    unfold p3
    rw [e2, mgetR s _ hz]
    exact h9
  have e4 : getR s (((putS k).size + (putS t).size + (putS f).size : Nat) : Int) = ((d.size : Int), (((putS k).size + (putS t).size + (putS f).size + (putS d.size).size : Nat) : Int), 0) := by
    have h9 := mread (d.size : Int) (by omega) (by omega) s ((putS k).data.toList ++ (putS t).data.toList ++ (putS f).data.toList) d.data.toList (by rw [hl]; simp)
    rw [List.length_append, List.length_append, sz, sz, sz] at h9
    rw [mgetR s _ hz]
    exact h9
  refine ⟨e1, e2, e3, ?_⟩
  unfold p4 textR
  rw [e3]
  simp only [e4, if_true, Int.toNat_natCast]
  rw [if_neg (by omega), if_pos (by rw [← hs, stepS_size]; omega)]
  refine ⟨?_, rfl⟩
  apply ByteArray.ext
  apply Array.toList_inj.1
  rw [Lib.extract_data]
  have hd : s.data.toList.drop ((putS k).size + (putS t).size + (putS f).size + (putS d.size).size) = d.data.toList := by
    rw [hl, ← List.append_assoc, ← List.append_assoc, ← List.append_assoc, List.drop_left' (by simp only [List.length_append, sz])]
  rw [hd, List.take_of_length_le (by rw [sz]; omega)]
/-- What the model reads, one behind the other. -/
def a1 (s : ByteArray) : Int × Int × Bool := numS s 0 false
def a2 (s : ByteArray) : Int × Int × Bool := numS s (a1 s).2.1 (a1 s).2.2
def a3 (s : ByteArray) : Int × Int × Bool := numS s (a2 s).2.1 (a2 s).2.2
def a4 (s : ByteArray) : ByteArray × Int × Bool := txtS s (a3 s).2.1 (a3 s).2.2
def spR (s : ByteArray) : stpT × Int := if (a4 s).2.2 = false ∧ ((stepBs (a1 s).1 (a2 s).1 (a3 s).1 (a4 s).1).toList == s.toList) = true then (((a1 s).1, (a2 s).1, (a3 s).1, (a4 s).1), 0) else ((0, 0, 0, ⟨#[]⟩), 3)
theorem rdB_codes {s : ByteArray} (h : rdB s = true) : (p1 s).2.2 = 0 ∧ (p2 s).2.2 = 0 ∧ (p3 s).2.2 = 0 ∧ (p4 s).2.2 = 0 := by
  unfold rdB at h
  rw [Bool.and_eq_true] at h
  obtain ⟨h1, h2⟩ := h
  have h3 := toList_inj h2
  unfold stepBs at h3
  rw [if_pos h1] at h3
  obtain ⟨e1, e2, e3, -, e4⟩ := stepS_reads h1 s h3
  exact ⟨by rw [e1], by rw [e2], by rw [e3], e4⟩
theorem p1_empty {s : ByteArray} (h : s.size = 0) : ¬ (p1 s).2.2 = 0 := by
  have h9 := mgetR s 0 (by omega)
  unfold p1
  rw [show (0 : Int) = ((0 : Nat) : Int) from rfl, h9, goN_short (by omega)]
  simp
theorem spR_eq (s : ByteArray) (hs : ¬ 8000 < s.size) : spR s = rdR s := by
  unfold rdR
  rw [if_neg hs]
  unfold spR
  by_cases c1 : (p1 s).2.2 = 0
  · have e1 : a1 s = ((p1 s).1, (p1 s).2.1, false) := numS_yes c1
    by_cases c2 : (p2 s).2.2 = 0
    · have e2 : a2 s = ((p2 s).1, (p2 s).2.1, false) := by unfold a2; rw [e1]; exact numS_yes c2
      by_cases c3 : (p3 s).2.2 = 0
      · have e3 : a3 s = ((p3 s).1, (p3 s).2.1, false) := by unfold a3; rw [e2]; exact numS_yes c3
        by_cases c4 : (p4 s).2.2 = 0
        · have e4 : a4 s = ((p4 s).1, (p4 s).2.1, false) := by unfold a4; rw [e3]; exact txtS_yes c4
          rw [e1, e2, e3, e4]
          simp only [true_and]
          have hiff : ((stepBs (p1 s).1 (p2 s).1 (p3 s).1 (p4 s).1).toList == s.toList) = rdB s := by
            unfold rdB
            cases hb : stepB 8 (p1 s).1 (p2 s).1 (p3 s).1 (p4 s).1 with
            | true => simp
            | false =>
              rw [Bool.false_and]
              cases hq : ((stepBs (p1 s).1 (p2 s).1 (p3 s).1 (p4 s).1).toList == s.toList) with
              | false => rfl
              | true =>
                have h3 := toList_inj hq
                unfold stepBs at h3
                rw [hb] at h3
                exact absurd c1 (p1_empty (by rw [← h3]; rfl))
          rw [hiff]
          rfl
        · have e4 : (a4 s).2.2 = true := by unfold a4; rw [e3]; unfold txtS; rw [if_neg (fun h => c4 h.2)]
          rw [if_neg (by rw [e4]; simp), if_neg (fun h => c4 (rdB_codes h).2.2.2)]
      · have e3 : a3 s = (0, (p2 s).2.1, true) := by unfold a3; rw [e2]; exact numS_no c3
        have e4 : (a4 s).2.2 = true := by unfold a4; rw [e3, txtS_bad]
        rw [if_neg (by rw [e4]; simp), if_neg (fun h => c3 (rdB_codes h).2.2.1)]
    · have e2 : a2 s = (0, (p1 s).2.1, true) := by unfold a2; rw [e1]; exact numS_no c2
      have e3 : (a3 s).2.2 = true := by unfold a3; rw [e2, numS_bad]
      have e4 : (a4 s).2.2 = true := by unfold a4; rw [e3, txtS_bad]
      rw [if_neg (by rw [e4]; simp), if_neg (fun h => c2 (rdB_codes h).2.1)]
  · have e1 : a1 s = (0, 0, true) := numS_no c1
    have e2 : (a2 s).2.2 = true := by unfold a2; rw [e1, numS_bad]
    have e3 : (a3 s).2.2 = true := by unfold a3; rw [e2, numS_bad]
    have e4 : (a4 s).2.2 = true := by unfold a4; rw [e3, txtS_bad]
    rw [if_neg (by rw [e4]; simp), if_neg (fun h => c1 (rdB_codes h).1)]
end Go.Proofs.YthkbllkhomjmbaaGreatDoor

namespace Go.Proofs.YthkbllkhomjmbaaGreatDoor
open Go.RowKit

theorem stepB_mono {n k t f : Int} {d : ByteArray} (h : stepB n k t f d = true) : stepB 8 k t f d = true := by
  obtain ⟨⟨n0, n1⟩, h⟩ := (stepB_iff ..).1 h
  refine stepB_yes ⟨⟨by omega, by omega⟩, ?_⟩
  have up : ∀ x : Int, inB x n = true → inB x 8 = true := fun x hx => by
    have := (inB_iff _ _).1 hx
    exact (inB_iff _ _).2 ⟨by omega, by omega⟩
  rcases h with ⟨a, b, c, e⟩ | ⟨a, b, c, e⟩ | ⟨a, b, c, e⟩ | ⟨a, b, c, e⟩ | h
  · exact .inl ⟨a, up _ b, c, e⟩
  · exact .inr (.inl ⟨a, up _ b, c, e⟩)
  · exact .inr (.inr (.inl ⟨a, up _ b, up _ c, e⟩))
  · exact .inr (.inr (.inr (.inl ⟨a, up _ b, up _ c, e⟩)))
  · exact .inr (.inr (.inr (.inr h)))
theorem rdR_ok {u : ByteArray} (h : (rdR u).2 = 0) : stepBs (rdR u).1.1 (rdR u).1.2.1 (rdR u).1.2.2.1 (rdR u).1.2.2.2 = u := by
  unfold rdR at *
  split at h
  · simp at h
  · rename_i h8
    rw [if_neg h8]
    split at h
    · rename_i hb
      rw [if_pos hb]
      unfold rdB at hb
      rw [Bool.and_eq_true] at hb
      exact toList_inj hb.2
    · simp at h
theorem rdR_back {k t f : Int} {d : ByteArray} (h : stepB 8 k t f d = true) : rdR (stepS k t f d) = ((k, t, f, d), 0) := by
  obtain ⟨e1, e2, e3, e4, e5⟩ := stepS_reads h (stepS k t f d) rfl
  obtain ⟨k0, k1, t0, t1, f0, f1, d1⟩ := ok_bounds h
  have z1 := putS_size k (by omega) (by omega)
  have z2 := putS_size t (by omega) (by omega)
  have z3 := putS_size f (by omega) (by omega)
  have z4 := putS_size d.size (by omega) (by omega)
  unfold rdR
  rw [if_neg (by rw [stepS_size]; omega)]
  have hb : rdB (stepS k t f d) = true := by
    unfold rdB
    rw [e1, e2, e3, e4]
    simp only [h, Bool.true_and]
    unfold stepBs
    rw [if_pos h]
    simp
  rw [if_pos hb]
  unfold rdStp
  rw [e1, e2, e3, e4]
theorem stepBs_full {k t f : Int} {d : ByteArray} (h : stepBs k t f d ≠ ⟨#[]⟩) : stepB 8 k t f d = true ∧ stepBs k t f d = stepS k t f d := by
  unfold stepBs at *
  split at h
  · rename_i hs; exact ⟨hs, if_pos hs⟩
  · exact absurd rfl h
theorem writesL_mem {l : List stpT} {s : stpT} (h : s ∈ writesL l) : s.1 ≠ 5 := by
  unfold writesL wrT at h
  split at h
  · simp at h
  · have := (List.mem_filter.1 h).2
    simpa using this
theorem writesL_at (l : List stpT) (i : Nat) (h : i < (writesL l).length) : (writesL l)[i].1 ≠ 5 := writesL_mem (List.getElem_mem h)
theorem lastT_take (l : List stpT) : ∀ k, k ≤ l.length - 1 → lastT l.dropLast k = lastT l k
  | 0, _ => rfl
  | k + 1, h => by
    have hk : k < l.dropLast.length := by simp; omega
    have hk2 : k < l.length := by omega
    have e : l.dropLast[k] = l[k] := by simp
    by_cases h5 : l[k].1 = 5
    · rw [lastT_yes hk (by rw [e]; exact h5), lastT_yes hk2 h5, e]
    · rw [lastT_no hk (by rw [e]; exact h5), lastT_no hk2 h5, lastT_take l k (by omega)]
theorem codeS_drop {l : List stpT} {n : Int} (h : codeS l n = 0) : codeS l.dropLast n = 0 := by
  by_cases hf : FormBad l n
  · rw [codeS_form hf] at h; cases h
  by_cases ht : Twice l
  · rw [codeS_twice hf ht] at h; cases h
  by_cases hl : Low l l.length
  · rw [codeS_low hf ht hl] at h; cases h
  refine codeS_ok ?_ ?_ ?_
  · rintro (h1 | h1 | ⟨s, hs, hw⟩)
    · exact hf (.inl h1)
    · exact hf (.inr (.inl (by simp at h1; omega)))
    · exact hf (.inr (.inr ⟨s, (List.dropLast_sublist l).subset hs, hw⟩))
  · rintro ⟨i, j, hji, hi, hj, a, b, c⟩
    have hi' : i < l.length := by simp at hi; omega
    have hj' : j < l.length := by simp at hj; omega
    simp only [List.getElem_dropLast] at a b c
    exact ht ⟨i, j, hji, hi', hj', a, b, c⟩
  · rintro ⟨k, hk, hkl, a, b⟩
    have hk' : k < l.length := by simp at hkl; omega
    have hk2 : k ≤ l.length - 1 := by simp at hkl; omega
    rw [lastT_take l k hk2] at b
    simp only [List.getElem_dropLast] at a b
    exact hl ⟨k, hk', hk', a, b⟩
theorem stpCs_take (l : List stpT) : ∀ n, n ≤ l.length → stpCs (l.take n) = (stpCs l).take (n * 4) := by
  induction l with
  | nil => intro n hn; simp [stpCs]
  | cons a l ih =>
    intro n hn
    match n, hn with
    | 0, _ => simp [stpCs]
    | n + 1, hn =>
      simp only [List.take_succ_cons, stpCs]
      rw [ih n (by simpa using hn), show (n + 1) * 4 = n * 4 + 1 + 1 + 1 + 1 by omega]
      simp
/-- All but the last, read off the same slice. -/
theorem rd_drop {w : World} {a : Option Addr} {c c' : Nat} {l : List stpT} (h : Rd w (.slice a l.length c) l.length 4 (stpCs l)) : Rd w (.slice a (l.length - 1) c') l.dropLast.length 4 (stpCs l.dropLast) := by
  have e : l.dropLast = l.take (l.length - 1) := List.dropLast_eq_take
  have hl : l.dropLast.length = l.length - 1 := by simp
  refine ⟨stpCs_length _, a, c', by rw [hl], fun h0 => ?_⟩
  obtain ⟨b, off, rfl, hb, hc⟩ := h.get (by omega)
  refine ⟨b, off, rfl, hb, fun j hj => ?_⟩
  rw [hc j (by omega), e, stpCs_take l _ (by omega), List.getElem?_take_of_lt (by rw [hl] at hj; exact hj)]
end Go.Proofs.YthkbllkhomjmbaaGreatDoor

namespace Go.Proofs.YthkbllkhomjmbaaGreatDoor
open Go.RowKit

/- What is read is what stands there: each number and text has only one encoding. -/
theorem At.cons {s : ByteArray} {p : Nat} {b : UInt8} {l : List UInt8} (h : byt s p = b.toNat) (hl : At s (p + 1) l) : At s p (b :: l) := fun j hj => by
  match j with
  | 0 => simpa using h
  | j + 1 =>
    have := hl j (by simpa using hj)
    rw [show p + (j + 1) = p + 1 + j by omega, this]; simp
theorem At.nil (s : ByteArray) (p : Nat) : At s p [] := fun j hj => absurd hj (by simp)
theorem At.left {s : ByteArray} {p : Nat} {l q : List UInt8} (h : At s p (l ++ q)) : At s p l := fun j hj => by
  rw [h j (by simp; omega), List.getElem_append_left hj]
theorem At.right {s : ByteArray} {p : Nat} {l q : List UInt8} (h : At s p (l ++ q)) : At s (p + l.length) q := fun j hj => by
  rw [show p + l.length + j = p + (l.length + j) by omega, h (l.length + j) (by simp; omega), List.getElem_append_right (by omega)]
  simp
theorem At.join {s : ByteArray} {p : Nat} {l q : List UInt8} (h : At s p l) (k : At s (p + l.length) q) : At s p (l ++ q) := fun j hj => by
  by_cases h1 : j < l.length
  · rw [List.getElem_append_left h1]; exact h j h1
  · rw [List.getElem_append_right (by omega)]
    have := k (j - l.length) (by simp at hj; omega)
    rw [← this]; congr 1; omega
theorem At.whole {s : ByteArray} {l : List UInt8} (h : At s 0 l) (hl : l.length = s.size) : s.data.toList = l := by
  have hz : s.data.toList.length = s.size := (Lib.size_eq s).symm
  apply List.ext_getElem (by omega)
  intro j h1 h2
  have := h j h2
  unfold byt at this
  rw [Nat.zero_add, Array.getD_eq_getD_getElem?, ← Array.getElem?_toList, List.getElem?_eq_getElem h1] at this
  exact UInt8.toNat_inj.1 (by simpa using this)
theorem at_self (s : ByteArray) : At s 0 s.data.toList := At.of (p := []) (q := []) (by simp)
theorem at_extract (s : ByteArray) (p q : Nat) (hq : q ≤ s.size) : At s p (s.extract p q).data.toList := fun j hj => by
  have hz : (s.extract p q).data.toList.length = (s.extract p q).size := (Lib.size_eq _).symm
  have hz2 : (s.extract p q).size = q - p := by simp; omega
  unfold byt
  have e : (s.extract p q).data.toList[j]? = s.data.toList[p + j]? := by
    rw [Lib.extract_data, List.getElem?_take_of_lt (by omega), List.getElem?_drop]
  rw [List.getElem?_eq_getElem hj] at e
  rw [Array.getD_eq_getD_getElem?, ← Array.getElem?_toList, ← e]; rfl
theorem zigzag_unz (x : Nat) : Lib.zigzag (unz x) = x := by
  unfold unz
  by_cases h : x % 2 = 1
  · rw [if_pos h]; unfold Lib.zigzag; rw [if_neg (by omega)]; omega
  · rw [if_neg h]; unfold Lib.zigzag; rw [if_pos (by omega)]; omega
theorem goN_canon (s : ByteArray) (a : Nat) : ∀ f i u, (goN s a f i u).2.2 = 0 →
    ∃ x, (0 < x ∨ i = 0) ∧ At s (a + i) (Lib.uvarint x) ∧ a + i + (Lib.uvarint x).length ≤ s.size ∧ goN s a f i u = (unz (u + x * 2 ^ (7 * i)), ((a + i + (Lib.uvarint x).length : Nat) : Int), 0)
  | 0, i, u, h => by simp [goN] at h
  | f + 1, i, u, h => by
    by_cases h1 : s.size ≤ a + i
    · rw [goN_short h1] at h; simp at h
    by_cases h2 : i = 9 ∧ 1 < byt s (a + i)
    · rw [goN_ten h1 h2.1 h2.2] at h; simp at h
    have hlt := byt_lt s (a + i)
    by_cases h3 : 128 ≤ byt s (a + i)
    · by_cases h9 : i < 9
      · rw [goN_more h1 h9 h3] at h ⊢
        obtain ⟨x, hx, hA, hz, he⟩ := goN_canon s a f (i + 1) _ h
        have hx0 : 0 < x := hx.resolve_right (by omega)
        obtain ⟨y, hy⟩ : ∃ y, y = byt s (a + i) % 128 + 128 * x := ⟨_, rfl⟩
        have y128 : 128 ≤ y := by omega
        have yd : y / 128 = x := by omega
        have ym : y % 128 + 128 = byt s (a + i) := by omega
        refine ⟨y, .inl (by omega), ?_, ?_, ?_⟩
        · rw [Lib.uvarint_big y128, yd]
          refine At.cons ?_ (by rw [Nat.add_assoc]; exact hA)
          rw [more_val, ym]
        · rw [Lib.uvarint_big y128, yd, List.length_cons]; omega
        · rw [he, Lib.uvarint_big y128, yd, List.length_cons]
          have hs := addU_step u y i
          rw [ym, yd] at hs
          rw [hs]
          congr 2
          omega
      · have hi : i = 9 ∨ 9 < i := by omega
        rcases hi with hi | hi
        · exact absurd ⟨hi, by omega⟩ h2
        · by_cases h10 : s.size ≤ a + i
          · exact absurd h10 h1
          · rw [goN, if_neg h1, if_neg h2, if_pos h3] at h ⊢
            obtain ⟨x, hx, hA, hz, he⟩ := goN_canon s a f (i + 1) _ h
            have hx0 : 0 < x := hx.resolve_right (by omega)
            obtain ⟨y, hy⟩ : ∃ y, y = byt s (a + i) % 128 + 128 * x := ⟨_, rfl⟩
            have y128 : 128 ≤ y := by omega
            have yd : y / 128 = x := by omega
            have ym : y % 128 + 128 = byt s (a + i) := by omega
            refine ⟨y, .inl (by omega), ?_, ?_, ?_⟩
            · rw [Lib.uvarint_big y128, yd]
              refine At.cons ?_ (by rw [Nat.add_assoc]; exact hA)
              rw [more_val, ym]
            · rw [Lib.uvarint_big y128, yd, List.length_cons]; omega
            · rw [he, Lib.uvarint_big y128, yd, List.length_cons]
              have hs := addU_step u y i
              rw [ym, yd] at hs
              rw [hs]
              congr 2
              omega
    · by_cases h4 : byt s (a + i) = 0 ∧ 0 < i
      · rw [goN_long h1 h4.1 h4.2] at h; simp at h
      · have hb : byt s (a + i) < 128 := by omega
        rw [goN_last h1 h2 hb h4]
        refine ⟨byt s (a + i), by omega, ?_, ?_, ?_⟩
        · rw [Lib.uvarint_small hb]
          exact At.cons (last_val _ hb).symm (At.nil _ _)
        · rw [Lib.uvarint_small hb]; simp; omega
        · rw [Lib.uvarint_small hb]
          unfold addU
          rw [Nat.mod_eq_of_lt hb]
          simp
theorem szl (x : ByteArray) : x.data.toList.length = x.size := (Lib.size_eq x).symm
theorem getR_canon {s : ByteArray} {x : Int} (h : (getR s x).2.2 = 0) : ∃ q : Nat, x = q ∧ s.size ≤ 8000 ∧ At s q (putS (getR s x).1).data.toList ∧ q + (putS (getR s x).1).size ≤ s.size ∧ (getR s x).2.1 = ((q + (putS (getR s x).1).size : Nat) : Int) := by
  unfold getR at *
  split at h
  · simp at h
  · rename_i h8
    rw [if_neg h8]
    split at h
    · simp at h
    · rename_i h0
      rw [if_neg h0]
      obtain ⟨u, -, hA, hz, he⟩ := goN_canon s x.toNat 10 0 0 h
      refine ⟨x.toNat, by omega, by omega, ?_⟩
      simp only [Nat.add_zero, Nat.mul_zero, Nat.pow_zero, Nat.mul_one, Nat.zero_add] at hA hz he
      rw [he]
      simp only
      rw [mputS_list, mputS_len, zigzag_unz]
      exact ⟨hA, hz, rfl⟩
theorem getR_read {s : ByteArray} {q : Nat} {n : Int} (h0 : -9223372036854775808 ≤ n) (h1 : n ≤ 9223372036854775807) (hs : s.size ≤ 8000) (hA : At s q (putS n).data.toList) (hz : q + (putS n).size ≤ s.size) :
    getR s (q : Int) = (n, ((q + (putS n).size : Nat) : Int), 0) := by
  rw [mgetR s q hs]
  rw [mputS_list] at hA
  rw [mputS_len] at hz
  have := goN_read s q 10 0 0 (Lib.zigzag n) (.inr rfl) (by simpa using zz_lt n h0 h1) (by omega) (by simpa using hA) (by omega)
  rw [this]
  simp [unz_zigzag n, mputS_len]
theorem txS_list (d : ByteArray) : (txS d).data.toList = (putS d.size).data.toList ++ d.data.toList := by unfold txS; simp
theorem txS_size (d : ByteArray) : (txS d).size = (putS d.size).size + d.size := by unfold txS; rw [ByteArray.size_append]
theorem textR_canon {s : ByteArray} {x : Int} (h : (textR s x).2.2 = 0) : ∃ q : Nat, x = q ∧ s.size ≤ 8000 ∧ At s q (txS (textR s x).1).data.toList ∧ q + (txS (textR s x).1).size ≤ s.size ∧ (textR s x).2.1 = ((q + (txS (textR s x).1).size : Nat) : Int) := by
  unfold textR at *
  split at h
  · rename_i h1
    obtain ⟨q, hq, h8, hA, hz, he⟩ := getR_canon h1
    rw [if_pos h1]
    split at h
    · simp at h
    · rename_i h2
      rw [if_neg h2]
      split at h
      · rename_i h3
        rw [if_pos h3]
        refine ⟨q, hq, h8, ?_⟩
        simp only
        obtain ⟨m, hm⟩ : ∃ m : Nat, (getR s x).1 = (m : Int) := ⟨(getR s x).1.toNat, by omega⟩
        rw [he, hm] at h3 ⊢
        rw [hm] at hA hz
        simp only [Int.toNat_natCast] at h3 ⊢
        have hes : (s.extract (q + (putS (m : Int)).size) (q + (putS (m : Int)).size + m)).size = m := by simp; omega
        rw [txS_list, txS_size, hes]
        refine ⟨hA.join ?_, by omega, by omega⟩
        rw [szl]
        exact at_extract s _ _ h3
      · simp at h
  · rename_i h1; exact absurd h h1
theorem textR_read {s : ByteArray} {q : Nat} {d : ByteArray} (hd : d.size ≤ 8000) (hs : s.size ≤ 8000) (hA : At s q (txS d).data.toList) (hz : q + (txS d).size ≤ s.size) :
    textR s (q : Int) = (d, ((q + (txS d).size : Nat) : Int), 0) := by
  rw [txS_list] at hA
  rw [txS_size] at hz
  have e := getR_read (n := (d.size : Int)) (by omega) (by omega) hs hA.left (by omega)
  have hr := hA.right
  rw [szl] at hr
  unfold textR
  rw [e]
  simp only [Int.toNat_natCast]
  rw [if_pos trivial, if_neg (by omega), if_pos (by omega), txS_size]
  have hes : (s.extract (q + (putS (d.size : Int)).size) (q + (putS (d.size : Int)).size + d.size)) = d := by
    apply ByteArray.ext
    apply Array.toList_inj.1
    have h2 := at_extract s (q + (putS (d.size : Int)).size) (q + (putS (d.size : Int)).size + d.size) (by omega)
    have hl : (s.extract (q + (putS (d.size : Int)).size) (q + (putS (d.size : Int)).size + d.size)).data.toList.length = d.data.toList.length := by rw [szl, szl]; simp; omega
    apply List.ext_getElem hl
    intro j h3 h4
    have a := h2 j h3
    have b := hr j h4
    rw [a] at b
    exact UInt8.toNat_inj.1 b
  rw [hes]
  congr 2
  omega

/-- The steps read one behind the other: what they are, where the next one stands, whether one was bad. -/
def stR (t : ByteArray) (x : Int) : Nat → List stpT × Int × Bool
  | 0 => ([], x, false)
  | k + 1 => ((stR t x k).1 ++ [(rdR (txtS t (stR t x k).2.1 (stR t x k).2.2).1).1], (txtS t (stR t x k).2.1 (stR t x k).2.2).2.1, (txtS t (stR t x k).2.1 (stR t x k).2.2).2.2 || decide ((rdR (txtS t (stR t x k).2.1 (stR t x k).2.2).1).2 ≠ 0))
theorem stR_len (t : ByteArray) (x : Int) : ∀ k, (stR t x k).1.length = k
  | 0 => rfl
  | k + 1 => by simp [stR, stR_len t x k]
theorem stR_bad {t : ByteArray} {x : Int} {k : Nat} (h : (stR t x k).2.2 = true) : (stR t x (k + 1)).2.2 = true := by
  simp only [stR]
  rw [h, txtS_bad]; rfl
theorem stR_good {t : ByteArray} {x : Int} : ∀ {j k : Nat}, j ≤ k → (stR t x k).2.2 = false → (stR t x j).2.2 = false
  | j, 0, hj, h => by rw [Nat.le_zero.1 hj]; exact h
  | j, k + 1, hj, h => by
    by_cases e : j = k + 1
    · rw [e]; exact h
    · refine stR_good (j := j) (k := k) (by omega) ?_
      cases hb : (stR t x k).2.2 with
      | false => rfl
      | true => rw [stR_bad hb] at h; cases h
theorem txtS_ok {s : ByteArray} {x : Int} {bad : Bool} (h : (txtS s x bad).2.2 = false) : bad = false ∧ (textR s x).2.2 = 0 ∧ txtS s x bad = ((textR s x).1, (textR s x).2.1, false) := by
  unfold txtS at *
  split at h
  · rename_i h1; rw [if_pos h1]; exact ⟨h1.1, h1.2, rfl⟩
  · cases h
theorem numS_ok {s : ByteArray} {x : Int} {bad : Bool} (h : (numS s x bad).2.2 = false) : bad = false ∧ (getR s x).2.2 = 0 ∧ numS s x bad = ((getR s x).1, (getR s x).2.1, false) := by
  unfold numS at *
  split at h
  · rename_i h1; rw [if_pos h1]; exact ⟨h1.1, h1.2, rfl⟩
  · cases h
theorem rdR_full {u : ByteArray} (h : (rdR u).2 = 0) : u = stepS (rdR u).1.1 (rdR u).1.2.1 (rdR u).1.2.2.1 (rdR u).1.2.2.2 := by
  have h1 := rdR_ok h
  have h2 : stepB 8 (rdR u).1.1 (rdR u).1.2.1 (rdR u).1.2.2.1 (rdR u).1.2.2.2 = true := by
    unfold rdR at *
    split at h
    · simp at h
    · rename_i h8
      rw [if_neg h8]
      split at h
      · rename_i hb
        rw [if_pos hb]
        unfold rdB at hb
        rw [Bool.and_eq_true] at hb
        exact hb.1
      · simp at h
  unfold stepBs at h1
  rw [if_pos h2] at h1
  exact h1.symm
theorem stR_canon {t : ByteArray} {q : Nat} (h8 : q ≤ t.size) : ∀ k, (stR t (q : Int) k).2.2 = false →
    (stR t (q : Int) k).2.1 = ((q + (cat ((stR t (q : Int) k).1.map stpTx)).size : Nat) : Int) ∧ At t q (cat ((stR t (q : Int) k).1.map stpTx)).data.toList ∧ q + (cat ((stR t (q : Int) k).1.map stpTx)).size ≤ t.size
  | 0, _ => ⟨rfl, by intro j hj; exact absurd hj (by simp [stR, cat]), h8⟩
  | k + 1, h => by
    obtain ⟨h1, h2, h3⟩ := stR_canon h8 k (stR_good (by omega) h)
    have hb : (stR t (q : Int) k).2.2 = false := stR_good (Nat.le_succ k) h
    simp only [stR] at h ⊢
    rw [hb] at h ⊢
    rw [Bool.or_eq_false_iff] at h
    obtain ⟨hx, hr⟩ := h
    have hr0 : (rdR (txtS t (stR t (q : Int) k).2.1 false).1).2 = 0 := by simpa using hr
    obtain ⟨-, hc, he⟩ := txtS_ok hx
    rw [he] at hr0 ⊢
    simp only at hr0 ⊢
    obtain ⟨q', hq', -, hA, hz, ha⟩ := textR_canon hc
    rw [h1] at hq'
    have hq2 : q' = q + (cat ((stR t (q : Int) k).1.map stpTx)).size := by omega
    have e : txS (textR t (stR t (q : Int) k).2.1).1 = stpTx (rdR (textR t (stR t (q : Int) k).2.1).1).1 := by
      unfold stpTx; rw [← rdR_full hr0]
    rw [e] at hA hz ha
    rw [List.map_append, cat_append, List.map_singleton, cat_one, ByteArray.size_append]
    refine ⟨by rw [ha, hq2, Nat.add_assoc], ?_, by omega⟩
    rw [ByteArray.data_append, Array.toList_append]
    refine h2.join ?_
    rw [szl, ← hq2]
    exact hA
theorem stR_read {t : ByteArray} {q : Nat} (ht : t.size ≤ 8000) : ∀ (l : List stpT), (∀ s ∈ l, stepB 8 s.1 s.2.1 s.2.2.1 s.2.2.2 = true) → At t q (cat (l.map stpTx)).data.toList → q + (cat (l.map stpTx)).size ≤ t.size → ∀ k, k ≤ l.length →
    stR t (q : Int) k = (l.take k, ((q + (cat ((l.take k).map stpTx)).size : Nat) : Int), false)
  | l, hl, hA, hz, 0, _ => by
    show (([] : List stpT), (q : Int), false) = ([], ((q + 0 : Nat) : Int), false)
    rw [Nat.add_zero]
  | l, hl, hA, hz, k + 1, hk => by
    have ih := stR_read ht l hl hA hz k (by omega)
    have hkl : k < l.length := by omega
    have hsv := hl l[k] (List.getElem_mem hkl)
    have e1 : l = l.take k ++ (l[k] :: l.drop (k + 1)) := by rw [← List.drop_eq_getElem_cons hkl, List.take_append_drop]
    have hA' := hA
    have hz' := hz
    rw [e1, List.map_append, List.map_cons, cat_append, cat_cons] at hA' hz'
    rw [ByteArray.size_append, ByteArray.size_append] at hz'
    rw [ByteArray.data_append, Array.toList_append, ByteArray.data_append, Array.toList_append] at hA'
    have hA2 := hA'.right.left
    rw [szl] at hA2
    have hsz := stpTx_size hsv
    have hd : (stepS l[k].1 l[k].2.1 l[k].2.2.1 l[k].2.2.2).size ≤ 8000 := by
      have : (stpTx l[k]).size = _ := txS_size (stepS l[k].1 l[k].2.1 l[k].2.2.1 l[k].2.2.2)
      omega
    have hr : textR t ((q + (cat ((l.take k).map stpTx)).size : Nat) : Int) = (stepS l[k].1 l[k].2.1 l[k].2.2.1 l[k].2.2.2, ((q + (cat ((l.take k).map stpTx)).size + (stpTx l[k]).size : Nat) : Int), 0) := textR_read hd ht hA2 (by
      show _ + (stpTx l[k]).size ≤ _
      omega)
    have hx : txtS t ((q + (cat ((l.take k).map stpTx)).size : Nat) : Int) false = (stepS l[k].1 l[k].2.1 l[k].2.2.1 l[k].2.2.2, ((q + (cat ((l.take k).map stpTx)).size + (stpTx l[k]).size : Nat) : Int), false) := by
      rw [txtS_yes (by rw [hr]), hr]
    simp only [stR]
    rw [ih]
    simp only
    rw [hx]
    simp only
    rw [rdR_back hsv]
    rw [List.take_succ_eq_append_getElem hkl, List.map_append, cat_append, List.map_singleton, cat_one, ByteArray.size_append, Nat.add_assoc]
    rfl

/-- The header: how many blocks, the digest, how many steps. -/
def k1 (t : ByteArray) : Int × Int × Bool := numS t 0 false
def k2 (t : ByteArray) : ByteArray × Int × Bool := txtS t (k1 t).2.1 (k1 t).2.2
def k3 (t : ByteArray) : Int × Int × Bool := numS t (k2 t).2.1 (k2 t).2.2
def kS (t : ByteArray) (k : Nat) : List stpT × Int × Bool := stR t (k3 t).2.1 k
def pkGood (t : ByteArray) : Prop := (k3 t).2.2 = false ∧ (0 ≤ (k3 t).1 ∧ (k3 t).1 ≤ 20) ∧ (kS t (k3 t).1.toNat).2.2 = false ∧ (kS t (k3 t).1.toNat).2.1 = (t.size : Int) ∧ pkOk ((k1 t).1, (k2 t).1, (kS t (k3 t).1.toNat).1)
def pkRd (t : ByteArray) (k : Nat) : pkT := ((k1 t).1, (k2 t).1, (kS t k).1)
open Classical in
noncomputable def pkR (s : ByteArray) : pkT × Int := if (unsealT s).2 = 0 then (if pkGood (unsealT s).1 then (pkRd (unsealT s).1 (k3 (unsealT s).1).1.toNat, 0) else (noPk, 3)) else (noPk, (unsealT s).2)
/-- What a good text is. -/
theorem pkGood_enc {t : ByteArray} (h : pkGood t) : t = pkE (pkRd t (k3 t).1.toNat) := by
  obtain ⟨h3, ⟨n0, n1⟩, hb, ha, hok⟩ := h
  obtain ⟨hb2, c3, e3⟩ := numS_ok (show (numS t (k2 t).2.1 (k2 t).2.2).2.2 = false from h3)
  obtain ⟨hb1, c2, e2⟩ := txtS_ok (show (txtS t (k1 t).2.1 (k1 t).2.2).2.2 = false from hb2)
  obtain ⟨-, c1, e1⟩ := numS_ok (show (numS t 0 false).2.2 = false from hb1)
  obtain ⟨q1, hq1, h8, A1, z1, a1⟩ := getR_canon c1
  obtain rfl : q1 = 0 := by omega
  have f1 : k1 t = ((getR t 0).1, (getR t 0).2.1, false) := e1
  have g1 : (k1 t).1 = (getR t 0).1 := by rw [f1]
  have g1a : (k1 t).2.1 = (((putS (k1 t).1).size : Nat) : Int) := by rw [g1, f1, ← Nat.zero_add (putS (getR t 0).1).size]; exact a1
  rw [← g1] at A1 z1
  obtain ⟨q2, hq2, -, A2, z2, a2⟩ := textR_canon c2
  have f2 : k2 t = ((textR t (k1 t).2.1).1, (textR t (k1 t).2.1).2.1, false) := e2
  have g2 : (k2 t).1 = (textR t (k1 t).2.1).1 := by rw [f2]
  rw [← g2] at A2 z2 a2
  obtain rfl : q2 = (putS (k1 t).1).size := by omega
  have g2a : (k2 t).2.1 = (((putS (k1 t).1).size + (txS (k2 t).1).size : Nat) : Int) := by rw [← a2, f2]
  obtain ⟨q3, hq3, -, A3, z3, a3⟩ := getR_canon c3
  have f3 : k3 t = ((getR t (k2 t).2.1).1, (getR t (k2 t).2.1).2.1, false) := e3
  have g3 : (k3 t).1 = (getR t (k2 t).2.1).1 := by rw [f3]
  rw [← g3] at A3 z3 a3
  obtain rfl : q3 = (putS (k1 t).1).size + (txS (k2 t).1).size := by omega
  have g3a : (k3 t).2.1 = (((putS (k1 t).1).size + (txS (k2 t).1).size + (putS (k3 t).1).size : Nat) : Int) := by rw [← a3, f3]
  obtain ⟨b1, b2, b3⟩ := stR_canon (t := t) (q := (putS (k1 t).1).size + (txS (k2 t).1).size + (putS (k3 t).1).size) z3 (k3 t).1.toNat (by rw [← g3a]; exact hb)
  rw [← g3a] at b1 b2 b3
  have hlen : ((stR t (k3 t).2.1 (k3 t).1.toNat).1.length : Int) = (k3 t).1 := by rw [stR_len]; omega
  have hall : At t 0 (pkE (pkRd t (k3 t).1.toNat)).data.toList := by
    unfold pkE pkRd kS pkParts
    simp only
    rw [hlen, cat_cons, cat_cons, cat_cons]
    simp only [ByteArray.data_append, Array.toList_append]
    refine A1.join ?_
    rw [szl, Nat.zero_add]
    refine A2.join ?_
    rw [szl]
    refine A3.join ?_
    rw [szl]
    exact b2
  have hsz : (pkE (pkRd t (k3 t).1.toNat)).size = t.size := by
    have h9 : (stR t (k3 t).2.1 (k3 t).1.toNat).2.1 = (t.size : Int) := ha
    rw [b1] at h9
    unfold pkE pkRd kS pkParts
    simp only
    rw [hlen, cat_cons, cat_cons, cat_cons, ByteArray.size_append, ByteArray.size_append, ByteArray.size_append]
    omega
  exact ByteArray.ext (Array.toList_inj.1 (hall.whole (by rw [szl]; exact hsz)))
/-- The encoding of a valid package is good, and reads as it. -/
theorem pkE_good {p : pkT} (h : pkOk p) {t : ByteArray} (ht : t = pkE p) : pkGood t ∧ (k3 t).1 = (p.2.2.length : Int) ∧ pkRd t p.2.2.length = p := by
  have hz := pkE_size h
  have hn := h.num
  have hd := h.2
  have hl := h.len
  have hA := at_self t
  have h8 : t.size ≤ 8000 := by rw [ht]; omega
  have ez : (pkE p).size = (putS p.1).size + ((txS p.2.1).size + ((putS p.2.2.length).size + (cat (p.2.2.map stpTx)).size)) := by
    unfold pkE pkParts
    rw [cat_cons, cat_cons, cat_cons, ByteArray.size_append, ByteArray.size_append, ByteArray.size_append]
  have ez2 : t.size = (putS p.1).size + ((txS p.2.1).size + ((putS p.2.2.length).size + (cat (p.2.2.map stpTx)).size)) := by rw [ht]; exact ez
  have el : t.data.toList = (putS p.1).data.toList ++ ((txS p.2.1).data.toList ++ ((putS p.2.2.length).data.toList ++ (cat (p.2.2.map stpTx)).data.toList)) := by
    rw [ht]
    unfold pkE pkParts
    rw [cat_cons, cat_cons, cat_cons]
    simp only [ByteArray.data_append, Array.toList_append]
  rw [el] at hA
  have A1 := hA.left
  have r1 := hA.right
  rw [szl, Nat.zero_add] at r1
  have A2 := r1.left
  have r2 := r1.right
  rw [szl] at r2
  have A3 := r2.left
  have A4 := r2.right
  rw [szl] at A4
  have e1 : getR t 0 = (p.1, (((putS p.1).size : Nat) : Int), 0) := by
    have := getR_read (q := 0) (by omega) (by omega) h8 A1 (by omega)
    simpa using this
  have f1 : k1 t = (p.1, (((putS p.1).size : Nat) : Int), false) := by unfold k1; rw [numS_yes (by rw [e1]), e1]
  have e2 := textR_read (q := (putS p.1).size) (by omega) h8 A2 (by omega)
  have f2 : k2 t = (p.2.1, (((putS p.1).size + (txS p.2.1).size : Nat) : Int), false) := by unfold k2; rw [f1]; simp only; rw [txtS_yes (by rw [e2]), e2]
  have e3 := getR_read (q := (putS p.1).size + (txS p.2.1).size) (n := (p.2.2.length : Int)) (by omega) (by omega) h8 A3 (by omega)
  have f3 : k3 t = ((p.2.2.length : Int), (((putS p.1).size + (txS p.2.1).size + (putS p.2.2.length).size : Nat) : Int), false) := by unfold k3; rw [f2]; simp only; rw [numS_yes (by rw [e3]), e3]
  have fS : kS t p.2.2.length = (p.2.2, (t.size : Int), false) := by
    unfold kS
    rw [f3]
    simp only
    rw [stR_read h8 p.2.2 h.steps A4 (by omega) p.2.2.length (Nat.le_refl _), List.take_length]
    congr 2
    omega
  have hr : pkRd t p.2.2.length = p := by unfold pkRd; rw [f1, f2, fS]
  refine ⟨⟨by rw [f3], by rw [f3]; exact ⟨by simp only; omega, by simp only; omega⟩, ?_, ?_, ?_⟩, by rw [f3], hr⟩
  · rw [f3]; simp only [Int.toNat_natCast]; rw [fS]
  · rw [f3]; simp only [Int.toNat_natCast]; rw [fS]
  · rw [f3]; simp only [Int.toNat_natCast]; rw [fS, f1, f2]; exact h
theorem unsealT_sealS {t : ByteArray} (h : t.size ≤ 7996) : unsealT (sealS t) = (t, 0) := by
  have hz : (sealS t).size = t.size + 4 := by unfold sealS; rw [ByteArray.size_append, fourS_size]
  unfold unsealT
  rw [if_neg (by omega), if_neg (by omega), hz, Nat.add_sub_cancel]
  have e1 : (sealS t).extract 0 t.size = t := mhead _ _
  have e2 : (sealS t).extract t.size (t.size + 4) = fourS (crcF 0 t) := by
    unfold sealS
    apply ByteArray.ext
    apply Array.toList_inj.1
    rw [Lib.extract_data]
    simp only [ByteArray.data_append, Array.toList_append]
    rw [List.drop_left' (szl t), List.take_of_length_le (by rw [szl, fourS_size]; omega)]
  rw [e1, e2, if_pos (by simp)]
theorem unsealT_back {s : ByteArray} (h : (unsealT s).2 = 0) : s = sealS (unsealT s).1 := by
  have hk := unsealT_ok h
  obtain ⟨h8, h4, he⟩ := hk
  unfold unsealT at h
  rw [if_neg (by omega), if_neg (by omega)] at h
  split at h
  · rename_i hc
    have e := toList_inj hc
    rw [he]
    unfold sealS
    rw [e]
    apply ByteArray.ext
    apply Array.toList_inj.1
    rw [ByteArray.data_append, Array.toList_append, Lib.extract_data, Lib.extract_data]
    have hl := szl s
    rw [List.drop_zero, Nat.sub_zero, List.take_of_length_le (l := List.drop (s.size - 4) s.data.toList) (by rw [List.length_drop, hl]; omega), List.take_append_drop]
  · cases h
theorem pkBytes_yes {p : pkT} (h : pkOk p) : pkBytes p = sealS (pkE p) := if_pos ((pkB_iff p).2 h)
theorem pkBytes_no {p : pkT} (h : ¬ pkOk p) : pkBytes p = ⟨#[]⟩ := if_neg (by rw [(pkB_no p).2 h]; simp)
/-- A package comes back from its bytes. -/
theorem pkR_back {p : pkT} (h : pkOk p) : pkR (pkBytes p) = (p, 0) := by
  have hz := pkE_size h
  rw [pkBytes_yes h]
  unfold pkR
  rw [unsealT_sealS (by omega)]
  obtain ⟨hg, hn, hr⟩ := pkE_good h rfl
  rw [if_pos rfl, if_pos hg, hn, Int.toNat_natCast, hr]
theorem pkR_ok {s : ByteArray} (h : (pkR s).2 = 0) : pkOk (pkR s).1 ∧ pkBytes (pkR s).1 = s := by
  unfold pkR at *
  split at h
  · rename_i h0
    rw [if_pos h0]
    split at h
    · rename_i hg
      rw [if_pos hg]
      have hok : pkOk (pkRd (unsealT s).1 (k3 (unsealT s).1).1.toNat) := hg.2.2.2.2
      refine ⟨hok, ?_⟩
      simp only
      rw [pkBytes_yes hok, ← pkGood_enc hg]
      exact (unsealT_back h0).symm
    · simp at h
  · rename_i h0; exact absurd h h0
/-- How the model decides: it reads, and then it compares. -/
theorem pkR_cmp {s : ByteArray} (h0 : (unsealT s).2 = 0) (k : Nat) (bad : Bool) (hbad : bad = ((k3 (unsealT s).1).2.2 || (kS (unsealT s).1 k).2.2)) (hk : (k : Int) ≤ (k3 (unsealT s).1).1 ∨ k = 0) (hk20 : k ≤ 20) (hend : bad = true ∨ ¬ ((k : Int) < (k3 (unsealT s).1).1 ∧ (k : Int) < 20)) :
    pkR s = if bad = false ∧ ((pkBytes (pkRd (unsealT s).1 k)).toList == s.toList) = true then (pkRd (unsealT s).1 k, 0) else (noPk, 3) := by
  obtain ⟨hs8, hs4, -⟩ := unsealT_ok h0
  unfold pkR
  rw [if_pos h0]
  by_cases hc : bad = false ∧ ((pkBytes (pkRd (unsealT s).1 k)).toList == s.toList) = true
  · rw [if_pos hc]
    have he := toList_inj hc.2
    have hok : pkOk (pkRd (unsealT s).1 k) := Classical.byContradiction fun hno => by
      rw [pkBytes_no hno] at he
      rw [← he] at hs4
      exact absurd hs4 (by decide)
    have hz := pkE_size hok
    have ht : (unsealT s).1 = pkE (pkRd (unsealT s).1 k) := by
      rw [pkBytes_yes hok] at he
      have := unsealT_sealS (t := pkE (pkRd (unsealT s).1 k)) (by omega)
      rw [he] at this
      exact congrArg Prod.fst this
    obtain ⟨hg, hn, hr⟩ := pkE_good hok ht
    rw [if_pos hg, hn, Int.toNat_natCast, hr]
  · rw [if_neg hc]
    refine if_neg fun hg => hc ?_
    obtain ⟨h3, ⟨n0, n1⟩, hb, ha, hok⟩ := id hg
    have hkn : k ≤ (k3 (unsealT s).1).1.toNat := by omega
    have hbk : (kS (unsealT s).1 k).2.2 = false := stR_good hkn hb
    have hbad0 : bad = false := by rw [hbad, h3, hbk]; rfl
    have hk2 : k = (k3 (unsealT s).1).1.toNat := by
      have := hend.resolve_left (by rw [hbad0]; simp)
      omega
    refine ⟨hbad0, ?_⟩
    have hok2 : pkOk (pkRd (unsealT s).1 k) := by rw [hk2]; exact hok
    have e : pkBytes (pkRd (unsealT s).1 k) = s := by
      rw [pkBytes_yes hok2, hk2, ← pkGood_enc hg]
      exact (unsealT_back h0).symm
    rw [e]; simp
end Go.Proofs.YthkbllkhomjmbaaGreatDoor

namespace Go.Proofs.YthkbllkhomjmbaaGreatDoor
open Go.RowKit

/-- The number in front; what stands behind it; the step there. -/
def rN (t : ByteArray) : Int × Int × Bool := numS t 0 false
def rT (t : ByteArray) : ByteArray := t.extract (rN t).2.1.toNat t.size
def rX (t : ByteArray) : stpT × Int := rdR (rT t)
def recRd (s : ByteArray) (n : Int) : stpT × Int :=
  if (unsealT s).2 = 0 then
    (if (rN (unsealT s).1).2.2 = false ∧ isT (rN (unsealT s).1).1 = true ∧ (rX (unsealT s).1).2 = 0 then
      (if (rN (unsealT s).1).1 = n then ((rX (unsealT s).1).1, 0) else (noStp, 6)) else (noStp, 3))
  else (noStp, (unsealT s).2)
theorem rN_at (t : ByteArray) : ∃ q : Nat, (rN t).2.1 = q ∧ q ≤ t.size ∧ rT t = t.extract q t.size := by
  unfold rT
  cases hb : (rN t).2.2 with
  | false =>
    obtain ⟨-, hc, he⟩ := numS_ok (show (numS t 0 false).2.2 = false from hb)
    obtain ⟨q, hq, -, -, hz, ha⟩ := getR_canon hc
    have e : (rN t).2.1 = ((q + (putS (getR t 0).1).size : Nat) : Int) := by unfold rN; rw [he]; exact ha
    exact ⟨_, e, hz, by rw [e, Int.toNat_natCast]⟩
  | true =>
    have e : (rN t).2.1 = ((0 : Nat) : Int) := by
      unfold rN numS at *
      split at hb
      · cases hb
      · rename_i h; rw [if_neg h]; rfl
    exact ⟨0, e, Nat.zero_le _, by rw [e]; rfl⟩
theorem getR_at0 (t : ByteArray) : ∃ q : Nat, (getR t 0).2.1 = q ∧ q ≤ t.size := by
  by_cases hc : (getR t 0).2.2 = 0
  · obtain ⟨q, hq, -, -, hz, ha⟩ := getR_canon hc
    exact ⟨_, ha, hz⟩
  · refine ⟨0, ?_, Nat.zero_le _⟩
    unfold getR at *
    split
    · rfl
    · rename_i h8
      rw [if_neg h8] at hc
      split
      · rfl
      · rename_i h0
        rw [if_neg h0] at hc
        rw [goN_bad _ _ _ _ _ hc]; rfl
theorem rN_yes {t : ByteArray} (h : (getR t 0).2.2 = 0) : rN t = ((getR t 0).1, (getR t 0).2.1, false) := numS_yes h
theorem rN_no {t : ByteArray} (h : ¬ (getR t 0).2.2 = 0) : rN t = (0, 0, true) := numS_no h
/-- What is read is what stands there. -/
theorem rec_enc {t : ByteArray} (hb : (rN t).2.2 = false) (hx : (rX t).2 = 0) : t = recE (rN t).1 (rX t).1 := by
  obtain ⟨-, hc, he⟩ := numS_ok (show (numS t 0 false).2.2 = false from hb)
  obtain ⟨q, hq, -, hA, hz, ha⟩ := getR_canon hc
  obtain rfl : q = 0 := by omega
  have g1 : (rN t).1 = (getR t 0).1 := by unfold rN; rw [he]
  have g2 : rT t = t.extract (putS (rN t).1).size t.size := by
    unfold rT
    rw [g1]
    unfold rN
    rw [he]
    simp only
    rw [ha, Nat.zero_add]; rfl
  rw [← g1] at hA hz
  have hf := rdR_full (show (rdR (rT t)).2 = 0 from hx)
  have hE := at_extract t (putS (rN t).1).size t.size (Nat.le_refl _)
  rw [← g2] at hE
  have hsz : (rT t).size = t.size - (putS (rN t).1).size := by rw [g2]; simp
  have hall : At t 0 (putS (rN t).1 ++ rT t).data.toList := by
    rw [ByteArray.data_append, Array.toList_append]
    refine hA.join ?_
    rw [szl, Nat.zero_add]
    exact hE
  have h1 := hall.whole (by rw [szl, ByteArray.size_append]; omega)
  have h2 : t = putS (rN t).1 ++ rT t := ByteArray.ext (Array.toList_inj.1 h1)
  have h3 : recE (rN t).1 (rX t).1 = putS (rN t).1 ++ rT t := by
    unfold recE rX
    rw [← hf]
  rw [h3]
  exact h2
theorem mtail (t u : ByteArray) : (t ++ u).extract t.size (t ++ u).size = u := by
  apply ByteArray.ext
  apply Array.toList_inj.1
  rw [Lib.extract_data]
  simp only [ByteArray.data_append, Array.toList_append]
  rw [List.drop_left' (szl t), List.take_of_length_le (by rw [szl, ByteArray.size_append]; omega)]
/-- An encoding reads as what it is of. -/
theorem rec_reads {n : Int} {s : stpT} (h : recB n s = true) {t : ByteArray} (ht : t = recE n s) : (rN t).1 = n ∧ (rN t).2.2 = false ∧ rX t = (s, 0) := by
  have hz := recE_size h
  obtain ⟨⟨n0, n1⟩, hs⟩ := (recB_iff _ _).1 h
  have hA := at_self t
  have h8 : t.size ≤ 8000 := by rw [ht]; omega
  have el : t.data.toList = (putS n).data.toList ++ (stepS s.1 s.2.1 s.2.2.1 s.2.2.2).data.toList := by
    rw [ht]; unfold recE; simp only [ByteArray.data_append, Array.toList_append]
  have ez : t.size = (putS n).size + (stepS s.1 s.2.1 s.2.2.1 s.2.2.2).size := by rw [ht]; unfold recE; rw [ByteArray.size_append]
  rw [el] at hA
  have e1 : getR t 0 = (n, (((putS n).size : Nat) : Int), 0) := by
    have := getR_read (q := 0) (by omega) (by omega) h8 hA.left (by omega)
    simpa using this
  have f1 := rN_yes (t := t) (by rw [e1])
  rw [e1] at f1
  have f2 : rT t = stepS s.1 s.2.1 s.2.2.1 s.2.2.2 := by
    unfold rT
    rw [f1]
    simp only [Int.toNat_natCast]
    rw [ht]
    exact mtail _ _
  refine ⟨by rw [f1], by rw [f1], ?_⟩
  unfold rX
  rw [f2, rdR_back hs]
/-- A record is read under its number. -/
theorem rec_back {n : Int} {s : stpT} (h : recB n s = true) (m : Int) : recRd (recBs n s) m = if n = m then (s, 0) else (noStp, 6) := by
  have hz := recE_size h
  have hn := ((recB_iff _ _).1 h).1
  rw [recBs_yes h]
  unfold recRd
  rw [unsealT_sealS (by omega)]
  obtain ⟨a, b, c⟩ := rec_reads h rfl
  simp only [if_true]
  rw [if_pos ⟨b, by rw [a]; exact (isT_iff _).2 hn, by rw [c]⟩, a, c]
theorem recRd_seal {s : ByteArray} (h : ¬ (unsealT s).2 = 0) (n : Int) : recRd s n = (noStp, (unsealT s).2) := if_neg h
theorem recRd_odd {s : ByteArray} (h0 : (unsealT s).2 = 0) (hg : ¬ ((rN (unsealT s).1).2.2 = false ∧ isT (rN (unsealT s).1).1 = true ∧ (rX (unsealT s).1).2 = 0)) (n : Int) : recRd s n = (noStp, 3) := (if_pos h0).trans (if_neg hg)
theorem recRd_good {s : ByteArray} (h0 : (unsealT s).2 = 0) (hg : (rN (unsealT s).1).2.2 = false ∧ isT (rN (unsealT s).1).1 = true ∧ (rX (unsealT s).1).2 = 0) (n : Int) : recRd s n = if (rN (unsealT s).1).1 = n then ((rX (unsealT s).1).1, 0) else (noStp, 6) := (if_pos h0).trans (if_pos hg)
theorem rdR_right {u : ByteArray} (h : (rdR u).2 = 0) : stepB 8 (rdR u).1.1 (rdR u).1.2.1 (rdR u).1.2.2.1 (rdR u).1.2.2.2 = true := by
  unfold rdR at *
  split at h
  · simp at h
  · rename_i h8
    rw [if_neg h8]
    split at h
    · rename_i hb
      rw [if_pos hb]
      unfold rdB at hb
      rw [Bool.and_eq_true] at hb
      exact hb.1
    · simp at h
theorem rX_right {t : ByteArray} (h : (rX t).2 = 0) : stepB 8 (rX t).1.1 (rX t).1.2.1 (rX t).1.2.2.1 (rX t).1.2.2.2 = true := by unfold rX at *; exact rdR_right h
theorem recB_of {n : Int} {s : stpT} (h : isT n = true) (h' : stepB 8 s.1 s.2.1 s.2.2.1 s.2.2.2 = true) : recB n s = true := by unfold recB; rw [h, h']; rfl
theorem rec_good {s : ByteArray} (h0 : (unsealT s).2 = 0) (hg : (rN (unsealT s).1).2.2 = false ∧ isT (rN (unsealT s).1).1 = true ∧ (rX (unsealT s).1).2 = 0) : recB (rN (unsealT s).1).1 (rX (unsealT s).1).1 = true ∧ recBs (rN (unsealT s).1).1 (rX (unsealT s).1).1 = s := by
  have hrb := recB_of hg.2.1 (rX_right hg.2.2)
  refine ⟨hrb, ?_⟩
  rw [recBs_yes hrb, ← rec_enc hg.1 hg.2.2]
  exact (unsealT_back h0).symm
theorem rec_ok_of {s : ByteArray} {n : Int} {x : stpT} {R : stpT × Int} (e : R = (x, 0)) (h : recB n x = true ∧ recBs n x = s) : recB n R.1 = true ∧ recBs n R.1 = s := by subst e; exact h
theorem two_ne {x : stpT} {c : Int} {R : stpT × Int} (e : R = (x, c)) (h : R.2 = 0) : c = 0 := by subst e; exact h
/-- What is accepted is the record of what is read. -/
theorem rec_ok {s : ByteArray} {n : Int} (h : (recRd s n).2 = 0) : recB n (recRd s n).1 = true ∧ recBs n (recRd s n).1 = s := by
  by_cases h0 : (unsealT s).2 = 0
  · by_cases hg : (rN (unsealT s).1).2.2 = false ∧ isT (rN (unsealT s).1).1 = true ∧ (rX (unsealT s).1).2 = 0
    · have e := recRd_good h0 hg n
      by_cases hn : (rN (unsealT s).1).1 = n
      · rw [if_pos hn] at e
        have := rec_good h0 hg
        rw [hn] at this
        exact rec_ok_of e this
      · rw [if_neg hn] at e
        exact absurd (two_ne e h) (by decide)
    · exact absurd (two_ne (recRd_odd h0 hg n) h) (by decide)
  · exact absurd (two_ne (recRd_seal h0 n) h) h0
/-- How the model decides: it reads, and then it compares. -/
theorem rec_cmp {s : ByteArray} (h0 : (unsealT s).2 = 0) (n : Int) :
    recRd s n = if (rN (unsealT s).1).2.2 = false ∧ (rX (unsealT s).1).2 = 0 ∧ ((recBs (rN (unsealT s).1).1 (rX (unsealT s).1).1).toList == s.toList) = true then (if (rN (unsealT s).1).1 = n then ((rX (unsealT s).1).1, 0) else (noStp, 6)) else (noStp, 3) := by
  obtain ⟨hs8, hs4, -⟩ := unsealT_ok h0
  by_cases hc : (rN (unsealT s).1).2.2 = false ∧ isT (rN (unsealT s).1).1 = true ∧ (rX (unsealT s).1).2 = 0
  · rw [recRd_good h0 hc]
    have e := rec_good h0 hc
    exact (if_pos ⟨hc.1, hc.2.2, by rw [e.2]; simp⟩).symm
  · rw [recRd_odd h0 hc]
    refine (if_neg fun hg => hc ⟨hg.1, ?_, hg.2.1⟩).symm
    have he := toList_inj hg.2.2
    cases hb : recB (rN (unsealT s).1).1 (rX (unsealT s).1).1 with
    | true => exact (isT_iff _).2 ((recB_iff _ _).1 hb).1
    | false =>
      rw [recBs_no hb] at he
      rw [← he] at hs4
      exact absurd hs4 (by decide)
/-- At one place stands one step. -/
theorem step_one {t : ByteArray} {q : Nat} (h8 : t.size ≤ 8000) {s s' : stpT} (h : stepB 8 s.1 s.2.1 s.2.2.1 s.2.2.2 = true) (h' : stepB 8 s'.1 s'.2.1 s'.2.2.1 s'.2.2.2 = true)
    (A : At t q (stepS s.1 s.2.1 s.2.2.1 s.2.2.2).data.toList) (z : q + (stepS s.1 s.2.1 s.2.2.1 s.2.2.2).size ≤ t.size)
    (A' : At t q (stepS s'.1 s'.2.1 s'.2.2.1 s'.2.2.2).data.toList) (z' : q + (stepS s'.1 s'.2.1 s'.2.2.1 s'.2.2.2).size ≤ t.size) : s = s' := by
  obtain ⟨k, tv, f, d⟩ := s
  obtain ⟨k', tv', f', d'⟩ := s'
  dsimp only at *
  obtain ⟨k0, k1, t0, t1, f0, f1, d1⟩ := ok_bounds h
  obtain ⟨k0', k1', t0', t1', f0', f1', d1'⟩ := ok_bounds h'
  rw [stepS_list] at A A'
  rw [stepS_size2] at z z'
  have e := getR_read (n := k) (by omega) (by omega) h8 A.left (by omega)
  rw [getR_read (n := k') (by omega) (by omega) h8 A'.left (by omega)] at e
  obtain rfl : k' = k := congrArg Prod.fst e
  have B := A.right
  have B' := A'.right
  rw [szl] at B B'
  have e := getR_read (n := tv) (by omega) (by omega) h8 B.left (by omega)
  rw [getR_read (n := tv') (by omega) (by omega) h8 B'.left (by omega)] at e
  obtain rfl : tv' = tv := congrArg Prod.fst e
  have C := B.right
  have C' := B'.right
  rw [szl] at C C'
  have e := getR_read (n := f) (by omega) (by omega) h8 C.left (by omega)
  rw [getR_read (n := f') (by omega) (by omega) h8 C'.left (by omega)] at e
  obtain rfl : f' = f := congrArg Prod.fst e
  have D := C.right
  have D' := C'.right
  rw [szl] at D D'
  rw [← txS_list] at D D'
  have e := textR_read (d := d) (by omega) h8 D (by rw [txS_size]; omega)
  rw [textR_read (d := d') (by omega) h8 D' (by rw [txS_size]; omega)] at e
  obtain rfl : d' = d := congrArg Prod.fst e
  rfl
/-- No prefix of a record is one. -/
theorem rec_prefix {n : Int} {s : stpT} (h : recB n s = true) (q : Nat) (hq : q < (recBs n s).size) : ¬ (recRd ((recBs n s).extract 0 q) n).2 = 0 := fun hk => by
  obtain ⟨hb, he⟩ := rec_ok hk
  obtain ⟨s', hs'⟩ : ∃ s', s' = (recRd ((recBs n s).extract 0 q) n).1 := ⟨_, rfl⟩
  rw [← hs'] at hb he
  clear hk hs'
  have hz := recE_size h
  have hz' := recE_size hb
  have e1 : (recBs n s).size = (recE n s).size + 4 := by rw [recBs_yes h]; unfold sealS; rw [ByteArray.size_append, fourS_size]
  have e2 : (recBs n s').size = (recE n s').size + 4 := by rw [recBs_yes hb]; unfold sealS; rw [ByteArray.size_append, fourS_size]
  have e3 : ((recBs n s).extract 0 q).size = q := by simp; omega
  rw [← he, e2] at e3
  have hlt : (recE n s').size < (recE n s).size := by omega
  -- what is sealed stands in front
  have A0 : At (recBs n s) 0 (recBs n s').data.toList := by rw [he]; exact at_extract _ 0 q (by omega)
  have A1 : At (recBs n s) 0 (recE n s').data.toList := by
    rw [recBs_yes hb] at A0
    unfold sealS at A0
    rw [ByteArray.data_append, Array.toList_append] at A0
    exact A0.left
  have A2 : At (recBs n s) 0 (recE n s).data.toList := by
    have := at_self (recBs n s)
    rw [recBs_yes h] at this ⊢
    unfold sealS at this ⊢
    rw [ByteArray.data_append, Array.toList_append] at this
    exact this.left
  unfold recE at A1 A2 hlt hz hz' e1
  rw [ByteArray.data_append, Array.toList_append] at A1 A2
  rw [ByteArray.size_append] at e1 hz hz' hlt
  rw [ByteArray.size_append] at hlt
  have B1 := A1.right
  have B2 := A2.right
  rw [szl, Nat.zero_add] at B1 B2
  have hst := ((recB_iff _ _).1 h).2
  have hst' := ((recB_iff _ _).1 hb).2
  have e := step_one (by omega) hst hst' B2 (by omega) B1 (by omega)
  rw [e] at hlt
  exact Nat.lt_irrefl _ hlt

/-- The steps of a log, read up to the first sector that has not the next one. -/
def scanF : List ByteArray → Nat → List stpT
  | [], _ => []
  | s :: l, i => if (recRd s i).2 = 0 then (recRd s i).1 :: scanF l (i + 1) else []
theorem scanF_cons (s : ByteArray) (l : List ByteArray) (i : Nat) : scanF (s :: l) i = if (recRd s i).2 = 0 then (recRd s i).1 :: scanF l (i + 1) else [] := rfl
theorem scanF_len : ∀ (l : List ByteArray) (i : Nat), (scanF l i).length ≤ l.length
  | [], _ => Nat.le_refl _
  | s :: l, i => by
    rw [scanF_cons]
    split
    · have := scanF_len l (i + 1); simp; omega
    · simp
theorem scanF_go {l : List ByteArray} {pre : List stpT} {k : Nat} (h : scanF l 0 = pre ++ scanF (l.drop k) k) (hk : k < l.length) (hc : (recRd l[k] (k : Int)).2 = 0) :
    scanF l 0 = (pre ++ [(recRd l[k] (k : Int)).1]) ++ scanF (l.drop (k + 1)) (k + 1) := by
  rw [List.drop_eq_getElem_cons hk, scanF_cons, if_pos hc] at h
  rw [h]; simp
theorem scanF_stop {l : List ByteArray} {pre : List stpT} {k : Nat} (h : scanF l 0 = pre ++ scanF (l.drop k) k) (hk : k < l.length) (hc : ¬ (recRd l[k] (k : Int)).2 = 0) : scanF l 0 = pre := by
  rw [List.drop_eq_getElem_cons hk, scanF_cons, if_neg hc] at h
  rw [h]; simp
theorem scanF_end {l : List ByteArray} {pre : List stpT} (h : scanF l 0 = pre ++ scanF (l.drop l.length) l.length) : scanF l 0 = pre := by
  rw [List.drop_length, scanF] at h
  rw [h]; simp
/-- What Scan gives. -/
def scanR (l : List ByteArray) : List stpT × Int := if 24 < l.length then ([], 0) else (scanF l 0, (keptS (scanF l 0) : Int))
theorem scanR_len (l : List ByteArray) : (scanR l).1.length ≤ 24 := by
  unfold scanR
  split
  · exact Nat.zero_le _
  · have := scanF_len l 0
    simp only; omega
/-- What was scanned is a row of records. -/
theorem scanF_get : ∀ (l : List ByteArray) (i k : Nat) (h : k < (scanF l i).length), ∃ hk : k < l.length, recRd l[k] ((i + k : Nat) : Int) = ((scanF l i)[k], 0)
  | [], _, k, h => absurd h (by simp [scanF])
  | s :: l, i, k, h => by
    by_cases hc : (recRd s (i : Int)).2 = 0
    · have e : scanF (s :: l) i = (recRd s (i : Int)).1 :: scanF l (i + 1) := by rw [scanF_cons, if_pos hc]
      match k with
      | 0 =>
        refine ⟨by simp, ?_⟩
        simp only [e, List.getElem_cons_zero, Nat.add_zero]
        rw [← hc]
      | k + 1 =>
        have h2 : k < (scanF l (i + 1)).length := by rw [e] at h; simpa using h
        obtain ⟨hk, hr⟩ := scanF_get l (i + 1) k h2
        refine ⟨by simpa using hk, ?_⟩
        simp only [e, List.getElem_cons_succ]
        rw [← hr]
        congr 2
        omega
    · rw [show scanF (s :: l) i = [] by rw [scanF_cons, if_neg hc]] at h
      exact absurd h (by simp)
/-- Where a sector is torn, the scan ends. -/
theorem scanF_cut : ∀ (l : List ByteArray) (i k : Nat) (s : ByteArray), k < (scanF l i).length → ¬ (recRd s ((i + k : Nat) : Int)).2 = 0 → scanF (l.set k s) i = (scanF l i).take k
  | [], _, k, _, h, _ => absurd h (by simp [scanF])
  | x :: l, i, k, s, h, hb => by
    by_cases hc : (recRd x (i : Int)).2 = 0
    · have e : scanF (x :: l) i = (recRd x (i : Int)).1 :: scanF l (i + 1) := by rw [scanF_cons, if_pos hc]
      match k with
      | 0 =>
        rw [List.set_cons_zero, List.take_zero]
        rw [scanF_cons, if_neg (by simpa using hb)]
      | k + 1 =>
        have h2 : k < (scanF l (i + 1)).length := by rw [e] at h; simpa using h
        have ih := scanF_cut l (i + 1) k s h2 (by rw [show i + 1 + k = i + (k + 1) by omega]; exact hb)
        rw [List.set_cons_succ, e, List.take_succ_cons, ← ih]
        show scanF (x :: l.set k s) i = _
        rw [scanF_cons, if_pos hc]
    · rw [show scanF (x :: l) i = [] by rw [scanF_cons, if_neg hc]] at h
      exact absurd h (by simp)
end Go.Proofs.YthkbllkhomjmbaaGreatDoor

namespace Go.Proofs.YthkbllkhomjmbaaGreatDoor
open Go.RowKit Go.Extern.Stop Go.Stop Go.Extern

theorem isTypeOf (v : Value) (w : World) : (ReflectliteType.typeOf #[.iface 231 v]).run Tryz.prog w = .ok (.iface 209 (.agg #[.pointer (some ⟨11, 231, none⟩)])) w := by kernel_rfl
def cmpM : Array Value → Sem Value := ReflectliteType.method fun t => do Rtype.noPackHeld "Comparable" t; pure (.bool (← typeInfo t).comparable)
theorem isComparable (w : World) : (cmpM #[.agg #[.pointer (some ⟨11, 231, none⟩)]]).run Tryz.prog w = .ok (.bool true) w := by kernel_rfl
theorem isMethodComparable (v : Value) (w : World) : (Go.method 363 209 v "Comparable").run Tryz.prog w = .ok (204, v) w := by kernel_rfl
theorem isComp : (Tryz.prog.info? 231).map (·.comparable) = some true := by kernel_rfl
theorem isSize : (Tryz.prog.info? 251).map (·.size) = some 1 := by kernel_rfl
theorem noIsE (v : Value) (xT : TypeId) (w : World) : (Instr.typeAssert (.iface 231 v) xT 211 true).run Tryz.prog w = .ok (.tuple #[.nilIface, .bool false]) w := run_typeAssert_lacksB Tryz.underlying211 (by kernel_rfl) (by kernel_rfl) v xT w
theorem noUnwrapE (v : Value) (xT : TypeId) (w : World) : (Instr.typeAssert (.iface 231 v) xT 214 true).run Tryz.prog w = .ok (.tuple #[.nilIface, .bool false]) w := run_typeAssert_lacksB Tryz.underlying214 (by kernel_rfl) (by kernel_rfl) v xT w
theorem noUnwrapsE (v : Value) (xT : TypeId) (w : World) : (Instr.typeAssert (.iface 231 v) xT 216 true).run Tryz.prog w = .ok (.tuple #[.nilIface, .bool false]) w := run_typeAssert_lacksB Tryz.underlying216 (by kernel_rfl) (by kernel_rfl) v xT w
theorem noIsL (v : Value) (xT : TypeId) (w : World) : (Instr.typeAssert (.iface 177 v) xT 211 true).run Tryz.prog w = .ok (.tuple #[.nilIface, .bool false]) w := run_typeAssert_lacksB Tryz.underlying211 (by kernel_rfl) (by kernel_rfl) v xT w
theorem hasUnwrapL (v : Value) (xT : TypeId) (w : World) : (Instr.typeAssert (.iface 177 v) xT 214 true).run Tryz.prog w = .ok (.tuple #[.iface 177 v, .bool true]) w := run_typeAssert_hasB Tryz.underlying214 (by kernel_rfl) v xT w
theorem noIsM (v : Value) (xT : TypeId) (w : World) : (Instr.typeAssert (.iface 146 v) xT 211 true).run Tryz.prog w = .ok (.tuple #[.nilIface, .bool false]) w := run_typeAssert_lacksB Tryz.underlying211 (by kernel_rfl) (by kernel_rfl) v xT w
theorem noUnwrapM (v : Value) (xT : TypeId) (w : World) : (Instr.typeAssert (.iface 146 v) xT 214 true).run Tryz.prog w = .ok (.tuple #[.nilIface, .bool false]) w := run_typeAssert_lacksB Tryz.underlying214 (by kernel_rfl) (by kernel_rfl) v xT w
theorem noUnwrapsM (v : Value) (xT : TypeId) (w : World) : (Instr.typeAssert (.iface 146 v) xT 216 true).run Tryz.prog w = .ok (.tuple #[.nilIface, .bool false]) w := run_typeAssert_lacksB Tryz.underlying216 (by kernel_rfl) (by kernel_rfl) v xT w
theorem methodUnwrap (v : Value) (w : World) : (Go.method 363 177 v "Unwrap").run Tryz.prog w = .ok (198, v) w := by kernel_rfl
/-- An error that is a sentinel; one wrapped in the name of a layer; one that carries a code. -/
def eP (x : Addr) : Value := .iface 231 (.pointer (some x))
def eL (s : ByteArray) (e : Value) : Value := .iface 177 (.agg #[.string s, e])
def eM (c : Int) : Value := .iface 146 (.agg #[.int .i64 c])
theorem unwrap_any (s : ByteArray) (t : TypeId) (v : Value) (w : World) :
    Calls Tryz.prog 198 #[.agg #[.string s, .iface t v]] w fun e w' => e = .returned (.iface t v) ∧ Below w.heap.size w w' := by
  go_enter Tryz.func198, Tryz.ntmps198
  go_wp2
  go_ret
  exact ⟨rfl, (Below.refl _ _).alloc (Nat.le_refl _) _⟩

set_option maxHeartbeats 4000000 in
theorem is_Ps (x : Addr) (w : World) :
    Calls Tryz.prog 102 #[eP x, eP x] w fun e w' => e = .returned (.bool true) ∧ Below w.heap.size w w' := by
  obtain ⟨i, hi, hcmp⟩ := Option.map_eq_some_iff.1 isComp
  obtain ⟨j, hj, hjs⟩ := Option.map_eq_some_iff.1 isSize
  have h8 := @run_callFunc_extern Tryz.prog 140 _ Extern.ReflectliteType.typeOf Tryz.func140 (by kernel_rfl) (by kernel_rfl) (by kernel_rfl) (by kernel_rfl)
  have h32 := @run_callFunc_extern Tryz.prog 204 _ cmpM Tryz.func204 (by kernel_rfl) (by kernel_rfl) (by kernel_rfl) (by kernel_rfl)
  have tT := isTypeOf
  have cT := isComparable
  have mR := isMethodComparable
  have nE := noIsE
  have uE := noUnwrapE
  have vE := noUnwrapsE
  have heq := fun w => run_eql_iface_ptr_same (P := Tryz.prog) w x Tryz.underlying77 Tryz.underlying231 hi hcmp hj
  unfold eP
  go_enter Tryz.func102, Tryz.ntmps102
  go_wp2
  refine wp_loop_rounds 1 ?_
  rw [rounds_succ]
  go_wp2_with fail
  go_ret
  exact ⟨rfl, Below.refl _ _⟩

set_option maxHeartbeats 4000000 in
theorem is_Po (x : Addr) (b : Addr) (w : World) (hne : x ≠ b) (cx cb : Array Value) (tx tb : TypeId) (hx : w.heap[x.block]? = some (.cells cx tx (0, 0))) (hb : w.heap[b.block]? = some (.cells cb tb (0, 0))) :
    Calls Tryz.prog 102 #[eP x, eP b] w fun e w' => e = .returned (.bool false) ∧ Below w.heap.size w w' := by
  obtain ⟨i, hi, hcmp⟩ := Option.map_eq_some_iff.1 isComp
  obtain ⟨j, hj, hjs⟩ := Option.map_eq_some_iff.1 isSize
  have h8 := @run_callFunc_extern Tryz.prog 140 _ Extern.ReflectliteType.typeOf Tryz.func140 (by kernel_rfl) (by kernel_rfl) (by kernel_rfl) (by kernel_rfl)
  have h32 := @run_callFunc_extern Tryz.prog 204 _ cmpM Tryz.func204 (by kernel_rfl) (by kernel_rfl) (by kernel_rfl) (by kernel_rfl)
  have tT := isTypeOf
  have cT := isComparable
  have mR := isMethodComparable
  have nE := noIsE
  have uE := noUnwrapE
  have vE := noUnwrapsE
  have hlx : x.block < w.heap.size := (Array.getElem?_eq_some_iff.1 hx).1
  have hlb : b.block < w.heap.size := (Array.getElem?_eq_some_iff.1 hb).1
  have HX := Lib.hid hx
  have HBB := Lib.hid hb
  clear hx hb
  have heq := run_eql_iface_ptr_other (P := Tryz.prog) w Tryz.underlying77 Tryz.underlying231 hi hcmp hj (by rw [hjs]; decide) hne HX.out HBB.out
  unfold eP
  go_enter Tryz.func102, Tryz.ntmps102
  go_wp2
  refine wp_loop_rounds 1 ?_
  rw [rounds_succ]
  go_wp2_with fail
  go_ret
  exact ⟨rfl, Below.refl _ _⟩

set_option maxHeartbeats 4000000 in
theorem is_LPs (x : Addr) (s0 : ByteArray) (w : World) :
    Calls Tryz.prog 102 #[eL s0 (eP x), eP x] w fun e w' => e = .returned (.bool true) ∧ Below w.heap.size w w' := by
  obtain ⟨i, hi, hcmp⟩ := Option.map_eq_some_iff.1 isComp
  obtain ⟨j, hj, hjs⟩ := Option.map_eq_some_iff.1 isSize
  have h8 := @run_callFunc_extern Tryz.prog 140 _ Extern.ReflectliteType.typeOf Tryz.func140 (by kernel_rfl) (by kernel_rfl) (by kernel_rfl) (by kernel_rfl)
  have h32 := @run_callFunc_extern Tryz.prog 204 _ cmpM Tryz.func204 (by kernel_rfl) (by kernel_rfl) (by kernel_rfl) (by kernel_rfl)
  have tT := isTypeOf
  have cT := isComparable
  have mR := isMethodComparable
  have nE := noIsE
  have uE := noUnwrapE
  have vE := noUnwrapsE
  have nW := noIsL
  have uW := hasUnwrapL
  have mU := methodUnwrap
  have hty0 := run_eql_iface_types (P := Tryz.prog) 177 231 (.agg #[.string s0, .iface 231 (.pointer (some x))]) (.pointer (some x)) Tryz.underlying77 (by decide)
  have heq := fun w => run_eql_iface_ptr_same (P := Tryz.prog) w x Tryz.underlying77 Tryz.underlying231 hi hcmp hj
  unfold eP
  unfold eL
  go_enter Tryz.func102, Tryz.ntmps102
  go_wp2
  refine wp_loop_rounds 2 ?_
  rw [rounds_succ]
  go_wp2_with fail
  refine (unwrap_any _ _ _ _).mono ?_
  rintro e w1 ⟨rfl, hb1⟩
  have HB1 := Lib.hid hb1
  clear hb1
  go_wp2_with fail
  rw [rounds_succ]
  go_wp2_with fail
  go_ret
  exact ⟨rfl, HB1.out⟩

set_option maxHeartbeats 4000000 in
theorem is_LPo (x : Addr) (s0 : ByteArray) (b : Addr) (w : World) (hne : x ≠ b) (cx cb : Array Value) (tx tb : TypeId) (hx : w.heap[x.block]? = some (.cells cx tx (0, 0))) (hb : w.heap[b.block]? = some (.cells cb tb (0, 0))) :
    Calls Tryz.prog 102 #[eL s0 (eP x), eP b] w fun e w' => e = .returned (.bool false) ∧ Below w.heap.size w w' := by
  obtain ⟨i, hi, hcmp⟩ := Option.map_eq_some_iff.1 isComp
  obtain ⟨j, hj, hjs⟩ := Option.map_eq_some_iff.1 isSize
  have h8 := @run_callFunc_extern Tryz.prog 140 _ Extern.ReflectliteType.typeOf Tryz.func140 (by kernel_rfl) (by kernel_rfl) (by kernel_rfl) (by kernel_rfl)
  have h32 := @run_callFunc_extern Tryz.prog 204 _ cmpM Tryz.func204 (by kernel_rfl) (by kernel_rfl) (by kernel_rfl) (by kernel_rfl)
  have tT := isTypeOf
  have cT := isComparable
  have mR := isMethodComparable
  have nE := noIsE
  have uE := noUnwrapE
  have vE := noUnwrapsE
  have nW := noIsL
  have uW := hasUnwrapL
  have mU := methodUnwrap
  have hty0 := run_eql_iface_types (P := Tryz.prog) 177 231 (.agg #[.string s0, .iface 231 (.pointer (some x))]) (.pointer (some b)) Tryz.underlying77 (by decide)
  have hlx : x.block < w.heap.size := (Array.getElem?_eq_some_iff.1 hx).1
  have hlb : b.block < w.heap.size := (Array.getElem?_eq_some_iff.1 hb).1
  have HX := Lib.hid hx
  have HBB := Lib.hid hb
  clear hx hb
  unfold eP
  unfold eL
  go_enter Tryz.func102, Tryz.ntmps102
  go_wp2
  refine wp_loop_rounds 2 ?_
  rw [rounds_succ]
  go_wp2_with fail
  refine (unwrap_any _ _ _ _).mono ?_
  rintro e w1 ⟨rfl, hb1⟩
  have HB1 := Lib.hid hb1
  clear hb1
  have heq := run_eql_iface_ptr_other (P := Tryz.prog) w1 Tryz.underlying77 Tryz.underlying231 hi hcmp hj (by rw [hjs]; decide) hne ((HB1.out.block _ hlx).trans HX.out) ((HB1.out.block _ hlb).trans HBB.out)
  go_wp2_with fail
  rw [rounds_succ]
  go_wp2_with fail
  go_ret
  exact ⟨rfl, HB1.out⟩

set_option maxHeartbeats 4000000 in
theorem is_LM (c : Int) (s0 : ByteArray) (b : Addr) (w : World) :
    Calls Tryz.prog 102 #[eL s0 (eM c), eP b] w fun e w' => e = .returned (.bool false) ∧ Below w.heap.size w w' := by
  obtain ⟨i, hi, hcmp⟩ := Option.map_eq_some_iff.1 isComp
  obtain ⟨j, hj, hjs⟩ := Option.map_eq_some_iff.1 isSize
  have h8 := @run_callFunc_extern Tryz.prog 140 _ Extern.ReflectliteType.typeOf Tryz.func140 (by kernel_rfl) (by kernel_rfl) (by kernel_rfl) (by kernel_rfl)
  have h32 := @run_callFunc_extern Tryz.prog 204 _ cmpM Tryz.func204 (by kernel_rfl) (by kernel_rfl) (by kernel_rfl) (by kernel_rfl)
  have tT := isTypeOf
  have cT := isComparable
  have mR := isMethodComparable
  have nE := noIsM
  have uE := noUnwrapM
  have vE := noUnwrapsM
  have nW := noIsL
  have uW := hasUnwrapL
  have mU := methodUnwrap
  have hty0 := run_eql_iface_types (P := Tryz.prog) 177 231 (.agg #[.string s0, .iface 146 (.agg #[.int .i64 c])]) (.pointer (some b)) Tryz.underlying77 (by decide)
  have htyM := run_eql_iface_types (P := Tryz.prog) 146 231 (.agg #[.int .i64 c]) (.pointer (some b)) Tryz.underlying77 (by decide)
  unfold eP
  unfold eL
  unfold eM
  go_enter Tryz.func102, Tryz.ntmps102
  go_wp2
  refine wp_loop_rounds 2 ?_
  rw [rounds_succ]
  go_wp2_with fail
  refine (unwrap_any _ _ _ _).mono ?_
  rintro e w1 ⟨rfl, hb1⟩
  have HB1 := Lib.hid hb1
  clear hb1
  go_wp2_with fail
  rw [rounds_succ]
  go_wp2_with fail
  go_ret
  exact ⟨rfl, HB1.out⟩

set_option maxHeartbeats 4000000 in
theorem is_LLM (c : Int) (s0 : ByteArray) (s1 : ByteArray) (b : Addr) (w : World) :
    Calls Tryz.prog 102 #[eL s0 (eL s1 (eM c)), eP b] w fun e w' => e = .returned (.bool false) ∧ Below w.heap.size w w' := by
  obtain ⟨i, hi, hcmp⟩ := Option.map_eq_some_iff.1 isComp
  obtain ⟨j, hj, hjs⟩ := Option.map_eq_some_iff.1 isSize
  have h8 := @run_callFunc_extern Tryz.prog 140 _ Extern.ReflectliteType.typeOf Tryz.func140 (by kernel_rfl) (by kernel_rfl) (by kernel_rfl) (by kernel_rfl)
  have h32 := @run_callFunc_extern Tryz.prog 204 _ cmpM Tryz.func204 (by kernel_rfl) (by kernel_rfl) (by kernel_rfl) (by kernel_rfl)
  have tT := isTypeOf
  have cT := isComparable
  have mR := isMethodComparable
  have nE := noIsM
  have uE := noUnwrapM
  have vE := noUnwrapsM
  have nW := noIsL
  have uW := hasUnwrapL
  have mU := methodUnwrap
  have hty0 := run_eql_iface_types (P := Tryz.prog) 177 231 (.agg #[.string s0, .iface 177 (.agg #[.string s1, .iface 146 (.agg #[.int .i64 c])])]) (.pointer (some b)) Tryz.underlying77 (by decide)
  have hty1 := run_eql_iface_types (P := Tryz.prog) 177 231 (.agg #[.string s1, .iface 146 (.agg #[.int .i64 c])]) (.pointer (some b)) Tryz.underlying77 (by decide)
  have htyM := run_eql_iface_types (P := Tryz.prog) 146 231 (.agg #[.int .i64 c]) (.pointer (some b)) Tryz.underlying77 (by decide)
  unfold eP
  unfold eL
  unfold eM
  go_enter Tryz.func102, Tryz.ntmps102
  go_wp2
  refine wp_loop_rounds 3 ?_
  rw [rounds_succ]
  go_wp2_with fail
  refine (unwrap_any _ _ _ _).mono ?_
  rintro e w1 ⟨rfl, hb1⟩
  have HB1 := Lib.hid hb1
  clear hb1
  go_wp2_with fail
  rw [rounds_succ]
  go_wp2_with fail
  refine (unwrap_any _ _ _ _).mono ?_
  rintro e w2 ⟨rfl, hb2⟩
  have HB2 := Lib.hid (HB1.out.trans (hb2.mono HB1.out.size))
  clear hb2
  go_wp2_with fail
  rw [rounds_succ]
  go_wp2_with fail
  go_ret
  exact ⟨rfl, HB2.out⟩

set_option maxHeartbeats 4000000 in
theorem is_LLPo (x : Addr) (s0 : ByteArray) (s1 : ByteArray) (b : Addr) (w : World) (hne : x ≠ b) (cx cb : Array Value) (tx tb : TypeId) (hx : w.heap[x.block]? = some (.cells cx tx (0, 0))) (hb : w.heap[b.block]? = some (.cells cb tb (0, 0))) :
    Calls Tryz.prog 102 #[eL s0 (eL s1 (eP x)), eP b] w fun e w' => e = .returned (.bool false) ∧ Below w.heap.size w w' := by
  obtain ⟨i, hi, hcmp⟩ := Option.map_eq_some_iff.1 isComp
  obtain ⟨j, hj, hjs⟩ := Option.map_eq_some_iff.1 isSize
  have h8 := @run_callFunc_extern Tryz.prog 140 _ Extern.ReflectliteType.typeOf Tryz.func140 (by kernel_rfl) (by kernel_rfl) (by kernel_rfl) (by kernel_rfl)
  have h32 := @run_callFunc_extern Tryz.prog 204 _ cmpM Tryz.func204 (by kernel_rfl) (by kernel_rfl) (by kernel_rfl) (by kernel_rfl)
  have tT := isTypeOf
  have cT := isComparable
  have mR := isMethodComparable
  have nE := noIsE
  have uE := noUnwrapE
  have vE := noUnwrapsE
  have nW := noIsL
  have uW := hasUnwrapL
  have mU := methodUnwrap
  have hty0 := run_eql_iface_types (P := Tryz.prog) 177 231 (.agg #[.string s0, .iface 177 (.agg #[.string s1, .iface 231 (.pointer (some x))])]) (.pointer (some b)) Tryz.underlying77 (by decide)
  have hty1 := run_eql_iface_types (P := Tryz.prog) 177 231 (.agg #[.string s1, .iface 231 (.pointer (some x))]) (.pointer (some b)) Tryz.underlying77 (by decide)
  have hlx : x.block < w.heap.size := (Array.getElem?_eq_some_iff.1 hx).1
  have hlb : b.block < w.heap.size := (Array.getElem?_eq_some_iff.1 hb).1
  have HX := Lib.hid hx
  have HBB := Lib.hid hb
  clear hx hb
  unfold eP
  unfold eL
  go_enter Tryz.func102, Tryz.ntmps102
  go_wp2
  refine wp_loop_rounds 3 ?_
  rw [rounds_succ]
  go_wp2_with fail
  refine (unwrap_any _ _ _ _).mono ?_
  rintro e w1 ⟨rfl, hb1⟩
  have HB1 := Lib.hid hb1
  clear hb1
  go_wp2_with fail
  rw [rounds_succ]
  go_wp2_with fail
  refine (unwrap_any _ _ _ _).mono ?_
  rintro e w2 ⟨rfl, hb2⟩
  have HB2 := Lib.hid (HB1.out.trans (hb2.mono HB1.out.size))
  clear hb2
  have heq := run_eql_iface_ptr_other (P := Tryz.prog) w2 Tryz.underlying77 Tryz.underlying231 hi hcmp hj (by rw [hjs]; decide) hne ((HB2.out.block _ hlx).trans HX.out) ((HB2.out.block _ hlb).trans HBB.out)
  go_wp2_with fail
  rw [rounds_succ]
  go_wp2_with fail
  go_ret
  exact ⟨rfl, HB2.out⟩
end Go.Proofs.YthkbllkhomjmbaaGreatDoor

namespace Go.Proofs.YthkbllkhomjmbaaGreatDoor
open Go.RowKit

/-- Sentinels, each behind its variable, apart from each other. -/
structure Sent (w : World) (gs : List Nat) (a : Nat → Addr) : Prop where
  cell : ∀ i (h : i < gs.length), w.cell? ⟨gs[i], 0, none⟩ = some (eP (a i))
  row : ∀ i, i < gs.length → ∃ c t, w.heap[(a i).block]? = some (.cells c t (0, 0))
  ne : ∀ i j, i < gs.length → j < gs.length → i ≠ j → a i ≠ a j
theorem cell_lt {w : World} {p : Addr} {v : Value} (h : w.cell? p = some v) : p.block < w.heap.size := by
  rcases Nat.lt_or_ge p.block w.heap.size with h' | h'
  · exact h'
  · simp [World.cell?, Array.getElem?_eq_none h'] at h
theorem Sent.next {w w' : World} {gs : List Nat} {a : Nat → Addr} (h : Sent w gs a) (hb : Below w.heap.size w w') : Sent w' gs a :=
  ⟨fun i hi => (hb.cell (cell_lt (h.cell i hi))).trans (h.cell i hi), fun i hi => by
    obtain ⟨c, t, e⟩ := h.row i hi
    exact ⟨c, t, (hb.block _ (Array.getElem?_eq_some_iff.1 e).1).trans e⟩, h.ne⟩
theorem Sent.one {w : World} {gs : List Nat} {a : Nat → Addr} (h : Sent w gs a) {n B : Nat} (v : Value) (hB : ∀ i (h : i < gs.length), gs[i] < B) (hr : ∀ i, i < gs.length → (a i).block < B) (hn : B ≤ n) (j : Nat) : Sent (w.setCell ⟨n, j, none⟩ v) gs a :=
  ⟨fun i hi => by rw [World.cell?_setCell_other (h := by intro e; have := congrArg Addr.block e; simp at this; have := hB i hi; omega)]; exact h.cell i hi, fun i hi => by
    obtain ⟨c, t, e⟩ := h.row i hi
    exact ⟨c, t, (Below.heap_setCell w ⟨n, j, none⟩ v _ (by have := hr i hi; simp; omega)).trans e⟩, h.ne⟩
def sealG : List Nat := [0, 1, 2]
theorem Sent.s0 {w : World} {m : List Nat} {a : Nat → Addr} (h : Sent w (sealG ++ m) a) : w.cell? ⟨0, 0, none⟩ = some (.iface 231 (.pointer (some (a 0)))) := h.cell 0 (by simp [sealG])
theorem Sent.s1 {w : World} {m : List Nat} {a : Nat → Addr} (h : Sent w (sealG ++ m) a) : w.cell? ⟨1, 0, none⟩ = some (.iface 231 (.pointer (some (a 1)))) := h.cell 1 (by simp [sealG])
theorem Sent.s2 {w : World} {m : List Nat} {a : Nat → Addr} (h : Sent w (sealG ++ m) a) : w.cell? ⟨2, 0, none⟩ = some (.iface 231 (.pointer (some (a 2)))) := h.cell 2 (by simp [sealG])
theorem seal_lt {m : List Nat} {i : Nat} (h : i < 3) : i < (sealG ++ m).length := by simp [sealG]; omega
/-- Which error a code is. -/
def errI (c : Int) : Nat := if c = 2 then 0 else if c = 4 then 1 else 2
/-- What unsealed gives. -/
def unsV (a : Nat → Addr) (R : ByteArray × Int) : Value := if R.2 = 0 then .tuple #[.string R.1, .nilIface] else .tuple #[.string ⟨#[]⟩, eP (a (errI R.2))]

set_option maxHeartbeats 1000000 in
theorem unsealed_any (s : ByteArray) (m : List Nat) (a : Nat → Addr) (w : World) (hs : s.size ≤ maxLen) (hE : Sent w (sealG ++ m) a) :
    Calls Tryz.prog 99 #[.string s] w fun e w' => e = .returned (unsV a (unsealT s)) ∧ Below w.heap.size w w' := by
  have p0 := hE.s0
  have p1 := hE.s1
  have p2 := hE.s2
  have HE := Lib.hid hE
  clear hE
  unfold maxLen at hs
  by_cases h8 : 8000 < s.size
  · rw [show unsealT s = (⟨#[]⟩, 2) by unfold unsealT; rw [if_pos h8]]
    rw [show unsV a (⟨#[]⟩, 2) = .tuple #[.string ⟨#[]⟩, eP (a 0)] from rfl]
    unfold eP
    have d0 : decide ((8000 : Int) < (s.size : Int)) = true := decide_eq_true (by omega)
    go_enter Tryz.func99, Tryz.ntmps99
    go_wp2_with fail
    go_quiet (fail)
    go_wp2_with fail
    exact bodyPost_ret (v := .tuple #[.string ⟨#[]⟩, .iface 231 (.pointer (some (a 0)))]) (by simp [results, Tryz.results99, go_sem]) rfl ⟨rfl, below_drewN (Below.refl _ _) nq⟩
  have d0 : decide ((8000 : Int) < (s.size : Int)) = false := decide_eq_false (by omega)
  by_cases h4 : s.size < 4
  · rw [show unsealT s = (⟨#[]⟩, 4) by unfold unsealT; rw [if_neg h8, if_pos h4]]
    rw [show unsV a (⟨#[]⟩, 4) = .tuple #[.string ⟨#[]⟩, eP (a 1)] from rfl]
    unfold eP
    have d1 : decide ((s.size : Int) < 4) = true := decide_eq_true (by omega)
    go_enter Tryz.func99, Tryz.ntmps99
    go_wp2_with fail
    go_quiet (fail)
    go_wp2_with fail
    exact bodyPost_ret (v := .tuple #[.string ⟨#[]⟩, .iface 231 (.pointer (some (a 1)))]) (by simp [results, Tryz.results99, go_sem]) rfl ⟨rfl, below_drewN (Below.refl _ _) nq⟩
  have d1 : decide ((s.size : Int) < 4) = false := decide_eq_false (by omega)
  have hn : (s.size : Int) - 4 = ((s.size - 4 : Nat) : Int) := by omega
  obtain ⟨n, hnn⟩ : ∃ n, n = s.size - 4 := ⟨_, rfl⟩
  have hu : unsealT s = if ((fourS (crcF 0 (s.extract 0 n))).toList == (s.extract n s.size).toList) = true then (s.extract 0 n, 0) else (⟨#[]⟩, 5) := by
    unfold unsealT; rw [if_neg h8, if_neg h4, hnn]
  rw [← hnn] at hn
  have b0 : (0 : Int) ≤ (n : Int) := by omega
  have b1 : (n : Int) ≤ (s.size : Int) := by omega
  have b2 : n ≤ s.size := by omega
  have HZ := Lib.hid (show (s.extract 0 n).size ≤ 8000 by simp; omega)
  clear hnn
  cases hc : ((s.extract n s.size).toList == (fourS (crcF 0 (s.extract 0 n))).toList) with
  | true =>
    rw [hu, if_pos (by rw [BEq.comm]; exact hc)]
    rw [show unsV a (s.extract 0 n, 0) = .tuple #[.string (s.extract 0 n), .nilIface] from rfl]
    clear hu
    have hc2 : ((s.extract n s.size).toList != (fourS (crcF 0 (s.extract 0 n))).toList) = false := by simp [bne, hc]
    go_enter Tryz.func99, Tryz.ntmps99
    go_wp2_with fail
    go_region_held3 (fun _ => True) (trivial) ((go_at_call 92; refine (sum_any _ _ HZ.out).mono ?_; rintro e w' ⟨rfl, hb⟩))
    have HB := Lib.hid ((Below.refl w.heap.size w).drew.trans hb)
    clear hb
    go_wp2_with fail
    exact bodyPost_ret (v := .tuple #[.string (s.extract 0 n), .nilIface]) (by simp [results, Tryz.results99, go_sem]) rfl ⟨rfl, HB.out⟩
  | false =>
    rw [hu, if_neg (by rw [BEq.comm]; rw [hc]; simp)]
    rw [show unsV a (⟨#[]⟩, 5) = .tuple #[.string ⟨#[]⟩, eP (a 2)] from rfl]
    clear hu
    have hc2 : ((s.extract n s.size).toList != (fourS (crcF 0 (s.extract 0 n))).toList) = true := by simp [bne, hc]
    unfold eP
    go_enter Tryz.func99, Tryz.ntmps99
    go_wp2_with fail
    go_region_held3 (fun _ => True) (trivial) ((go_at_call 92; refine (sum_any _ _ HZ.out).mono ?_; rintro e w' ⟨rfl, hb⟩))
    have hbb := (Below.refl w.heap.size w).drew.trans hb
    have p2' := (HE.out.next hbb).s2
    have HB := Lib.hid hbb
    clear hb hbb p0 p1 p2
    go_wp2_with fail
    go_quiet (fail)
    go_wp2_with fail
    exact bodyPost_ret (v := .tuple #[.string ⟨#[]⟩, .iface 231 (.pointer (some (a 2)))]) (by simp [results, Tryz.results99, go_sem]) rfl ⟨rfl, below_drewN HB.out nq⟩

/-- An error that is none of the seal's. -/
def NotSeal (v : Value) (a : Nat → Addr) (w : World) : Prop := ∀ j, j < 3 → ∀ w', Below w.heap.size w w' → Calls Tryz.prog 102 #[v, eP (a j)] w' fun e w'' => e = .returned (.bool false) ∧ Below w'.heap.size w' w''

set_option maxHeartbeats 1000000 in
theorem sealedCode_P0 (m : List Nat) (a : Nat → Addr) (w : World) (hE : Sent w (sealG ++ m) a) :
    Calls Tryz.prog 52 #[eP (a 0)] w fun e w' => e = .returned (.int .i64 2) ∧ Below w.heap.size w w' := by
  have H0 := Lib.hid hE
  have B0 := Lib.hid (Below.refl w.heap.size w)
  have p0 := hE.s0
  clear hE
  have RR := Lib.hid (fun (w : World) (h : Sent w (sealG ++ m) a) (i j : Nat) (hi : i < 3) (hj : j < 3) (hne : i ≠ j) => by
    obtain ⟨ca, ta, ha⟩ := h.row i (seal_lt hi)
    obtain ⟨cb, tb, hb⟩ := h.row j (seal_lt hj)
    exact is_Po (a i) (a j) w (h.ne i j (seal_lt hi) (seal_lt hj) hne) ca cb ta tb ha hb)
  have SS := Lib.hid (fun (w : World) => is_Ps (a 0) w)
  unfold eP at RR SS ⊢
  go_enter Tryz.func52, Tryz.ntmps52
  go_wp2_with fail
  refine (SS.out _).mono ?_
  rintro e w1 ⟨rfl, hb⟩
  have B1 := Lib.hid (B0.out.trans (hb.mono B0.out.size))
  clear hb p0 H0 B0
  go_wp2_with fail
  go_ret
  exact ⟨rfl, B1.out⟩

set_option maxHeartbeats 1000000 in
theorem sealedCode_L0 (s : ByteArray) (m : List Nat) (a : Nat → Addr) (w : World) (hE : Sent w (sealG ++ m) a) :
    Calls Tryz.prog 52 #[eL s (eP (a 0))] w fun e w' => e = .returned (.int .i64 2) ∧ Below w.heap.size w w' := by
  have H0 := Lib.hid hE
  have B0 := Lib.hid (Below.refl w.heap.size w)
  have p0 := hE.s0
  clear hE
  have RR := Lib.hid (fun (w : World) (h : Sent w (sealG ++ m) a) (i j : Nat) (hi : i < 3) (hj : j < 3) (hne : i ≠ j) => by
    obtain ⟨ca, ta, ha⟩ := h.row i (seal_lt hi)
    obtain ⟨cb, tb, hb⟩ := h.row j (seal_lt hj)
    exact is_LPo (a i) s (a j) w (h.ne i j (seal_lt hi) (seal_lt hj) hne) ca cb ta tb ha hb)
  have SS := Lib.hid (fun (w : World) => is_LPs (a 0) s w)
  unfold eL eP at RR SS ⊢
  go_enter Tryz.func52, Tryz.ntmps52
  go_wp2_with fail
  refine (SS.out _).mono ?_
  rintro e w1 ⟨rfl, hb⟩
  have B1 := Lib.hid (B0.out.trans (hb.mono B0.out.size))
  clear hb p0 H0 B0
  go_wp2_with fail
  go_ret
  exact ⟨rfl, B1.out⟩

set_option maxHeartbeats 1000000 in
theorem sealedCode_P1 (m : List Nat) (a : Nat → Addr) (w : World) (hE : Sent w (sealG ++ m) a) :
    Calls Tryz.prog 52 #[eP (a 1)] w fun e w' => e = .returned (.int .i64 4) ∧ Below w.heap.size w w' := by
  have H0 := Lib.hid hE
  have B0 := Lib.hid (Below.refl w.heap.size w)
  have p0 := hE.s0
  clear hE
  have RR := Lib.hid (fun (w : World) (h : Sent w (sealG ++ m) a) (i j : Nat) (hi : i < 3) (hj : j < 3) (hne : i ≠ j) => by
    obtain ⟨ca, ta, ha⟩ := h.row i (seal_lt hi)
    obtain ⟨cb, tb, hb⟩ := h.row j (seal_lt hj)
    exact is_Po (a i) (a j) w (h.ne i j (seal_lt hi) (seal_lt hj) hne) ca cb ta tb ha hb)
  have SS := Lib.hid (fun (w : World) => is_Ps (a 1) w)
  unfold eP at RR SS ⊢
  go_enter Tryz.func52, Tryz.ntmps52
  go_wp2_with fail
  refine (RR.out _ H0.out 1 0 (by decide) (by decide) (by decide)).mono ?_
  rintro e w1 ⟨rfl, hb⟩
  have H1 := Lib.hid (H0.out.next hb)
  have B1 := Lib.hid (B0.out.trans (hb.mono B0.out.size))
  have p1 := H1.out.s1
  clear hb p0 H0 B0
  go_wp2_with fail
  refine (SS.out _).mono ?_
  rintro e w2 ⟨rfl, hb⟩
  have B2 := Lib.hid (B1.out.trans (hb.mono B1.out.size))
  clear hb p1 H1 B1
  go_wp2_with fail
  go_ret
  exact ⟨rfl, B2.out⟩

set_option maxHeartbeats 1000000 in
theorem sealedCode_L1 (s : ByteArray) (m : List Nat) (a : Nat → Addr) (w : World) (hE : Sent w (sealG ++ m) a) :
    Calls Tryz.prog 52 #[eL s (eP (a 1))] w fun e w' => e = .returned (.int .i64 4) ∧ Below w.heap.size w w' := by
  have H0 := Lib.hid hE
  have B0 := Lib.hid (Below.refl w.heap.size w)
  have p0 := hE.s0
  clear hE
  have RR := Lib.hid (fun (w : World) (h : Sent w (sealG ++ m) a) (i j : Nat) (hi : i < 3) (hj : j < 3) (hne : i ≠ j) => by
    obtain ⟨ca, ta, ha⟩ := h.row i (seal_lt hi)
    obtain ⟨cb, tb, hb⟩ := h.row j (seal_lt hj)
    exact is_LPo (a i) s (a j) w (h.ne i j (seal_lt hi) (seal_lt hj) hne) ca cb ta tb ha hb)
  have SS := Lib.hid (fun (w : World) => is_LPs (a 1) s w)
  unfold eL eP at RR SS ⊢
  go_enter Tryz.func52, Tryz.ntmps52
  go_wp2_with fail
  refine (RR.out _ H0.out 1 0 (by decide) (by decide) (by decide)).mono ?_
  rintro e w1 ⟨rfl, hb⟩
  have H1 := Lib.hid (H0.out.next hb)
  have B1 := Lib.hid (B0.out.trans (hb.mono B0.out.size))
  have p1 := H1.out.s1
  clear hb p0 H0 B0
  go_wp2_with fail
  refine (SS.out _).mono ?_
  rintro e w2 ⟨rfl, hb⟩
  have B2 := Lib.hid (B1.out.trans (hb.mono B1.out.size))
  clear hb p1 H1 B1
  go_wp2_with fail
  go_ret
  exact ⟨rfl, B2.out⟩

set_option maxHeartbeats 1000000 in
theorem sealedCode_P2 (m : List Nat) (a : Nat → Addr) (w : World) (hE : Sent w (sealG ++ m) a) :
    Calls Tryz.prog 52 #[eP (a 2)] w fun e w' => e = .returned (.int .i64 5) ∧ Below w.heap.size w w' := by
  have H0 := Lib.hid hE
  have B0 := Lib.hid (Below.refl w.heap.size w)
  have p0 := hE.s0
  clear hE
  have RR := Lib.hid (fun (w : World) (h : Sent w (sealG ++ m) a) (i j : Nat) (hi : i < 3) (hj : j < 3) (hne : i ≠ j) => by
    obtain ⟨ca, ta, ha⟩ := h.row i (seal_lt hi)
    obtain ⟨cb, tb, hb⟩ := h.row j (seal_lt hj)
    exact is_Po (a i) (a j) w (h.ne i j (seal_lt hi) (seal_lt hj) hne) ca cb ta tb ha hb)
  have SS := Lib.hid (fun (w : World) => is_Ps (a 2) w)
  unfold eP at RR SS ⊢
  go_enter Tryz.func52, Tryz.ntmps52
  go_wp2_with fail
  refine (RR.out _ H0.out 2 0 (by decide) (by decide) (by decide)).mono ?_
  rintro e w1 ⟨rfl, hb⟩
  have H1 := Lib.hid (H0.out.next hb)
  have B1 := Lib.hid (B0.out.trans (hb.mono B0.out.size))
  have p1 := H1.out.s1
  clear hb p0 H0 B0
  go_wp2_with fail
  refine (RR.out _ H1.out 2 1 (by decide) (by decide) (by decide)).mono ?_
  rintro e w2 ⟨rfl, hb⟩
  have H2 := Lib.hid (H1.out.next hb)
  have B2 := Lib.hid (B1.out.trans (hb.mono B1.out.size))
  have p2 := H2.out.s2
  clear hb p1 H1 B1
  go_wp2_with fail
  refine (SS.out _).mono ?_
  rintro e w3 ⟨rfl, hb⟩
  have B3 := Lib.hid (B2.out.trans (hb.mono B2.out.size))
  clear hb p2 H2 B2
  go_wp2_with fail
  go_ret
  exact ⟨rfl, B3.out⟩

set_option maxHeartbeats 1000000 in
theorem sealedCode_L2 (s : ByteArray) (m : List Nat) (a : Nat → Addr) (w : World) (hE : Sent w (sealG ++ m) a) :
    Calls Tryz.prog 52 #[eL s (eP (a 2))] w fun e w' => e = .returned (.int .i64 5) ∧ Below w.heap.size w w' := by
  have H0 := Lib.hid hE
  have B0 := Lib.hid (Below.refl w.heap.size w)
  have p0 := hE.s0
  clear hE
  have RR := Lib.hid (fun (w : World) (h : Sent w (sealG ++ m) a) (i j : Nat) (hi : i < 3) (hj : j < 3) (hne : i ≠ j) => by
    obtain ⟨ca, ta, ha⟩ := h.row i (seal_lt hi)
    obtain ⟨cb, tb, hb⟩ := h.row j (seal_lt hj)
    exact is_LPo (a i) s (a j) w (h.ne i j (seal_lt hi) (seal_lt hj) hne) ca cb ta tb ha hb)
  have SS := Lib.hid (fun (w : World) => is_LPs (a 2) s w)
  unfold eL eP at RR SS ⊢
  go_enter Tryz.func52, Tryz.ntmps52
  go_wp2_with fail
  refine (RR.out _ H0.out 2 0 (by decide) (by decide) (by decide)).mono ?_
  rintro e w1 ⟨rfl, hb⟩
  have H1 := Lib.hid (H0.out.next hb)
  have B1 := Lib.hid (B0.out.trans (hb.mono B0.out.size))
  have p1 := H1.out.s1
  clear hb p0 H0 B0
  go_wp2_with fail
  refine (RR.out _ H1.out 2 1 (by decide) (by decide) (by decide)).mono ?_
  rintro e w2 ⟨rfl, hb⟩
  have H2 := Lib.hid (H1.out.next hb)
  have B2 := Lib.hid (B1.out.trans (hb.mono B1.out.size))
  have p2 := H2.out.s2
  clear hb p1 H1 B1
  go_wp2_with fail
  refine (SS.out _).mono ?_
  rintro e w3 ⟨rfl, hb⟩
  have B3 := Lib.hid (B2.out.trans (hb.mono B2.out.size))
  clear hb p2 H2 B2
  go_wp2_with fail
  go_ret
  exact ⟨rfl, B3.out⟩

set_option maxHeartbeats 1000000 in
theorem sealedCode_other (t : TypeId) (u : Value) (m : List Nat) (a : Nat → Addr) (w : World) (hE : Sent w (sealG ++ m) a) (hN : NotSeal (.iface t u) a w) :
    Calls Tryz.prog 52 #[.iface t u] w fun e w' => e = .returned (.int .i64 3) ∧ Below w.heap.size w w' := by
  have H0 := Lib.hid hE
  have B0 := Lib.hid (Below.refl w.heap.size w)
  have p0 := hE.s0
  have HN := Lib.hid hN
  clear hE hN
  unfold NotSeal eP at HN
  go_enter Tryz.func52, Tryz.ntmps52
  go_wp2_with fail
  refine (HN.out 0 (by decide) _ B0.out).mono ?_
  rintro e w1 ⟨rfl, hb⟩
  have H1 := Lib.hid (H0.out.next hb)
  have B1 := Lib.hid (B0.out.trans (hb.mono B0.out.size))
  have p1 := H1.out.s1
  clear hb p0 H0 B0
  go_wp2_with fail
  refine (HN.out 1 (by decide) _ B1.out).mono ?_
  rintro e w2 ⟨rfl, hb⟩
  have H2 := Lib.hid (H1.out.next hb)
  have B2 := Lib.hid (B1.out.trans (hb.mono B1.out.size))
  have p2 := H2.out.s2
  clear hb p1 H1 B1
  go_wp2_with fail
  refine (HN.out 2 (by decide) _ B2.out).mono ?_
  rintro e w3 ⟨rfl, hb⟩
  have H3 := Lib.hid (H2.out.next hb)
  have B3 := Lib.hid (B2.out.trans (hb.mono B2.out.size))
  clear hb p2 H2 B2
  go_wp2_with fail
  go_ret
  exact ⟨rfl, B3.out⟩
theorem sealedCode_P (c : Int) (hc : c = 2 ∨ c = 4 ∨ c = 5) (m : List Nat) (a : Nat → Addr) (w : World) (hE : Sent w (sealG ++ m) a) :
    Calls Tryz.prog 52 #[eP (a (errI c))] w fun e w' => e = .returned (.int .i64 c) ∧ Below w.heap.size w w' := by
  rcases hc with rfl | rfl | rfl
  · exact sealedCode_P0 m a w hE
  · exact sealedCode_P1 m a w hE
  · exact sealedCode_P2 m a w hE
theorem sealedCode_L (s : ByteArray) (c : Int) (hc : c = 2 ∨ c = 4 ∨ c = 5) (m : List Nat) (a : Nat → Addr) (w : World) (hE : Sent w (sealG ++ m) a) :
    Calls Tryz.prog 52 #[eL s (eP (a (errI c)))] w fun e w' => e = .returned (.int .i64 c) ∧ Below w.heap.size w w' := by
  rcases hc with rfl | rfl | rfl
  · exact sealedCode_L0 s m a w hE
  · exact sealedCode_L1 s m a w hE
  · exact sealedCode_L2 s m a w hE
theorem unsealT_codes (s : ByteArray) : (unsealT s).2 = 0 ∨ ((unsealT s).2 = 2 ∨ (unsealT s).2 = 4 ∨ (unsealT s).2 = 5) ∧ (unsealT s).1 = ⟨#[]⟩ := by
  unfold unsealT
  split
  · exact .inr ⟨.inl rfl, rfl⟩
  · split
    · exact .inr ⟨.inr (.inl rfl), rfl⟩
    · split
      · exact .inl rfl
      · exact .inr ⟨.inr (.inr rfl), rfl⟩
end Go.Proofs.YthkbllkhomjmbaaGreatDoor

namespace Go.Proofs.YthkbllkhomjmbaaGreatDoor
open Go.RowKit

theorem three_setU {w w' : World} {g : Nat} (h : Below g w w') (a b c : Value) : Below g w (((w'.setCell ⟨g, 0, none⟩ a).setCell ⟨g, 1, none⟩ b).setCell ⟨g, 2, none⟩ c) :=
  ((h.setCell (p := ⟨g, 0, none⟩) (Nat.le_refl _) a).setCell (p := ⟨g, 1, none⟩) (Nat.le_refl _) b).setCell (p := ⟨g, 2, none⟩) (Nat.le_refl _) c
theorem Bx.u3 {w : World} {n : Nat} {T : TypeId} {a b c : Value} (h : Bx w n T #[a, b, c]) : (w.cell? ⟨n, 0, none⟩ = some a ∧ w.cell? ⟨n, 1, none⟩ = some b ∧ w.cell? ⟨n, 2, none⟩ = some c) ∧ (w.frozen? ⟨n, 0, none⟩ = false ∧ w.frozen? ⟨n, 1, none⟩ = false ∧ w.frozen? ⟨n, 2, none⟩ = false) :=
  ⟨⟨h.cell 0, h.cell 1, h.cell 2⟩, h.frozen 0, h.frozen 1, h.frozen 2⟩
theorem below_u {W a b : World} {g : Nat} (h : Below g W a) (k : Below a.heap.size a b) (hg : g ≤ a.heap.size) : Below g W b := h.trans (k.mono hg)

set_option maxHeartbeats 2000000 in
theorem implUnsealT (s : ByteArray) (m : List Nat) (a : Nat → Addr) (w : World) (hs : s.size ≤ maxLen) (hE : Sent w (sealG ++ m) a) :
    Calls Tryz.prog 77 #[.string s] w fun e w' => e = .returned (.agg #[.string (unsealT s).1, .int .i64 0, .int .i64 (unsealT s).2]) ∧ Below w.heap.size w w' := by
  have HE := Lib.hid hE
  clear hE
  have hcodes := unsealT_codes s
  have HU := Lib.hid (fun w hE => unsealed_any s m a w hs hE)
  have Y0 := Lib.hid (bx_new w 74 #[.string { data := #[] }, .int .i64 0, .int .i64 0])
  have B0 := Lib.hid (below_alloc1 w (.cells #[.string { data := #[] }, .int .i64 0, .int .i64 0] 74))
  obtain ⟨U, hU⟩ : ∃ U, U = unsealT s := ⟨_, rfl⟩
  rw [← hU] at hcodes HU ⊢
  clear hU
  obtain ⟨t, c⟩ := U
  unfold unsV at HU
  dsimp only at hcodes HU ⊢
  go_enter Tryz.func77, Tryz.ntmps77
  go_wp2_with fail
  generalize w.alloc (.cells #[.string { data := #[] }, .int .i64 0, .int .i64 0] 74) = W0 at *
  refine (HU.out W0 (HE.out.next B0.out)).mono ?_
  clear HU
  by_cases hc : c = 0
  · subst hc
    rw [if_pos rfl]
    rintro e w1 ⟨rfl, hb⟩
    have Y1 := Lib.hid (Y0.out.next hb)
    have B1 := Lib.hid (below_u B0.out hb B0.out.size)
    clear hb Y0 B0 hcodes
    obtain ⟨⟨y0, y1, y2⟩, f0, f1, f2⟩ := Y1.out.u3
    go_wp2_with fail
    refine bodyPost_ret (v := .agg #[.string t, .int .i64 0, .int .i64 0]) (by simp [results, Tryz.results77, go_sem, y0, y1, y2]) rfl ⟨rfl, ?_⟩
    exact three_setU B1.out _ _ _
  · rw [if_neg hc]
    obtain ⟨hcc, rfl⟩ := hcodes.resolve_left hc
    rintro e w1 ⟨rfl, hb⟩
    have Y1 := Lib.hid (Y0.out.next hb)
    have B1 := Lib.hid (below_u B0.out hb B0.out.size)
    have E1 := Lib.hid (HE.out.next B1.out)
    have SC := Lib.hid (fun w' hE' => sealedCode_P c hcc m a w' hE')
    clear hb Y0 B0 hcc hcodes
    unfold eP at SC ⊢
    go_wp2_with fail
    refine (SC.out _ E1.out).mono ?_
    rintro e w2 ⟨rfl, hb⟩
    have Y2 := Lib.hid (Y1.out.next hb)
    have B2 := Lib.hid (below_u B1.out hb B1.out.size)
    clear hb SC Y1 B1
    obtain ⟨⟨y0, y1, y2⟩, f0, f1, f2⟩ := Y2.out.u3
    go_wp2_with fail
    refine bodyPost_ret (v := .agg #[.string ⟨#[]⟩, .int .i64 0, .int .i64 c]) (by simp [results, Tryz.results77, go_sem, y0, y1, y2]) rfl ⟨rfl, ?_⟩
    exact three_setU B2.out _ _ _
end Go.Proofs.YthkbllkhomjmbaaGreatDoor

namespace Go.Proofs.YthkbllkhomjmbaaGreatDoor
open Go.RowKit

theorem grown_of_below {w w' : World} {r : Option Nat} (h : Below w.heap.size w w') : w.grownBy w' r := ⟨h.os, h.tape, h.output, h.size, fun k hk _ => h.block k hk⟩
theorem grown_set1 {w w1 : World} {b i : Nat} {x : Value} (h : w.grownBy w1 (some b)) : w.grownBy (w1.setCell ⟨b, i, none⟩ x) (some b) :=
  h.andThen (c := w1.setCell ⟨b, i, none⟩ x) (row' := some b) ⟨rfl, rfl, rfl, by simp, fun k _ hk => Below.heap_setCell w1 ⟨b, i, none⟩ x k (fun e => hk (by rw [e]))⟩ (fun _ e => .inr e)
theorem oth3 {w : World} {p b : Nat} {T : TypeId} {vs : Array Value} (h : Bx w p T vs) (hne : p ≠ b) (x y z : Value) : Bx (((w.setCell ⟨b, 0, none⟩ x).setCell ⟨b, 1, none⟩ y).setCell ⟨b, 2, none⟩ z) p T vs :=
  ((h.other ⟨b, 0, none⟩ x hne).other ⟨b, 1, none⟩ y hne).other ⟨b, 2, none⟩ z hne
def rdrV (s : ByteArray) (x : Int) (bad : Bool) : Array Value := #[.string s, .int .i64 x, .bool bad]


set_option maxRecDepth 100000 in
set_option maxHeartbeats 2000000 in
theorem num_any (s : ByteArray) (x : Int) (bad : Bool) (p : Nat) (w : World) (hs : s.size ≤ maxLen) (hx : x ≤ 9223372036854775807) (hB : Bx w p 87 #[.string s, .int .i64 x, .bool bad]) :
    Calls Tryz.prog 62 #[.pointer (some ⟨p, 0, none⟩)] w fun e w' => e = .returned (.int .i64 (numS s x bad).1) ∧ Bx w' p 87 #[.string s, .int .i64 (numS s x bad).2.1, .bool (numS s x bad).2.2] ∧ w.grownBy w' (some p) := by
  have HG := Lib.hid (fun w => specGet_any s x w hs hx)
  obtain ⟨n, hn⟩ : ∃ n, n = (getR s x).1 := ⟨_, rfl⟩
  obtain ⟨q, hq⟩ : ∃ q, q = (getR s x).2.1 := ⟨_, rfl⟩
  obtain ⟨c, hc⟩ : ∃ c, c = (getR s x).2.2 := ⟨_, rfl⟩
  unfold numV at HG
  rw [← hn, ← hq, ← hc] at HG
  obtain ⟨R, hR⟩ : ∃ R, R = numS s x bad := ⟨_, rfl⟩
  rw [← hR]
  unfold numS at hR
  rw [← hn, ← hq, ← hc] at hR
  have HR := Lib.hid hR
  have hlt := hB.lt
  have k0 := hB.t0
  have k1 := hB.t1
  have k2 := hB.t2
  have HX := Lib.hid hB
  have hpn : p ≠ w.heap.size := by omega
  clear hR hn hq hc hB
  go_enter Tryz.func62, Tryz.ntmps62
  go_wp2_with fail
  have y0 := bx_new w 102 #[.int .i64 0, .int .i64 0, .int .i64 0]
  have bz := below_alloc1 w (.cells #[.int .i64 0, .int .i64 0, .int .i64 0] 102)
  have Y0 := Lib.hid y0
  have BZ := Lib.hid bz
  have hz : w.heap.size ≤ (w.alloc (.cells #[.int .i64 0, .int .i64 0, .int .i64 0] 102)).heap.size := BZ.out.size
  clear y0 bz
  go_region_held3 (fun w' => w'.cell? ⟨p, 0, none⟩ = some (.string s) ∧ w'.cell? ⟨p, 1, none⟩ = some (.int .i64 x))
    (first | (exact ⟨k0, k1⟩) | (exact ⟨(HX.out.next BZ.out.drew).t0, (HX.out.next BZ.out.drew).t1⟩) | (exact ⟨(HX.out.next HB1.out).t0, (HX.out.next HB1.out).t1⟩) | (exact ⟨((HX.out.next HB1.out).next (below_alloc1 w1 _)).t0, ((HX.out.next HB1.out).next (below_alloc1 w1 _)).t1⟩) | (exact ⟨(oth3 (HX.out.next HB1.out) hpn _ _ _).t0, (oth3 (HX.out.next HB1.out) hpn _ _ _).t1⟩) | go_keep)
    ((first | (go_at_call 106; refine (HG.out w.drew).mono ?_; rintro e w1 ⟨rfl, hb1⟩; have HB1 := Lib.hid ((Below.refl w.heap.size w).drew.trans hb1); clear hb1) | (go_at_call 106; refine (HG.out (w.alloc (.cells #[.int .i64 0, .int .i64 0, .int .i64 0] 102)).drew).mono ?_; rintro e w1 ⟨rfl, hb1⟩; have hb2 := (Below.refl _ (w.alloc (.cells #[.int .i64 0, .int .i64 0, .int .i64 0] 102))).drew.trans hb1; have HB1 := Lib.hid (BZ.out.trans (hb2.mono hz)); have y1 := Y0.out.next hb2; have q0 := y1.t0; have q1 := y1.t1; have q2 := y1.t2; have g0 := y1.frozen 0; have g1 := y1.frozen 1; have g2 := y1.frozen 2; have Y1 := Lib.hid y1; clear y1 hb1 hb2)))
  all_goals (
    first
      | (have y2 := oth3 (HX.out.next HB1.out) hpn (.int .i64 n) (.int .i64 q) (.int .i64 c)
         have hb2 := ((HB1.out.setCell (p := ⟨w.heap.size, 0, none⟩) (Nat.le_refl _) (.int .i64 n)).setCell (p := ⟨w.heap.size, 1, none⟩) (Nat.le_refl _) (.int .i64 q)).setCell (p := ⟨w.heap.size, 2, none⟩) (Nat.le_refl _) (.int .i64 c)
         have y3 : Bx _ w.heap.size 102 #[.int .i64 n, .int .i64 q, .int .i64 c] := ((Y1.out.set (j := 0) (.int .i64 n)).set (j := 1) (.int .i64 q)).set (j := 2) (.int .i64 c)
         have HX2 := Lib.hid y2
         have HB2 := Lib.hid hb2
         have m0 := y3.t0
         have m1 := y3.t1
         have m2 := y3.t2
         clear y2 hb2 y3 Y1)
      | (have b1 := below_alloc1 w1 (.cells #[.int .i64 n, .int .i64 q, .int .i64 c] 102)
         have y1 := bx_new w1 102 #[.int .i64 n, .int .i64 q, .int .i64 c]
         have HB2 := Lib.hid (HB1.out.trans (b1.mono HB1.out.size))
         have HX2 := Lib.hid (HX.out.next HB2.out)
         have m0 := y1.t0
         have m1 := y1.t1
         have m2 := y1.t2
         clear b1 y1)
    have k0 := HX2.out.t0
    have k1 := HX2.out.t1
    have k2 := HX2.out.t2
    have f1 := HX2.out.frozen 1
    have f2 := HX2.out.frozen 2
    clear HB1 Y0 BZ hz
    cases bad with
    | true =>
      have hr : R = (0, x, true) := by rw [HR.out, if_neg (by simp)]
      subst hr
      clear HR
      go_wp2_with fail
      go_ret
      exact ⟨rfl, HX2.out.set _, grown_set1 (grown_of_below HB2.out)⟩
    | false =>
      by_cases hc : c = 0
      · have hr : R = (n, q, false) := by rw [HR.out, if_pos ⟨rfl, hc⟩]
        subst hr
        subst hc
        clear HR
        go_wp2_with fail
        go_ret
        exact ⟨rfl, HX2.out.set _, grown_set1 (grown_of_below HB2.out)⟩
      · have hr : R = (0, x, true) := by rw [HR.out, if_neg (fun h => hc h.2)]
        have dc : (c != 0) = true := by simpa using hc
        subst hr
        clear HR hc
        go_wp2_with fail
        go_ret
        exact ⟨rfl, HX2.out.set _, grown_set1 (grown_of_below HB2.out)⟩)

set_option maxRecDepth 100000 in
set_option maxHeartbeats 2000000 in
theorem txt_any (s : ByteArray) (x : Int) (bad : Bool) (p : Nat) (w : World) (hs : s.size ≤ maxLen) (hx : x ≤ 9223372036854775807) (hB : Bx w p 87 #[.string s, .int .i64 x, .bool bad]) :
    Calls Tryz.prog 63 #[.pointer (some ⟨p, 0, none⟩)] w fun e w' => e = .returned (.string (txtS s x bad).1) ∧ Bx w' p 87 #[.string s, .int .i64 (txtS s x bad).2.1, .bool (txtS s x bad).2.2] ∧ w.grownBy w' (some p) := by
  have HG := Lib.hid (fun w => specTextR s x w hs hx)
  obtain ⟨n, hn⟩ : ∃ n, n = (textR s x).1 := ⟨_, rfl⟩
  obtain ⟨q, hq⟩ : ∃ q, q = (textR s x).2.1 := ⟨_, rfl⟩
  obtain ⟨c, hc⟩ : ∃ c, c = (textR s x).2.2 := ⟨_, rfl⟩
  unfold textV at HG
  rw [← hn, ← hq, ← hc] at HG
  obtain ⟨R, hR⟩ : ∃ R, R = txtS s x bad := ⟨_, rfl⟩
  rw [← hR]
  unfold txtS at hR
  rw [← hn, ← hq, ← hc] at hR
  have HR := Lib.hid hR
  have hlt := hB.lt
  have k0 := hB.t0
  have k1 := hB.t1
  have k2 := hB.t2
  have HX := Lib.hid hB
  have hpn : p ≠ w.heap.size := by omega
  clear hR hn hq hc hB
  go_enter Tryz.func63, Tryz.ntmps63
  go_wp2_with fail
  have y0 := bx_new w 74 #[.string { data := #[] }, .int .i64 0, .int .i64 0]
  have bz := below_alloc1 w (.cells #[.string { data := #[] }, .int .i64 0, .int .i64 0] 74)
  have Y0 := Lib.hid y0
  have BZ := Lib.hid bz
  have hz : w.heap.size ≤ (w.alloc (.cells #[.string { data := #[] }, .int .i64 0, .int .i64 0] 74)).heap.size := BZ.out.size
  clear y0 bz
  go_region_held3 (fun w' => w'.cell? ⟨p, 0, none⟩ = some (.string s) ∧ w'.cell? ⟨p, 1, none⟩ = some (.int .i64 x))
    (first | (exact ⟨k0, k1⟩) | (exact ⟨(HX.out.next BZ.out.drew).t0, (HX.out.next BZ.out.drew).t1⟩) | (exact ⟨(HX.out.next HB1.out).t0, (HX.out.next HB1.out).t1⟩) | (exact ⟨((HX.out.next HB1.out).next (below_alloc1 w1 _)).t0, ((HX.out.next HB1.out).next (below_alloc1 w1 _)).t1⟩) | (exact ⟨(oth3 (HX.out.next HB1.out) hpn _ _ _).t0, (oth3 (HX.out.next HB1.out) hpn _ _ _).t1⟩) | go_keep)
    ((first | (go_at_call 107; refine (HG.out w.drew).mono ?_; rintro e w1 ⟨rfl, hb1⟩; have HB1 := Lib.hid ((Below.refl w.heap.size w).drew.trans hb1); clear hb1) | (go_at_call 107; refine (HG.out (w.alloc (.cells #[.string { data := #[] }, .int .i64 0, .int .i64 0] 74)).drew).mono ?_; rintro e w1 ⟨rfl, hb1⟩; have hb2 := (Below.refl _ (w.alloc (.cells #[.string { data := #[] }, .int .i64 0, .int .i64 0] 74))).drew.trans hb1; have HB1 := Lib.hid (BZ.out.trans (hb2.mono hz)); have y1 := Y0.out.next hb2; have q0 := y1.t0; have q1 := y1.t1; have q2 := y1.t2; have g0 := y1.frozen 0; have g1 := y1.frozen 1; have g2 := y1.frozen 2; have Y1 := Lib.hid y1; clear y1 hb1 hb2)))
  all_goals (
    first
      | (have y2 := oth3 (HX.out.next HB1.out) hpn (.string n) (.int .i64 q) (.int .i64 c)
         have hb2 := ((HB1.out.setCell (p := ⟨w.heap.size, 0, none⟩) (Nat.le_refl _) (.string n)).setCell (p := ⟨w.heap.size, 1, none⟩) (Nat.le_refl _) (.int .i64 q)).setCell (p := ⟨w.heap.size, 2, none⟩) (Nat.le_refl _) (.int .i64 c)
         have y3 : Bx _ w.heap.size 74 #[.string n, .int .i64 q, .int .i64 c] := ((Y1.out.set (j := 0) (.string n)).set (j := 1) (.int .i64 q)).set (j := 2) (.int .i64 c)
         have HX2 := Lib.hid y2
         have HB2 := Lib.hid hb2
         have m0 := y3.t0
         have m1 := y3.t1
         have m2 := y3.t2
         clear y2 hb2 y3 Y1)
      | (have b1 := below_alloc1 w1 (.cells #[.string n, .int .i64 q, .int .i64 c] 74)
         have y1 := bx_new w1 74 #[.string n, .int .i64 q, .int .i64 c]
         have HB2 := Lib.hid (HB1.out.trans (b1.mono HB1.out.size))
         have HX2 := Lib.hid (HX.out.next HB2.out)
         have m0 := y1.t0
         have m1 := y1.t1
         have m2 := y1.t2
         clear b1 y1)
    have k0 := HX2.out.t0
    have k1 := HX2.out.t1
    have k2 := HX2.out.t2
    have f1 := HX2.out.frozen 1
    have f2 := HX2.out.frozen 2
    clear HB1 Y0 BZ hz
    cases bad with
    | true =>
      have hr : R = (⟨#[]⟩, x, true) := by rw [HR.out, if_neg (by simp)]
      subst hr
      clear HR
      go_wp2_with fail
      go_ret
      exact ⟨rfl, HX2.out.set _, grown_set1 (grown_of_below HB2.out)⟩
    | false =>
      by_cases hc : c = 0
      · have hr : R = (n, q, false) := by rw [HR.out, if_pos ⟨rfl, hc⟩]
        subst hr
        subst hc
        clear HR
        go_wp2_with fail
        go_ret
        exact ⟨rfl, HX2.out.set _, grown_set1 (grown_of_below HB2.out)⟩
      · have hr : R = (⟨#[]⟩, x, true) := by rw [HR.out, if_neg (fun h => hc h.2)]
        have dc : (c != 0) = true := by simpa using hc
        subst hr
        clear HR hc
        go_wp2_with fail
        go_ret
        exact ⟨rfl, HX2.out.set _, grown_set1 (grown_of_below HB2.out)⟩)
end Go.Proofs.YthkbllkhomjmbaaGreatDoor

namespace Go.Proofs.YthkbllkhomjmbaaGreatDoor
open Go.RowKit

/-- What StepRead gives, as a value. -/
def soV (R : stpT × Int) : Value := .agg #[.int .i64 R.1.1, .int .i64 R.1.2.1, .int .i64 R.1.2.2.1, .string R.1.2.2.2, .int .i64 R.2]
theorem Bx.s0 {w : World} {n : Nat} {T : TypeId} {a b c d e : Value} (h : Bx w n T #[a, b, c, d, e]) : w.cell? ⟨n, 0, none⟩ = some a ∧ w.cell? ⟨n, 1, none⟩ = some b ∧ w.cell? ⟨n, 2, none⟩ = some c ∧ w.cell? ⟨n, 3, none⟩ = some d ∧ w.cell? ⟨n, 4, none⟩ = some e := ⟨h.cell 0, h.cell 1, h.cell 2, h.cell 3, h.cell 4⟩
theorem Bx.f5 {w : World} {n : Nat} {T : TypeId} {vs : Array Value} (h : Bx w n T vs) : w.frozen? ⟨n, 0, none⟩ = false ∧ w.frozen? ⟨n, 1, none⟩ = false ∧ w.frozen? ⟨n, 2, none⟩ = false ∧ w.frozen? ⟨n, 3, none⟩ = false ∧ w.frozen? ⟨n, 4, none⟩ = false := ⟨h.frozen 0, h.frozen 1, h.frozen 2, h.frozen 3, h.frozen 4⟩
theorem set5 {B : Nat} {w0 w : World} (h : Below B w0 w) (n : Nat) (hn : B ≤ n) (a b c d e : Value) : Below B w0 (((((w.setCell ⟨n, 0, none⟩ a).setCell ⟨n, 1, none⟩ b).setCell ⟨n, 2, none⟩ c).setCell ⟨n, 3, none⟩ d).setCell ⟨n, 4, none⟩ e) :=
  ((((h.setCell (p := ⟨n, 0, none⟩) hn a).setCell (p := ⟨n, 1, none⟩) hn b).setCell (p := ⟨n, 2, none⟩) hn c).setCell (p := ⟨n, 3, none⟩) hn d).setCell (p := ⟨n, 4, none⟩) hn e
theorem below_gr {B p : Nat} {w0 w w' : World} (h : Below B w0 w) (hg : w.grownBy w' (some p)) (hB : B ≤ w.heap.size) (hp : B ≤ p) : Below B w0 w' := h.grown hg hB (fun k hk => by cases hk; exact hp)

set_option maxRecDepth 100000 in
set_option maxHeartbeats 4000000 in
theorem specStepRead (s : ByteArray) (w : World) (hs : s.size ≤ maxLen) :
    Calls Tryz.prog 64 #[.string s] w fun e w' => e = .returned (soV (rdR s)) ∧ Below w.heap.size w w' := by
  have Y0 := Lib.hid (bx_new w 55 #[.int .i64 0, .int .i64 0, .int .i64 0, .string { data := #[] }, .int .i64 0])
  have B0 := Lib.hid (below_alloc1 w (.cells #[.int .i64 0, .int .i64 0, .int .i64 0, .string { data := #[] }, .int .i64 0] 55))
  have z0 := size_alloc1 w (.cells #[.int .i64 0, .int .i64 0, .int .i64 0, .string { data := #[] }, .int .i64 0] 55)
  have HS := Lib.hid hs
  unfold maxLen at hs
  by_cases hbig : 8000 < s.size
  · have e : rdR s = ((0, 0, 0, ⟨#[]⟩), 2) := by unfold rdR; rw [if_pos hbig]
    rw [e]
    clear e
    have d0 : decide ((8000 : Int) < (s.size : Int)) = true := decide_eq_true (by omega)
    go_enter Tryz.func64, Tryz.ntmps64
    go_wp2_with fail
    refine bodyPost_ret (v := soV ((0, 0, 0, ⟨#[]⟩), 2)) (by simp [soV, results, Tryz.results64, go_sem]) rfl ⟨rfl, ?_⟩
    exact below_alloc1 w _
  have d0 : decide ((8000 : Int) < (s.size : Int)) = false := decide_eq_false (by omega)
  obtain ⟨R, hR⟩ : ∃ R, R = rdR s := ⟨_, rfl⟩
  rw [← hR]
  rw [← spR_eq s hbig] at hR
  unfold spR at hR
  have HR := Lib.hid hR
  clear hR
  have B1 := Lib.hid (below_alloc1 (w.alloc (.cells #[.int .i64 0, .int .i64 0, .int .i64 0, .string { data := #[] }, .int .i64 0] 55)) (.cells #[.string s, .int .i64 0, .bool false] 87))
  have z1 := size_alloc1 (w.alloc (.cells #[.int .i64 0, .int .i64 0, .int .i64 0, .string { data := #[] }, .int .i64 0] 55)) (.cells #[.string s, .int .i64 0, .bool false] 87)
  have X0 := bx_new (w.alloc (.cells #[.int .i64 0, .int .i64 0, .int .i64 0, .string { data := #[] }, .int .i64 0] 55)) 87 #[.string s, .int .i64 0, .bool false]
  rw [z0] at z1 X0
  replace Y0 := Lib.hid (Y0.out.next B1.out)
  replace B0 := Lib.hid (below_more B0.out B1.out)
  go_enter Tryz.func64, Tryz.ntmps64
  go_wp2_with fail
  generalize (w.alloc (.cells #[.int .i64 0, .int .i64 0, .int .i64 0, .string { data := #[] }, .int .i64 0] 55)).alloc (.cells #[.string s, .int .i64 0, .bool false] 87) = W1 at *
  clear B1
  have l1 : (a1 s).2.1 ≤ 9223372036854775807 := numS_lim s 0 false HS.out (by decide)
  have l2 : (a2 s).2.1 ≤ 9223372036854775807 := numS_lim s _ _ HS.out l1
  have l3 : (a3 s).2.1 ≤ 9223372036854775807 := numS_lim s _ _ HS.out l2
  have HN1 := Lib.hid (fun w p hB => num_any s 0 false p w HS.out (by decide) hB)
  have HN2 := Lib.hid (fun w p hB => num_any s (a1 s).2.1 (a1 s).2.2 p w HS.out l1 hB)
  have HN3 := Lib.hid (fun w p hB => num_any s (a2 s).2.1 (a2 s).2.2 p w HS.out l2 hB)
  have HN4 := Lib.hid (fun w p hB => txt_any s (a3 s).2.1 (a3 s).2.2 p w HS.out l3 hB)
  rw [show numS s 0 false = a1 s from rfl] at HN1
  rw [show numS s (a1 s).2.1 (a1 s).2.2 = a2 s from rfl] at HN2
  rw [show numS s (a2 s).2.1 (a2 s).2.2 = a3 s from rfl] at HN3
  rw [show txtS s (a3 s).2.1 (a3 s).2.2 = a4 s from rfl] at HN4
  clear l1 l2 l3
  generalize a1 s = A1 at *
  generalize a2 s = A2 at *
  generalize a3 s = A3 at *
  generalize a4 s = A4 at *
  have X1 := Lib.hid X0
  clear X0
  refine (HN1.out W1 (w.heap.size + 1) X1.out).mono ?_
  rintro e w2 ⟨rfl, hx, hg⟩
  have X2 := Lib.hid hx
  have Y2 := Lib.hid (Y0.out.grown hg (by simp))
  have B2 := Lib.hid (below_gr B0.out hg B0.out.size (by omega))
  have g2 := hg.size
  clear hx hg X1 Y0 B0 HN1
  -- the step's box
  have b3 := below_alloc1 w2 (.cells #[.int .i64 A1.1, .int .i64 0, .int .i64 0, .string { data := #[] }] 48)
  have z3 := size_alloc1 w2 (.cells #[.int .i64 A1.1, .int .i64 0, .int .i64 0, .string { data := #[] }] 48)
  have S3 := Lib.hid (bx_new w2 48 #[.int .i64 A1.1, .int .i64 0, .int .i64 0, .string { data := #[] }])
  replace X2 := Lib.hid (X2.out.next b3)
  replace Y2 := Lib.hid (Y2.out.next b3)
  replace B2 := Lib.hid (B2.out.trans (b3.mono B2.out.size))
  clear b3
  go_wp2_with fail
  generalize w2.alloc (.cells #[.int .i64 A1.1, .int .i64 0, .int .i64 0, .string { data := #[] }] 48) = W3 at *
  have hn : w.heap.size + 1 < w2.heap.size := by omega
  generalize w2.heap.size = n at *
  clear w2
  refine (HN2.out W3 (w.heap.size + 1) X2.out).mono ?_
  rintro e w4 ⟨rfl, hx, hg⟩
  have s3 := S3.out.grown hg (by simp; omega)
  have hc := s3.q1
  have hf := s3.frozen 1
  have S4 := Lib.hid (s3.set (j := 1) (.int .i64 A2.1))
  have X4 := Lib.hid (hx.other ⟨n, 1, none⟩ (.int .i64 A2.1) (by simp; omega))
  have Y4 := Lib.hid ((Y2.out.grown hg (by simp)).other ⟨n, 1, none⟩ (.int .i64 A2.1) (by simp; omega))
  have B4 := Lib.hid ((below_gr B2.out hg B2.out.size (by omega)).setCell (p := ⟨n, 1, none⟩) (by simp; omega) (.int .i64 A2.1))
  have g4 := hg.size
  clear hx hg s3 S3 X2 Y2 B2 HN2
  go_wp2_with fail
  clear hc hf
  have hsz : (w4.setCell ⟨n, 1, none⟩ (.int .i64 A2.1)).heap.size = w4.heap.size := by simp
  generalize w4.setCell ⟨n, 1, none⟩ (.int .i64 A2.1) = W3' at *
  have S3 : Hid (Bx W3' n 48 #[.int .i64 A1.1, .int .i64 A2.1, .int .i64 0, .string { data := #[] }]) := S4
  have X2 := X4
  have Y2 := Y4
  have B2 := B4
  clear S4 X4 Y4 B4
  refine (HN3.out W3' (w.heap.size + 1) X2.out).mono ?_
  rintro e w5 ⟨rfl, hx, hg⟩
  have s3 := S3.out.grown hg (by simp; omega)
  have hc := s3.q2
  have hf := s3.frozen 2
  have S4 := Lib.hid (s3.set (j := 2) (.int .i64 A3.1))
  have X4 := Lib.hid (hx.other ⟨n, 2, none⟩ (.int .i64 A3.1) (by simp; omega))
  have Y4 := Lib.hid ((Y2.out.grown hg (by simp)).other ⟨n, 2, none⟩ (.int .i64 A3.1) (by simp; omega))
  have B4 := Lib.hid ((below_gr B2.out hg B2.out.size (by omega)).setCell (p := ⟨n, 2, none⟩) (by simp; omega) (.int .i64 A3.1))
  have g4 := hg.size
  clear hx hg s3 S3 X2 Y2 B2 HN3
  go_wp2_with fail
  clear hc hf
  have hsz : (w5.setCell ⟨n, 2, none⟩ (.int .i64 A3.1)).heap.size = w5.heap.size := by simp
  generalize w5.setCell ⟨n, 2, none⟩ (.int .i64 A3.1) = W3'' at *
  have S3 : Hid (Bx W3'' n 48 #[.int .i64 A1.1, .int .i64 A2.1, .int .i64 A3.1, .string { data := #[] }]) := S4
  have X2 := X4
  have Y2 := Y4
  have B2 := B4
  clear S4 X4 Y4 B4
  refine (HN4.out W3'' (w.heap.size + 1) X2.out).mono ?_
  rintro e w6 ⟨rfl, hx, hg⟩
  have s3 := S3.out.grown hg (by simp; omega)
  have hc := s3.q3
  have hf := s3.frozen 3
  have S4 := Lib.hid (s3.set (j := 3) (.string A4.1))
  have X4 := Lib.hid (hx.other ⟨n, 3, none⟩ (.string A4.1) (by simp; omega))
  have Y4 := Lib.hid ((Y2.out.grown hg (by simp)).other ⟨n, 3, none⟩ (.string A4.1) (by simp; omega))
  have B4 := Lib.hid ((below_gr B2.out hg B2.out.size (by omega)).setCell (p := ⟨n, 3, none⟩) (by simp; omega) (.string A4.1))
  have g4 := hg.size
  clear hx hg s3 S3 X2 Y2 B2 HN4
  have S3 : Hid (Bx (w6.setCell ⟨n, 3, none⟩ (.string A4.1)) n 48 #[.int .i64 A1.1, .int .i64 A2.1, .int .i64 A3.1, .string A4.1]) := S4
  have X2 := X4
  have Y2 := Y4
  have B2 := B4
  clear S4 X4 Y4 B4
  have k2 := X2.out.t2
  obtain ⟨y0, y1, y2, y3, y4⟩ := Y2.out.s0
  obtain ⟨f0, f1, f2, f3, f4⟩ := Y2.out.f5
  cases hbad : A4.2.2 with
  | true =>
    rw [hbad] at k2
    have hr : R = ((0, 0, 0, ⟨#[]⟩), 3) := by rw [HR.out, if_neg (by rw [hbad]; simp)]
    subst hr
    clear HR hbad
    go_wp2_with fail
    refine bodyPost_ret (v := soV ((0, 0, 0, ⟨#[]⟩), 3)) (by simp [soV, results, Tryz.results64, go_sem, y0, y1, y2, y3, y4]) rfl ⟨rfl, ?_⟩
    exact set5 B2.out _ (Nat.le_refl _) _ _ _ _ _
  | false =>
    rw [hbad] at k2
    have q0 := S3.out.q0
    have q1 := S3.out.q1
    have q2 := S3.out.q2
    have q3 := S3.out.q3
    have HBAD := Lib.hid hbad
    clear hbad
    go_wp2_with fail
    clear q0 q1 q2 q3 y0 y1 y2 y3 y4 f0 f1 f2 f3 f4 k2
    have HM := Lib.hid (fun w => specStepBs A1.1 A2.1 A3.1 A4.1 w)
    obtain ⟨M, hM⟩ : ∃ M, M = stepBs A1.1 A2.1 A3.1 A4.1 := ⟨_, rfl⟩
    rw [← hM] at HM HR
    clear hM
    refine (HM.out _).mono ?_
    rintro e w7 ⟨rfl, hb7⟩
    have q0 := (S3.out.next hb7).q0
    have q1 := (S3.out.next hb7).q1
    have q2 := (S3.out.next hb7).q2
    have q3 := (S3.out.next hb7).q3
    obtain ⟨y0, y1, y2, y3, y4⟩ := (Y2.out.next hb7).s0
    obtain ⟨f0, f1, f2, f3, f4⟩ := (Y2.out.next hb7).f5
    have B7 := Lib.hid (B2.out.trans (hb7.mono B2.out.size))
    clear hb7 HM
    cases hm : (M.toList == s.toList) with
    | true =>
      have hr : R = ((A1.1, A2.1, A3.1, A4.1), 0) := by rw [HR.out, if_pos ⟨HBAD.out, hm⟩]
      subst hr
      clear HR
      go_wp2_with fail
      refine bodyPost_ret (v := soV ((A1.1, A2.1, A3.1, A4.1), 0)) (by simp [soV, results, Tryz.results64, go_sem, y0, y1, y2, y3, y4]) rfl ⟨rfl, ?_⟩
      exact set5 B7.out _ (Nat.le_refl _) _ _ _ _ _
    | false =>
      have hr : R = ((0, 0, 0, ⟨#[]⟩), 3) := by rw [HR.out, if_neg (fun h => by rw [hm] at h; cases h.2)]
      subst hr
      clear HR
      go_wp2_with fail
      refine bodyPost_ret (v := soV ((0, 0, 0, ⟨#[]⟩), 3)) (by simp [soV, results, Tryz.results64, go_sem, y0, y1, y2, y3, y4]) rfl ⟨rfl, ?_⟩
      exact set5 B7.out _ (Nat.le_refl _) _ _ _ _ _
end Go.Proofs.YthkbllkhomjmbaaGreatDoor

namespace Go.Proofs.YthkbllkhomjmbaaGreatDoor
open Go.RowKit

theorem p_at (s : ByteArray) (hs : s.size ≤ maxLen) : (p1 s).2.1 ≤ 9223372036854775807 ∧ (p2 s).2.1 ≤ 9223372036854775807 ∧ (p3 s).2.1 ≤ 9223372036854775807 := by
  have h1 := getR_at s 0 hs
  have h2 := getR_at s (p1 s).2.1 hs
  have h3 := getR_at s (p2 s).2.1 hs
  exact ⟨by unfold p1; omega, by unfold p2; omega, by unfold p3; omega⟩
set_option maxRecDepth 100000 in
set_option maxHeartbeats 4000000 in
theorem implStepRead (s : ByteArray) (w : World) (hs : s.size ≤ maxLen) (hL : Laid w) :
    Calls Tryz.prog 79 #[.string s] w fun e w' => e = .returned (soV (rdR s)) ∧ Below w.heap.size w w' := by
  have Y0 := Lib.hid (bx_new w 55 #[.int .i64 0, .int .i64 0, .int .i64 0, .string { data := #[] }, .int .i64 0])
  have B0 := Lib.hid (below_alloc1 w (.cells #[.int .i64 0, .int .i64 0, .int .i64 0, .string { data := #[] }, .int .i64 0] 55))
  have z0 := size_alloc1 w (.cells #[.int .i64 0, .int .i64 0, .int .i64 0, .string { data := #[] }, .int .i64 0] 55)
  have HS := Lib.hid hs
  have HL := Lib.hid hL
  unfold maxLen at hs
  clear hL
  obtain ⟨l1, l2, l3⟩ := p_at s HS.out
  by_cases hbig : 8000 < s.size
  · have e : rdR s = ((0, 0, 0, ⟨#[]⟩), 2) := by unfold rdR; rw [if_pos hbig]
    rw [e]
    clear e l1 l2 l3
    have d0 : decide ((8000 : Int) < (s.size : Int)) = true := decide_eq_true (by omega)
    go_enter Tryz.func79, Tryz.ntmps79
    go_wp2_with fail
    refine bodyPost_ret (v := soV ((0, 0, 0, ⟨#[]⟩), 2)) (by simp [soV, results, Tryz.results79, go_sem]) rfl ⟨rfl, ?_⟩
    exact below_alloc1 w _
  have d0 : decide ((8000 : Int) < (s.size : Int)) = false := decide_eq_false (by omega)
  obtain ⟨R, hR⟩ : ∃ R, R = rdR s := ⟨_, rfl⟩
  rw [← hR]
  unfold rdR at hR
  rw [if_neg hbig] at hR
  have hrdB : rdB s = (stepB 8 (p1 s).1 (p2 s).1 (p3 s).1 (p4 s).1 && ((stepBs (p1 s).1 (p2 s).1 (p3 s).1 (p4 s).1).toList == s.toList)) := rfl
  have hrs : rdStp s = ((p1 s).1, (p2 s).1, (p3 s).1, (p4 s).1) := rfl
  rw [hrdB, hrs] at hR
  clear hrdB hrs
  have HR := Lib.hid hR
  have HN1 := Lib.hid (fun w hL => implGet_any s 0 w HS.out (by decide) hL)
  have HN2 := Lib.hid (fun w hL => implGet_any s (p1 s).2.1 w HS.out l1 hL)
  have HN3 := Lib.hid (fun w hL => implGet_any s (p2 s).2.1 w HS.out l2 hL)
  have HN4 := Lib.hid (fun w hL => implTextR s (p3 s).2.1 w HS.out l3 hL)
  have HSR := Lib.hid (fun w => implRight (p1 s).1 (p2 s).1 (p3 s).1 8 (p4 s).1 w)
  have HSB := Lib.hid (fun w => implStepBs (p1 s).1 (p2 s).1 (p3 s).1 (p4 s).1 w)
  rw [show getR s 0 = p1 s from rfl] at HN1
  rw [show getR s (p1 s).2.1 = p2 s from rfl] at HN2
  rw [show getR s (p2 s).2.1 = p3 s from rfl] at HN3
  rw [show textR s (p3 s).2.1 = p4 s from rfl] at HN4
  obtain ⟨ok, hok⟩ : ∃ b, b = stepB 8 (p1 s).1 (p2 s).1 (p3 s).1 (p4 s).1 := ⟨_, rfl⟩
  obtain ⟨M, hM⟩ : ∃ M, M = stepBs (p1 s).1 (p2 s).1 (p3 s).1 (p4 s).1 := ⟨_, rfl⟩
  rw [← hok] at HR HSR
  rw [← hM] at HR HSB
  clear l1 l2 l3 hR hok hM
  unfold numV at HN1 HN2 HN3
  unfold textV at HN4
  generalize p1 s = P1 at *
  generalize p2 s = P2 at *
  generalize p3 s = P3 at *
  generalize p4 s = P4 at *
  obtain ⟨k, kq, kc⟩ := P1
  obtain ⟨t, tq, tc⟩ := P2
  obtain ⟨f, fq, fc⟩ := P3
  obtain ⟨d, dq, dc⟩ := P4
  dsimp only at HR HN1 HN2 HN3 HN4 HSR HSB
  go_enter Tryz.func79, Tryz.ntmps79
  go_wp2_with fail
  generalize w.alloc (.cells #[.int .i64 0, .int .i64 0, .int .i64 0, .string { data := #[] }, .int .i64 0] 55) = W0 at *
  refine (HN1.out W0 (HL.out.below B0.out)).mono ?_
  rintro e w1 ⟨rfl, hb⟩
  have b1 := below_alloc1 w1 (.cells #[.int .i64 k, .int .i64 kq, .int .i64 kc] 102)
  have z1 := size_alloc1 w1 (.cells #[.int .i64 k, .int .i64 kq, .int .i64 kc] 102)
  have hbb := below_more hb b1
  have N1 := Lib.hid (bx_new w1 102 #[.int .i64 k, .int .i64 kq, .int .i64 kc])
  replace Y0 := Lib.hid (Y0.out.next hbb)
  replace B0 := Lib.hid (below_more B0.out hbb)
  clear hb hbb b1 HN1
  have q0 := N1.out.t1
  go_wp2_with fail
  clear q0
  generalize w1.alloc (.cells #[.int .i64 k, .int .i64 kq, .int .i64 kc] 102) = W1 at *
  generalize w1.heap.size = n1 at *
  refine (HN2.out W1 (HL.out.below B0.out)).mono ?_
  rintro e w2 ⟨rfl, hb⟩
  have b2 := below_alloc1 w2 (.cells #[.int .i64 t, .int .i64 tq, .int .i64 tc] 102)
  have z2 := size_alloc1 w2 (.cells #[.int .i64 t, .int .i64 tq, .int .i64 tc] 102)
  have hbb := below_more hb b2
  have N2 := Lib.hid (bx_new w2 102 #[.int .i64 t, .int .i64 tq, .int .i64 tc])
  replace Y0 := Lib.hid (Y0.out.next hbb)
  replace N1 := Lib.hid (N1.out.next hbb)
  replace B0 := Lib.hid (below_more B0.out hbb)
  clear hb hbb b2 HN2
  have q0 := N2.out.t1
  go_wp2_with fail
  clear q0
  generalize w2.alloc (.cells #[.int .i64 t, .int .i64 tq, .int .i64 tc] 102) = W2 at *
  generalize w2.heap.size = n2 at *
  refine (HN3.out W2 (HL.out.below B0.out)).mono ?_
  rintro e w3 ⟨rfl, hb⟩
  have b3 := below_alloc1 w3 (.cells #[.int .i64 f, .int .i64 fq, .int .i64 fc] 102)
  have z3 := size_alloc1 w3 (.cells #[.int .i64 f, .int .i64 fq, .int .i64 fc] 102)
  have hbb := below_more hb b3
  have N3 := Lib.hid (bx_new w3 102 #[.int .i64 f, .int .i64 fq, .int .i64 fc])
  replace Y0 := Lib.hid (Y0.out.next hbb)
  replace N1 := Lib.hid (N1.out.next hbb)
  replace N2 := Lib.hid (N2.out.next hbb)
  replace B0 := Lib.hid (below_more B0.out hbb)
  clear hb hbb b3 HN3
  have q0 := N3.out.t1
  go_wp2_with fail
  clear q0
  generalize w3.alloc (.cells #[.int .i64 f, .int .i64 fq, .int .i64 fc] 102) = W3 at *
  generalize w3.heap.size = n3 at *
  refine (HN4.out W3 (HL.out.below B0.out)).mono ?_
  rintro e w4 ⟨rfl, hb⟩
  have b4 := below_alloc1 w4 (.cells #[.string d, .int .i64 dq, .int .i64 dc] 74)
  have z4 := size_alloc1 w4 (.cells #[.string d, .int .i64 dq, .int .i64 dc] 74)
  have hbb := below_more hb b4
  have N4 := Lib.hid (bx_new w4 74 #[.string d, .int .i64 dq, .int .i64 dc])
  replace Y0 := Lib.hid (Y0.out.next hbb)
  replace N1 := Lib.hid (N1.out.next hbb)
  replace N2 := Lib.hid (N2.out.next hbb)
  replace N3 := Lib.hid (N3.out.next hbb)
  replace B0 := Lib.hid (below_more B0.out hbb)
  clear hb hbb b4 HN4
  have q0 := N1.out.t0
  have q1 := N2.out.t0
  have q2 := N3.out.t0
  have q3 := N4.out.t0
  have b5 := below_alloc1 (w4.alloc (.cells #[.string d, .int .i64 dq, .int .i64 dc] 74)) (.cells #[.int .i64 k, .int .i64 t, .int .i64 f, .string d] 48)
  have s5 := (bx_new (w4.alloc (.cells #[.string d, .int .i64 dq, .int .i64 dc] 74)) 48 #[.int .i64 k, .int .i64 t, .int .i64 f, .string d])
  rw [z4] at s5
  have S5 := Lib.hid s5
  replace Y0 := Lib.hid (Y0.out.next b5)
  replace B0 := Lib.hid (below_more B0.out b5)
  clear b5 s5 N1 N2 N3 N4
  go_wp2_with fail
  clear q0 q1 q2 q3
  generalize (w4.alloc (.cells #[.string d, .int .i64 dq, .int .i64 dc] 74)).alloc (.cells #[.int .i64 k, .int .i64 t, .int .i64 f, .string d] 48) = W5 at *
  refine (HSR.out _).mono ?_
  rintro e w6 ⟨rfl, hb6⟩
  replace S5 := Lib.hid (S5.out.next hb6)
  replace Y0 := Lib.hid (Y0.out.next hb6)
  replace B0 := Lib.hid (below_more B0.out hb6)
  clear hb6 HSR
  cases ok with
  | false =>
    obtain ⟨y0, y1, y2, y3, y4⟩ := Y0.out.s0
    obtain ⟨f0, f1, f2, f3, f4⟩ := Y0.out.f5
    have hr : R = ((0, 0, 0, ⟨#[]⟩), 3) := by rw [HR.out]; rfl
    subst hr
    clear HR
    go_wp2_with fail
    refine bodyPost_ret (v := soV ((0, 0, 0, ⟨#[]⟩), 3)) (by simp [soV, results, Tryz.results79, go_sem, y0, y1, y2, y3, y4]) rfl ⟨rfl, ?_⟩
    exact set5 B0.out _ (Nat.le_refl _) _ _ _ _ _
  | true =>
    have q0 := S5.out.q0
    have q1 := S5.out.q1
    have q2 := S5.out.q2
    have q3 := S5.out.q3
    go_wp2_with fail
    clear q0 q1 q2 q3
    refine (HSB.out _).mono ?_
    rintro e w7 ⟨rfl, hb7⟩
    have q0 := (S5.out.next hb7).q0
    have q1 := (S5.out.next hb7).q1
    have q2 := (S5.out.next hb7).q2
    have q3 := (S5.out.next hb7).q3
    obtain ⟨y0, y1, y2, y3, y4⟩ := (Y0.out.next hb7).s0
    obtain ⟨f0, f1, f2, f3, f4⟩ := (Y0.out.next hb7).f5
    have B7 := Lib.hid (below_more B0.out hb7)
    clear hb7 HSB
    cases hm : (M.toList == s.toList) with
    | true =>
      have hr : R = ((k, t, f, d), 0) := by rw [HR.out, hm]; rfl
      subst hr
      clear HR
      go_wp2_with fail
      refine bodyPost_ret (v := soV ((k, t, f, d), 0)) (by simp [soV, results, Tryz.results79, go_sem, y0, y1, y2, y3, y4]) rfl ⟨rfl, ?_⟩
      exact set5 B7.out _ (Nat.le_refl _) _ _ _ _ _
    | false =>
      have hr : R = ((0, 0, 0, ⟨#[]⟩), 3) := by rw [HR.out, hm]; rfl
      subst hr
      clear HR
      go_wp2_with fail
      refine bodyPost_ret (v := soV ((0, 0, 0, ⟨#[]⟩), 3)) (by simp [soV, results, Tryz.results79, go_sem, y0, y1, y2, y3, y4]) rfl ⟨rfl, ?_⟩
      exact set5 B7.out _ (Nat.le_refl _) _ _ _ _ _

end Go.Proofs.YthkbllkhomjmbaaGreatDoor

namespace Go.Proofs.YthkbllkhomjmbaaGreatDoor
open Go.RowKit

theorem unsealT_szq (s : ByteArray) : (unsealT s).1.size ≤ 8000 := by
  unfold unsealT
  split
  · exact Nat.zero_le _
  · split
    · exact Nat.zero_le _
    · split
      · simp; omega
      · exact Nat.zero_le _

set_option maxRecDepth 100000 in
set_option maxHeartbeats 4000000 in
theorem specRecRead (s : ByteArray) (n : Int) (w : World) (hs : s.size ≤ maxLen) :
    Calls Tryz.prog 31 #[.string s, .int .i64 n] w fun e w' => e = .returned (soV (recRd s n)) ∧ Below w.heap.size w w' := by
  have husz := unsealT_szq s
  have HU := Lib.hid (fun w => specUnsealT s w hs)
  have SE := Lib.hid (fun h => @recRd_seal s h n)
  have CMP := Lib.hid (fun h => @rec_cmp s h n)
  obtain ⟨R, hR⟩ : ∃ R, R = recRd s n := ⟨_, rfl⟩
  rw [← hR] at SE CMP ⊢
  clear hR
  obtain ⟨U, hU⟩ : ∃ U, U = unsealT s := ⟨_, rfl⟩
  rw [← hU] at husz HU SE CMP
  clear hU
  obtain ⟨t, c⟩ := U
  dsimp only at husz HU SE CMP
  have Y := Lib.hid (bx_new w 55 #[.int .i64 0, .int .i64 0, .int .i64 0, .string { data := #[] }, .int .i64 0])
  have B := Lib.hid (below_alloc1 w (.cells #[.int .i64 0, .int .i64 0, .int .i64 0, .string { data := #[] }, .int .i64 0] 55))
  have z0 := size_alloc1 w (.cells #[.int .i64 0, .int .i64 0, .int .i64 0, .string { data := #[] }, .int .i64 0] 55)
  go_enter Tryz.func31, Tryz.ntmps31
  go_wp2_with fail
  generalize w.alloc (.cells #[.int .i64 0, .int .i64 0, .int .i64 0, .string { data := #[] }, .int .i64 0] 55) = W0 at *
  refine (HU.out W0).mono ?_
  clear HU
  rintro e w1 ⟨rfl, hb⟩
  have bz := below_alloc1 w1 (.cells #[.string t, .int .i64 0, .int .i64 c] 74)
  have hbb := below_more hb bz
  have s1 := size_alloc1 w1 (.cells #[.string t, .int .i64 0, .int .i64 c] 74)
  have g1 := hb.size
  have XU := Lib.hid (bx_new w1 74 #[.string t, .int .i64 0, .int .i64 c])
  replace Y := Lib.hid (Y.out.next hbb)
  replace B := Lib.hid (below_more B.out hbb)
  clear hb bz hbb
  have u0 := XU.out.t0
  have u2 := XU.out.t2
  by_cases hc : c = 0
  rotate_left
  · have hr := SE.out hc
    have dc : (c != 0) = true := by simpa using hc
    have HRR := Lib.hid hr
    clear SE CMP hc hr
    obtain ⟨y0, y1, y2, y3, y4⟩ := Y.out.s0
    obtain ⟨f0, f1, f2, f3, f4⟩ := Y.out.f5
    go_wp2_with fail
    refine bodyPost_ret (v := soV (noStp, c)) (by simp [noStp, soV, results, Tryz.results31, go_sem, y0, y1, y2, y3, y4]) rfl ⟨by rw [HRR.out], ?_⟩
    exact set5 B.out _ (Nat.le_refl _) _ _ _ _ _
  subst hc
  replace CMP := Lib.hid (CMP.out (by first | rfl | trivial))
  clear SE
  have ht : t.size ≤ maxLen := by unfold maxLen; omega
  obtain ⟨q, hq, hqs, hrt⟩ := rN_at t
  have HN1 := Lib.hid (fun w p hB => num_any t 0 false p w ht (by decide) hB)
  rw [show numS t 0 false = rN t from rfl] at HN1
  have HX := Lib.hid (fun w => specStepRead (rT t) w (by rw [hrt]; unfold maxLen at *; simp; omega))
  rw [show rdR (rT t) = rX t from rfl, hrt] at HX
  generalize rX t = X at *
  generalize rN t = N at *
  clear hrt
  obtain ⟨m, at', bad⟩ := N
  obtain ⟨⟨k, to', f, d⟩, xc⟩ := X
  dsimp only at hq CMP HN1 HX
  subst hq
  have bz := below_alloc1 (w1.alloc (.cells #[.string t, .int .i64 0, .int .i64 0] 74)) (.cells #[.string t, .int .i64 0, .bool false] 87)
  have X1 := bx_new (w1.alloc (.cells #[.string t, .int .i64 0, .int .i64 0] 74)) 87 #[.string t, .int .i64 0, .bool false]
  have s2 := size_alloc1 (w1.alloc (.cells #[.string t, .int .i64 0, .int .i64 0] 74)) (.cells #[.string t, .int .i64 0, .bool false] 87)
  rw [s1] at X1
  replace Y := Lib.hid (Y.out.next bz)
  replace B := Lib.hid (below_more B.out bz)
  replace XU := Lib.hid (XU.out.next bz)
  have XR := Lib.hid X1
  clear bz X1
  go_wp2_with fail
  clear u0 u2
  generalize (w1.alloc (.cells #[.string t, .int .i64 0, .int .i64 0] 74)).alloc (.cells #[.string t, .int .i64 0, .bool false] 87) = W2 at *
  obtain ⟨p, hp⟩ : ∃ p, p = w1.heap.size + 1 := ⟨_, rfl⟩
  have hpw : w.heap.size < p := by omega
  have hpW : p < W2.heap.size := by omega
  have hnp : w1.heap.size ≠ p := by omega
  rw [← hp] at XR ⊢
  clear hp s1 s2 g1 z0
  generalize w1.heap.size = nU at *
  refine (HN1.out W2 p XR.out).mono ?_
  rintro e w3 ⟨rfl, hx, hg⟩
  have g3 := hg.size
  have Y3 := Lib.hid (Y.out.grown hg (by simp; omega))
  have XU3 := Lib.hid (XU.out.grown hg (by simp; omega))
  have B3 := Lib.hid (below_gr B.out hg B.out.size (by omega))
  have XR3 := Lib.hid hx
  clear hx hg XR XU Y B HN1
  have k0 := XU3.out.t0
  have k1 := XR3.out.t1
  have e0 : (0 : Int) ≤ (q : Int) := by omega
  have e1 : (q : Int) ≤ (t.size : Int) := by omega
  have KP := Lib.hid (show ∀ w', Below w3.heap.size w3 w' → w'.cell? ⟨nU, 0, none⟩ = some (.string t) ∧ w'.cell? ⟨p, 1, none⟩ = some (.int .i64 (q : Int)) from fun w' hb' => ⟨(XU3.out.next hb').t0, (XR3.out.next hb').t1⟩)
  have Z0 := Lib.hid (bx_new w3 55 #[.int .i64 0, .int .i64 0, .int .i64 0, .string { data := #[] }, .int .i64 0])
  have BZ := Lib.hid (below_alloc1 w3 (.cells #[.int .i64 0, .int .i64 0, .int .i64 0, .string { data := #[] }, .int .i64 0] 55))
  have hz : w3.heap.size ≤ (w3.alloc (.cells #[.int .i64 0, .int .i64 0, .int .i64 0, .string { data := #[] }, .int .i64 0] 55)).heap.size := BZ.out.size
  unfold soV at HX
  dsimp only at HX
  go_wp2_with fail
  refine wp_region_held_drew (S := (fun w' => w'.cell? ⟨nU, 0, none⟩ = some (.string t) ∧ w'.cell? ⟨p, 1, none⟩ = some (.int .i64 (q : Int)))) (by kernel_rfl) ⟨k0, k1⟩ (fun hHeld => ?_)
  refine wpAnyH_take (i := 0) (oi := ⟨some 23, _, _, _, _, _⟩) (v := ?_) rfl (by kernel_rfl) (by kernel_rfl) (by kernel_rfl) (fun _ _ _ h => h) (Or.inl ⟨by rfl, ?_⟩) (by assumption) ?_
  rotate_left
  · intro w' hSw
    (try dsimp only at hSw)
    go_simp
    try with_reducible rfl
  (try simp only [Act.put, List.setIfInBounds_toArray, List.set_cons_zero, List.set_cons_succ])
  refine wpAnyH_take (i := 1) (oi := ⟨some 24, _, _, _, _, _⟩) (v := ?_) rfl (by kernel_rfl) (by kernel_rfl) (by kernel_rfl) (fun _ _ _ h => h) (Or.inl ⟨by rfl, ?_⟩) (by assumption) ?_
  rotate_left
  · intro w' hSw
    (try dsimp only at hSw)
    go_simp
    try with_reducible rfl
  (try simp only [Act.put, List.setIfInBounds_toArray, List.set_cons_zero, List.set_cons_succ])
  refine wpAnyH_take (i := 2) (oi := ⟨some 25, _, _, _, _, _⟩) (v := ?_) rfl (by kernel_rfl) (by kernel_rfl) (by kernel_rfl) (fun _ _ _ h => h) (Or.inl ⟨by rfl, ?_⟩) (by assumption) ?_
  rotate_left
  · intro w' hSw
    (try dsimp only at hSw)
    go_simp
    try with_reducible rfl
  (try simp only [Act.put, List.setIfInBounds_toArray, List.set_cons_zero, List.set_cons_succ])
  refine wpAnyH_take (i := 3) (oi := ⟨some 26, _, _, _, _, _⟩) (v := ?_) rfl (by kernel_rfl) (by kernel_rfl) (by kernel_rfl) (fun _ _ _ h => h) (Or.inl ⟨by rfl, ?_⟩) (by assumption) ?_
  rotate_left
  · intro w' hSw
    (try dsimp only at hSw)
    go_simp
    try with_reducible rfl
  (try simp only [Act.put, List.setIfInBounds_toArray, List.set_cons_zero, List.set_cons_succ])
  refine wpAnyH_take (i := 4) (oi := ⟨some 27, _, _, _, _, _⟩) (v := ?_) rfl (by kernel_rfl) (by kernel_rfl) (by kernel_rfl) (fun _ _ _ h => h) (Or.inl ⟨by rfl, ?_⟩) (by assumption) ?_
  rotate_left
  · intro w' hSw
    (try dsimp only at hSw)
    go_simp
    try with_reducible rfl
  (try simp only [Act.put, List.setIfInBounds_toArray, List.set_cons_zero, List.set_cons_succ])
  refine wpAnyH_take (i := 5) (oi := ⟨some 28, _, _, _, _, _⟩) (v := ?_) rfl (by kernel_rfl) (by kernel_rfl) (by kernel_rfl) (fun _ _ _ h => h) (Or.inl ⟨by rfl, ?_⟩) (by assumption) ?_
  rotate_left
  · intro w' hSw
    (try dsimp only at hSw)
    go_simp
    try with_reducible rfl
  (try simp only [Act.put, List.setIfInBounds_toArray, List.set_cons_zero, List.set_cons_succ])
  refine wpAnyH_take (i := 6) (oi := ⟨some 29, _, _, _, _, _⟩) (v := ?_) rfl (by kernel_rfl) (by kernel_rfl) (by kernel_rfl) (fun _ _ _ h => h) (Or.inl ⟨by rfl, ?_⟩) (by assumption) ?_
  rotate_left
  · intro w' hSw
    (try dsimp only at hSw)
    go_simp
    try with_reducible rfl
  (try simp only [Act.put, List.setIfInBounds_toArray, List.set_cons_zero, List.set_cons_succ])
  refine wpAnyH_ready (rs := [7, 8]) (by kernel_rfl) (by simp) ?_
  refine AllReadyH.cons (o := ⟨some 30, _, _, _, _, _⟩) rfl (fun K hK => ?_) (AllReadyH.cons (o := ⟨some 8, _, _, _, _, _⟩) rfl (fun K hK => ?_) AllReadyH.nil)
  · clear hHeld
    go_simp
    go_at_call 64
    refine (HX.out w3.drew).mono ?_
    rintro e w4 ⟨rfl, hb1⟩
    have HB1 := Lib.hid ((Below.refl w3.heap.size w3).drew.trans hb1)
    clear hb1
    refine hK.out _ _ (KP.out _ HB1.out) (fun hHeld => ?_)
    clear hK K
    (try simp only [Act.put, List.setIfInBounds_toArray, List.set_cons_zero, List.set_cons_succ])
    refine wpAnyH_ready (rs := [8]) (by kernel_rfl) (by simp) ?_
    refine AllReadyH.cons (o := ⟨some 8, _, _, _, _, _⟩) rfl (fun K hK => ?_) AllReadyH.nil
    clear hHeld
    go_simp
    refine hK.out _ _ (KP.out _ (below_more HB1.out (below_alloc1 _ _))) (fun hHeld => ?_)
    clear hK K
    (try simp only [Act.put, List.setIfInBounds_toArray, List.set_cons_zero, List.set_cons_succ])
    refine wpAnyH_ready (rs := [9]) (by kernel_rfl) (by simp) ?_
    refine AllReadyH.cons (o := ⟨none, _, _, _, _, _⟩) rfl (fun K hK => ?_) AllReadyH.nil
    clear hHeld
    go_simp
    refine hK.out _ _ (KP.out _ (below_more HB1.out (below_alloc1 _ _))) (fun hHeld => ?_)
    clear hK K
    (try simp only [Act.put, List.setIfInBounds_toArray, List.set_cons_zero, List.set_cons_succ])
    refine wpAnyH_done (by kernel_rfl) ?_ _
    clear hHeld
    
    have XX := Lib.hid (bx_new w4 55 #[.int .i64 k, .int .i64 to', .int .i64 f, .string d, .int .i64 xc])
    have HB2 := Lib.hid (below_more HB1.out (below_alloc1 w4 (.cells #[.int .i64 k, .int .i64 to', .int .i64 f, .string d, .int .i64 xc] 55)))
    clear HB1
    have Y4 := Lib.hid (Y3.out.next HB2.out)
    have XR4 := Lib.hid (XR3.out.next HB2.out)
    have B4 := Lib.hid (below_more B3.out HB2.out)
    clear KP Z0 BZ hz HB2 Y3 XR3 XU3 B3 k0 k1
    have k2 := XR4.out.t2
    obtain ⟨x0, x1, x2, x3, x4⟩ := XX.out.s0
    obtain ⟨y0, y1, y2, y3, y4⟩ := Y4.out.s0
    obtain ⟨f0, f1, f2, f3, f4⟩ := Y4.out.f5
    cases bad with
    | true =>
      have hr := CMP.out.trans (if_neg (fun h => by cases h.1))
      have HRR := Lib.hid hr
      clear hr CMP
      go_wp2_with fail
      refine bodyPost_ret (v := soV (noStp, 3)) (by simp [noStp, soV, results, Tryz.results31, go_sem, y0, y1, y2, y3, y4]) rfl ⟨by rw [HRR.out], ?_⟩
      exact set5 B4.out _ (Nat.le_refl _) _ _ _ _ _
    | false =>
    by_cases hxc : xc = 0
    rotate_left
    · have dx : (xc != 0) = true := by simpa using hxc
      have hr := CMP.out.trans (if_neg (fun h => hxc h.2.1))
      have HRR := Lib.hid hr
      clear hr CMP hxc
      go_wp2_with fail
      refine bodyPost_ret (v := soV (noStp, 3)) (by simp [noStp, soV, results, Tryz.results31, go_sem, y0, y1, y2, y3, y4]) rfl ⟨by rw [HRR.out], ?_⟩
      exact set5 B4.out _ (Nat.le_refl _) _ _ _ _ _
    subst hxc
    have MB := Lib.hid (fun w => specRecBs m k to' f d w)
    obtain ⟨M, hM⟩ : ∃ M, M = recBs m (k, to', f, d) := ⟨_, rfl⟩
    rw [← hM] at CMP MB
    clear hM y0 y1 y2 y3 y4 f0 f1 f2 f3 f4
    go_wp2_with fail
    refine (MB.out _).mono ?_
    rintro e w5 ⟨rfl, hb⟩
    obtain ⟨z0, z1, z2, z3, z4⟩ := (XX.out.next hb).s0
    obtain ⟨y0, y1, y2, y3, y4⟩ := (Y4.out.next hb).s0
    obtain ⟨f0, f1, f2, f3, f4⟩ := (Y4.out.next hb).f5
    have B5 := Lib.hid (below_more B4.out hb)
    clear hb MB x0 x1 x2 x3 x4 k2
    cases hm : (M.toList == s.toList) with
    | false =>
      have dm : (M.toList != s.toList) = true := by simp [bne, hm]
      have hr := CMP.out.trans (if_neg (fun h => by rw [hm] at h; cases h.2.2))
      have HRR := Lib.hid hr
      clear hr CMP
      go_wp2_with fail
      refine bodyPost_ret (v := soV (noStp, 3)) (by simp [noStp, soV, results, Tryz.results31, go_sem, y0, y1, y2, y3, y4]) rfl ⟨by rw [HRR.out], ?_⟩
      exact set5 B5.out _ (Nat.le_refl _) _ _ _ _ _
    | true =>
      have dm : (M.toList != s.toList) = false := by simp [bne, hm]
      have hr := CMP.out.trans (if_pos ⟨by first | rfl | trivial, by first | rfl | trivial, hm⟩)
      by_cases hmn : m = n
      · have dn : (m != n) = false := by simpa using hmn
        have HRR := Lib.hid (hr.trans (if_pos hmn))
        clear hr CMP hmn
        go_wp2_with fail
        refine bodyPost_ret (v := soV ((k, to', f, d), 0)) (by simp [soV, results, Tryz.results31, go_sem, y0, y1, y2, y3, y4]) rfl ⟨by rw [HRR.out], ?_⟩
        exact set5 B5.out _ (Nat.le_refl _) _ _ _ _ _
      · have dn : (m != n) = true := by simpa using hmn
        have HRR := Lib.hid (hr.trans (if_neg hmn))
        clear hr CMP hmn
        go_wp2_with fail
        refine bodyPost_ret (v := soV (noStp, 6)) (by simp [noStp, soV, results, Tryz.results31, go_sem, y0, y1, y2, y3, y4]) rfl ⟨by rw [HRR.out], ?_⟩
        exact set5 B5.out _ (Nat.le_refl _) _ _ _ _ _
  · clear hHeld
    go_simp
    refine hK.out _ _ (KP.out _ BZ.out.drew) (fun hHeld => ?_)
    clear hK K
    (try simp only [Act.put, List.setIfInBounds_toArray, List.set_cons_zero, List.set_cons_succ])
    refine wpAnyH_ready (rs := [7]) (by kernel_rfl) (by simp) ?_
    refine AllReadyH.cons (o := ⟨some 30, _, _, _, _, _⟩) rfl (fun K hK => ?_) AllReadyH.nil
    clear hHeld
    go_simp
    go_at_call 64
    refine (HX.out (w3.alloc (.cells #[.int .i64 0, .int .i64 0, .int .i64 0, .string { data := #[] }, .int .i64 0] 55)).drew).mono ?_
    rintro e w4 ⟨rfl, hb1⟩
    have hb2 := (Below.refl _ (w3.alloc (.cells #[.int .i64 0, .int .i64 0, .int .i64 0, .string { data := #[] }, .int .i64 0] 55))).drew.trans hb1
    have HB1 := Lib.hid (BZ.out.trans (hb2.mono hz))
    have y1 := Z0.out.next hb2
    obtain ⟨q0, q1, q2, q3, q4⟩ := y1.s0
    obtain ⟨g0, g1, g2, g3, g4⟩ := y1.f5
    have Y1 := Lib.hid y1
    clear y1 hb1 hb2
    refine hK.out _ _ (KP.out _ HB1.out) (fun hHeld => ?_)
    clear hK K
    (try simp only [Act.put, List.setIfInBounds_toArray, List.set_cons_zero, List.set_cons_succ])
    refine wpAnyH_ready (rs := [9]) (by kernel_rfl) (by simp) ?_
    refine AllReadyH.cons (o := ⟨none, _, _, _, _, _⟩) rfl (fun K hK => ?_) AllReadyH.nil
    clear hHeld
    go_simp
    refine hK.out _ _ (KP.out _ (set5 HB1.out w3.heap.size (Nat.le_refl _) (.int .i64 k) (.int .i64 to') (.int .i64 f) (.string d) (.int .i64 xc))) (fun hHeld => ?_)
    clear hK K
    (try simp only [Act.put, List.setIfInBounds_toArray, List.set_cons_zero, List.set_cons_succ])
    refine wpAnyH_done (by kernel_rfl) ?_ _
    clear hHeld
    
    have hb2 := set5 HB1.out w3.heap.size (Nat.le_refl _) (.int .i64 k) (.int .i64 to') (.int .i64 f) (.string d) (.int .i64 xc)
    have y3 : Bx _ w3.heap.size 55 #[.int .i64 k, .int .i64 to', .int .i64 f, .string d, .int .i64 xc] := ((((Y1.out.set (j := 0) (.int .i64 k)).set (j := 1) (.int .i64 to')).set (j := 2) (.int .i64 f)).set (j := 3) (.string d)).set (j := 4) (.int .i64 xc)
    have XX := Lib.hid y3
    have HB2 := Lib.hid hb2
    clear hb2 y3 Y1 q0 q1 q2 q3 q4 g0 g1 g2 g3 g4
    have Y4 := Lib.hid (Y3.out.next HB2.out)
    have XR4 := Lib.hid (XR3.out.next HB2.out)
    have B4 := Lib.hid (below_more B3.out HB2.out)
    clear KP Z0 BZ hz HB1 HB2 Y3 XR3 XU3 B3 k0 k1
    have k2 := XR4.out.t2
    obtain ⟨x0, x1, x2, x3, x4⟩ := XX.out.s0
    obtain ⟨y0, y1, y2, y3, y4⟩ := Y4.out.s0
    obtain ⟨f0, f1, f2, f3, f4⟩ := Y4.out.f5
    cases bad with
    | true =>
      have hr := CMP.out.trans (if_neg (fun h => by cases h.1))
      have HRR := Lib.hid hr
      clear hr CMP
      go_wp2_with fail
      refine bodyPost_ret (v := soV (noStp, 3)) (by simp [noStp, soV, results, Tryz.results31, go_sem, y0, y1, y2, y3, y4]) rfl ⟨by rw [HRR.out], ?_⟩
      exact set5 B4.out _ (Nat.le_refl _) _ _ _ _ _
    | false =>
    by_cases hxc : xc = 0
    rotate_left
    · have dx : (xc != 0) = true := by simpa using hxc
      have hr := CMP.out.trans (if_neg (fun h => hxc h.2.1))
      have HRR := Lib.hid hr
      clear hr CMP hxc
      go_wp2_with fail
      refine bodyPost_ret (v := soV (noStp, 3)) (by simp [noStp, soV, results, Tryz.results31, go_sem, y0, y1, y2, y3, y4]) rfl ⟨by rw [HRR.out], ?_⟩
      exact set5 B4.out _ (Nat.le_refl _) _ _ _ _ _
    subst hxc
    have MB := Lib.hid (fun w => specRecBs m k to' f d w)
    obtain ⟨M, hM⟩ : ∃ M, M = recBs m (k, to', f, d) := ⟨_, rfl⟩
    rw [← hM] at CMP MB
    clear hM y0 y1 y2 y3 y4 f0 f1 f2 f3 f4
    go_wp2_with fail
    refine (MB.out _).mono ?_
    rintro e w5 ⟨rfl, hb⟩
    obtain ⟨z0, z1, z2, z3, z4⟩ := (XX.out.next hb).s0
    obtain ⟨y0, y1, y2, y3, y4⟩ := (Y4.out.next hb).s0
    obtain ⟨f0, f1, f2, f3, f4⟩ := (Y4.out.next hb).f5
    have B5 := Lib.hid (below_more B4.out hb)
    clear hb MB x0 x1 x2 x3 x4 k2
    cases hm : (M.toList == s.toList) with
    | false =>
      have dm : (M.toList != s.toList) = true := by simp [bne, hm]
      have hr := CMP.out.trans (if_neg (fun h => by rw [hm] at h; cases h.2.2))
      have HRR := Lib.hid hr
      clear hr CMP
      go_wp2_with fail
      refine bodyPost_ret (v := soV (noStp, 3)) (by simp [noStp, soV, results, Tryz.results31, go_sem, y0, y1, y2, y3, y4]) rfl ⟨by rw [HRR.out], ?_⟩
      exact set5 B5.out _ (Nat.le_refl _) _ _ _ _ _
    | true =>
      have dm : (M.toList != s.toList) = false := by simp [bne, hm]
      have hr := CMP.out.trans (if_pos ⟨by first | rfl | trivial, by first | rfl | trivial, hm⟩)
      by_cases hmn : m = n
      · have dn : (m != n) = false := by simpa using hmn
        have HRR := Lib.hid (hr.trans (if_pos hmn))
        clear hr CMP hmn
        go_wp2_with fail
        refine bodyPost_ret (v := soV ((k, to', f, d), 0)) (by simp [soV, results, Tryz.results31, go_sem, y0, y1, y2, y3, y4]) rfl ⟨by rw [HRR.out], ?_⟩
        exact set5 B5.out _ (Nat.le_refl _) _ _ _ _ _
      · have dn : (m != n) = true := by simpa using hmn
        have HRR := Lib.hid (hr.trans (if_neg hmn))
        clear hr CMP hmn
        go_wp2_with fail
        refine bodyPost_ret (v := soV (noStp, 6)) (by simp [noStp, soV, results, Tryz.results31, go_sem, y0, y1, y2, y3, y4]) rfl ⟨by rw [HRR.out], ?_⟩
        exact set5 B5.out _ (Nat.le_refl _) _ _ _ _ _

theorem rec_impl {s : ByteArray} (h0 : (unsealT s).2 = 0) (n : Int) {q : Nat} (hq : (getR (unsealT s).1 0).2.1 = q) :
    recRd s n = if (getR (unsealT s).1 0).2.2 = 0 ∧ isT (getR (unsealT s).1 0).1 = true ∧ (rdR ((unsealT s).1.extract q (unsealT s).1.size)).2 = 0 then (if (getR (unsealT s).1 0).1 = n then ((rdR ((unsealT s).1.extract q (unsealT s).1.size)).1, 0) else (noStp, 6)) else (noStp, 3) := by
  by_cases hc : (getR (unsealT s).1 0).2.2 = 0
  · have e := rN_yes hc
    have e1 : (rN (unsealT s).1).1 = (getR (unsealT s).1 0).1 := by rw [e]
    have e2 : (rN (unsealT s).1).2.2 = false := by rw [e]
    have e3 : rX (unsealT s).1 = rdR ((unsealT s).1.extract q (unsealT s).1.size) := by
      unfold rX rT
      rw [e]
      simp only
      rw [hq, Int.toNat_natCast]
    by_cases hg : (rN (unsealT s).1).2.2 = false ∧ isT (rN (unsealT s).1).1 = true ∧ (rX (unsealT s).1).2 = 0
    · rw [recRd_good h0 hg, e1, e3]
      exact (if_pos ⟨hc, by rw [← e1]; exact hg.2.1, by rw [← e3]; exact hg.2.2⟩).symm
    · rw [recRd_odd h0 hg]
      exact (if_neg fun h => hg ⟨e2, by rw [e1]; exact h.2.1, by rw [e3]; exact h.2.2⟩).symm
  · have e := rN_no hc
    rw [recRd_odd h0 (fun h => by rw [e] at h; cases h.1)]
    exact (if_neg fun h => hc h.1).symm

set_option maxRecDepth 100000 in
set_option maxHeartbeats 4000000 in
theorem implRecRead (s : ByteArray) (n : Int) (a : Nat → Addr) (w : World) (hs : s.size ≤ maxLen) (hL : Laid w) (hE : Sent w sealG a) :
    Calls Tryz.prog 26 #[.string s, .int .i64 n] w fun e w' => e = .returned (soV (recRd s n)) ∧ Below w.heap.size w w' := by
  have HL := Lib.hid hL
  have HE := Lib.hid hE
  clear hL hE
  have husz := unsealT_szq s
  have HU := Lib.hid (fun w hE => implUnsealT s [] a w hs hE)
  have SE := Lib.hid (fun h => @recRd_seal s h n)
  have CMP := Lib.hid (fun h q hq => @rec_impl s h n q hq)
  obtain ⟨R, hR⟩ : ∃ R, R = recRd s n := ⟨_, rfl⟩
  rw [← hR] at SE CMP ⊢
  clear hR
  obtain ⟨U, hU⟩ : ∃ U, U = unsealT s := ⟨_, rfl⟩
  rw [← hU] at husz HU SE CMP
  clear hU
  obtain ⟨t, c⟩ := U
  dsimp only at husz HU SE CMP
  have Y := Lib.hid (bx_new w 55 #[.int .i64 0, .int .i64 0, .int .i64 0, .string { data := #[] }, .int .i64 0])
  have B := Lib.hid (below_alloc1 w (.cells #[.int .i64 0, .int .i64 0, .int .i64 0, .string { data := #[] }, .int .i64 0] 55))
  go_enter Tryz.func26, Tryz.ntmps26
  go_wp2_with fail
  generalize w.alloc (.cells #[.int .i64 0, .int .i64 0, .int .i64 0, .string { data := #[] }, .int .i64 0] 55) = W0 at *
  refine (HU.out W0 (HE.out.next B.out)).mono ?_
  clear HU
  rintro e w1 ⟨rfl, hb⟩
  have bz := below_alloc1 w1 (.cells #[.string t, .int .i64 0, .int .i64 c] 74)
  have hbb := below_more hb bz
  have XU := Lib.hid (bx_new w1 74 #[.string t, .int .i64 0, .int .i64 c])
  replace Y := Lib.hid (Y.out.next hbb)
  replace B := Lib.hid (below_more B.out hbb)
  clear hb bz hbb
  have u0 := XU.out.t0
  have u2 := XU.out.t2
  by_cases hc : c = 0
  rotate_left
  · have hr := SE.out hc
    have dc : (c != 0) = true := by simpa using hc
    have HRR := Lib.hid hr
    clear SE CMP hc hr
    obtain ⟨y0, y1, y2, y3, y4⟩ := Y.out.s0
    obtain ⟨f0, f1, f2, f3, f4⟩ := Y.out.f5
    go_wp2_with fail
    refine bodyPost_ret (v := soV (noStp, c)) (by simp [noStp, soV, results, Tryz.results26, go_sem, y0, y1, y2, y3, y4]) rfl ⟨by rw [HRR.out], ?_⟩
    exact set5 B.out _ (Nat.le_refl _) _ _ _ _ _
  subst hc
  obtain ⟨q, hq, hqs⟩ := getR_at0 t
  replace CMP := Lib.hid (CMP.out (by first | rfl | trivial) q hq)
  clear SE
  have ht : t.size ≤ maxLen := by unfold maxLen; omega
  have HG := Lib.hid (fun w hL => implGet_any t 0 w ht (by decide) hL)
  have HX := Lib.hid (fun w hL => implStepRead (t.extract q t.size) w (by unfold maxLen at *; simp; omega) hL)
  generalize rdR (t.extract q t.size) = X at *
  generalize getR t 0 = G at *
  obtain ⟨m, at', gc⟩ := G
  obtain ⟨⟨k, to', f, d⟩, xc⟩ := X
  unfold numV at HG
  unfold soV at HX
  dsimp only at hq CMP HG HX
  subst hq
  go_wp2_with fail
  clear u0 u2
  generalize w1.alloc (.cells #[.string t, .int .i64 0, .int .i64 0] 74) = W1 at *
  generalize w1.heap.size = nU at *
  refine (HG.out W1 (HL.out.below B.out)).mono ?_
  rintro e w2 ⟨rfl, hb⟩
  have b1 := below_alloc1 w2 (.cells #[.int .i64 m, .int .i64 (q : Int), .int .i64 gc] 102)
  have hbb := below_more hb b1
  have N1 := Lib.hid (bx_new w2 102 #[.int .i64 m, .int .i64 (q : Int), .int .i64 gc])
  replace Y := Lib.hid (Y.out.next hbb)
  replace XU := Lib.hid (XU.out.next hbb)
  replace B := Lib.hid (below_more B.out hbb)
  clear hb hbb b1 HG
  have u0 := XU.out.t0
  have q1 := N1.out.t1
  have e0 : (0 : Int) ≤ (q : Int) := by omega
  have e1 : (q : Int) ≤ (t.size : Int) := by omega
  go_wp2_with fail
  clear u0 q1
  generalize w2.alloc (.cells #[.int .i64 m, .int .i64 (q : Int), .int .i64 gc] 102) = W2 at *
  generalize w2.heap.size = nN at *
  refine (HX.out W2 (HL.out.below B.out)).mono ?_
  rintro e w3 ⟨rfl, hb⟩
  have b1 := below_alloc1 w3 (.cells #[.int .i64 k, .int .i64 to', .int .i64 f, .string d, .int .i64 xc] 55)
  have hbb := below_more hb b1
  have XX := Lib.hid (bx_new w3 55 #[.int .i64 k, .int .i64 to', .int .i64 f, .string d, .int .i64 xc])
  replace Y := Lib.hid (Y.out.next hbb)
  replace N1 := Lib.hid (N1.out.next hbb)
  replace B := Lib.hid (below_more B.out hbb)
  clear hb hbb b1 HX XU
  obtain ⟨x0, x1, x2, x3, x4⟩ := XX.out.s0
  obtain ⟨y0, y1, y2, y3, y4⟩ := Y.out.s0
  obtain ⟨f0, f1, f2, f3, f4⟩ := Y.out.f5
  have g0 := N1.out.t0
  have g2 := N1.out.t2
  by_cases hgc : gc = 0
  rotate_left
  · have dx : (gc != 0) = true := by simpa using hgc
    have HRR := Lib.hid (CMP.out.trans (if_neg (fun h => hgc h.1)))
    clear CMP hgc
    go_wp2_with fail
    refine bodyPost_ret (v := soV (noStp, 3)) (by simp [noStp, soV, results, Tryz.results26, go_sem, y0, y1, y2, y3, y4]) rfl ⟨by rw [HRR.out], ?_⟩
    exact set5 B.out _ (Nat.le_refl _) _ _ _ _ _
  subst hgc
  cases htm : isT m with
  | false =>
    have HRR := Lib.hid (CMP.out.trans (if_neg (fun h => by rw [htm] at h; cases h.2.1)))
    have HT := Lib.hid htm
    clear CMP htm
    go_wp2_with fail
    refine (isTime_any m false _ HT.out).mono ?_
    rintro e w4 ⟨rfl, rfl⟩
    go_wp2_with fail
    refine bodyPost_ret (v := soV (noStp, 3)) (by simp [noStp, soV, results, Tryz.results26, go_sem, y0, y1, y2, y3, y4]) rfl ⟨by rw [HRR.out], ?_⟩
    exact set5 B.out _ (Nat.le_refl _) _ _ _ _ _
  | true =>
  have HT := Lib.hid htm
  by_cases hxc : xc = 0
  rotate_left
  · have dx : (xc != 0) = true := by simpa using hxc
    have HRR := Lib.hid (CMP.out.trans (if_neg (fun h => hxc h.2.2)))
    clear CMP hxc htm
    go_wp2_with fail
    refine (isTime_any m true _ HT.out).mono ?_
    rintro e w4 ⟨rfl, rfl⟩
    go_wp2_with fail
    refine bodyPost_ret (v := soV (noStp, 3)) (by simp [noStp, soV, results, Tryz.results26, go_sem, y0, y1, y2, y3, y4]) rfl ⟨by rw [HRR.out], ?_⟩
    exact set5 B.out _ (Nat.le_refl _) _ _ _ _ _
  subst hxc
  have hr := CMP.out.trans (if_pos ⟨by first | rfl | trivial, htm, by first | rfl | trivial⟩)
  by_cases hmn : m = n
  · have dn : (m != n) = false := by simpa using hmn
    have HRR := Lib.hid (hr.trans (if_pos hmn))
    clear hr CMP hmn htm
    go_wp2_with fail
    refine (isTime_any m true _ HT.out).mono ?_
    rintro e w4 ⟨rfl, rfl⟩
    go_wp2_with fail
    refine bodyPost_ret (v := soV ((k, to', f, d), 0)) (by simp [soV, results, Tryz.results26, go_sem, y0, y1, y2, y3, y4]) rfl ⟨by rw [HRR.out], ?_⟩
    exact set5 B.out _ (Nat.le_refl _) _ _ _ _ _
  · have dn : (m != n) = true := by simpa using hmn
    have HRR := Lib.hid (hr.trans (if_neg hmn))
    clear hr CMP hmn htm
    go_wp2_with fail
    refine (isTime_any m true _ HT.out).mono ?_
    rintro e w4 ⟨rfl, rfl⟩
    go_wp2_with fail
    refine bodyPost_ret (v := soV (noStp, 6)) (by simp [noStp, soV, results, Tryz.results26, go_sem, y0, y1, y2, y3, y4]) rfl ⟨by rw [HRR.out], ?_⟩
    exact set5 B.out _ (Nat.le_refl _) _ _ _ _ _
end Go.Proofs.YthkbllkhomjmbaaGreatDoor

namespace Go.Proofs.YthkbllkhomjmbaaGreatDoor
open Go.RowKit

theorem below_nx {W a b : World} (h : Below W.heap.size W a) (k : Below a.heap.size a b) : Below W.heap.size W b := h.trans (k.mono h.size)
set_option maxRecDepth 100000 in
set_option maxHeartbeats 1000000 in
theorem wrong_fn (k t f n : Int) (d : ByteArray) (B : Nat) (w : World) (hB : w.cell? ⟨B, 0, none⟩ = some (.int .i64 n)) (hlt : B < w.heap.size) :
    Calls Tryz.prog 113 #[.agg #[.int .i64 k, .int .i64 t, .int .i64 f, .string d], .pointer (some ⟨B, 0, none⟩)] w fun e w' => e = .returned (.bool (wrongS n (k, t, f, d))) ∧ Below w.heap.size w w' := by
  have HB := Lib.hid (below_alloc1 w (.cells #[.int .i64 k, .int .i64 t, .int .i64 f, .string d] 48))
  have hb := (below_alloc1 w (.cells #[.int .i64 k, .int .i64 t, .int .i64 f, .string d] 48)).cell (p := ⟨B, 0, none⟩) hlt
  rw [hB] at hb
  obtain ⟨R, hR⟩ : ∃ R, R = stepB n k t f d := ⟨_, rfl⟩
  have hw : wrongS n (k, t, f, d) = !R := by rw [hR]; rfl
  rw [hw]
  have HR := Lib.hid hR
  clear hR hw
  go_enter Tryz.func113, Tryz.ntmps113
  go_wp2_with fail
  have hc := implRight k t f n d (w.alloc (.cells #[.int .i64 k, .int .i64 t, .int .i64 f, .string d] 48))
  rw [← HR.out] at hc
  refine hc.mono ?_
  clear hc
  rintro e w1 ⟨rfl, hb1⟩
  have HB1 := Lib.hid (below_nx HB.out hb1)
  clear hb1
  go_wp2_with fail
  go_ret
  exact ⟨rfl, HB1.out⟩

def IxRel (l : List stpT) (n : Int) (w : World) (i : Value) (wr : World) : Prop := ∃ k : Nat, k ≤ l.length ∧ i = .int .i64 k ∧ (∀ j (h : j < l.length), j < k → wrongS n l[j] = false) ∧ Below w.heap.size w wr
/-- What IndexFunc gives: whether there is a step that is not valid, by the sign. -/
def IxFound (l : List stpT) (n : Int) (w : World) (e : Ending) (w' : World) : Prop := ∃ r : Int, e = .returned (.int .i64 r) ∧ (0 ≤ r ↔ ∃ s ∈ l, wrongS n s = true) ∧ -1 ≤ r ∧ r ≤ 1048576 ∧ Below w.heap.size w w'
set_option maxHeartbeats 2000000 in
set_option maxRecDepth 100000 in
theorem indexS_any (vl : Value) (l : List stpT) (n : Int) (B : Nat) (w : World) (hl : Rd w vl l.length 4 (stpCs l)) (hn : l.length ≤ 1048576) (hB : w.cell? ⟨B, 0, none⟩ = some (.int .i64 n)) (hlt : B < w.heap.size) :
    Calls Tryz.prog 146 #[vl, .func (.func 113) #[] #[.pointer (some ⟨B, 0, none⟩)]] w (IxFound l n w) := by
  obtain ⟨al, cl, rfl, -⟩ := id hl.2
  have HV := Lib.hid hl
  have HBB := Lib.hid hB
  clear hl hB
  go_enter Tryz.func146, Tryz.ntmps146
  go_wp2_with fail
  go_loopw [8] (fun i wr => IxRel l n w i wr) (fun i _ => l.length - (intOf i).toNat)
  case atStart => exact ⟨0, by omega, rfl, fun j _ hj => absurd hj (by omega), Below.refl _ _⟩
  case round =>
    obtain ⟨k, hk, rfl, hseen, hb⟩ := hrel
    have HSEEN := Lib.hid hseen
    have HB := Lib.hid hb
    clear hseen hb
    by_cases hlk : k < l.length
    · obtain ⟨b, off, rfl, hbl, hcell⟩ := HV.out.get (by omega)
      have r0 : wr.cell? ⟨b, off + k * 4, none⟩ = some (.int .i64 l[k].1) := by rw [HB.out.cell (p := ⟨b, off + k * 4, none⟩) hbl, hcell (k * 4) (by omega), stpCs_0 l k hlk]
      have r1 : wr.cell? ⟨b, off + k * 4 + 1, none⟩ = some (.int .i64 l[k].2.1) := by rw [HB.out.cell (p := ⟨b, off + k * 4 + 1, none⟩) hbl, Nat.add_assoc, hcell (k * 4 + 1) (by omega), stpCs_1 l k hlk]
      have r2 : wr.cell? ⟨b, off + k * 4 + 2, none⟩ = some (.int .i64 l[k].2.2.1) := by rw [HB.out.cell (p := ⟨b, off + k * 4 + 2, none⟩) hbl, Nat.add_assoc, hcell (k * 4 + 2) (by omega), stpCs_2 l k hlk]
      have r3 : wr.cell? ⟨b, off + k * 4 + 3, none⟩ = some (.string l[k].2.2.2) := by rw [HB.out.cell (p := ⟨b, off + k * 4 + 3, none⟩) hbl, Nat.add_assoc, hcell (k * 4 + 3) (by omega), stpCs_3 l k hlk]
      have e0 : (k : Int) < (l.length : Int) := by omega
      have e1 : (0 : Int) ≤ (k : Int) := by omega
      have hsz := HB.out.size
      clear hcell
      go_wp2_with fail
      refine (wrong_fn l[k].1 l[k].2.1 l[k].2.2.1 n l[k].2.2.2 B _ ((HB.out.cell (p := ⟨B, 0, none⟩) hlt).trans HBB.out) (by omega)).mono ?_
      rintro e w2 ⟨rfl, hb2⟩
      have HB2 := Lib.hid (HB.out.trans (hb2.mono hsz))
      clear hb2
      obtain ⟨q, hq⟩ : ∃ q, wrongS n (l[k].1, l[k].2.1, l[k].2.2.1, l[k].2.2.2) = q := ⟨_, rfl⟩
      have hq' : wrongS n l[k] = q := hq
      rw [hq]
      have HQ := Lib.hid hq'
      clear hq hq'
      cases q with
      | true =>
        go_wp2_with fail
        go_ret
        exact ⟨k, rfl, ⟨fun _ => ⟨_, List.getElem_mem hlk, HQ.out⟩, fun _ => by omega⟩, by omega, by omega, HB2.out⟩
      | false =>
        go_wp2_with fail
        go_roundw
        case rel =>
          refine ⟨k + 1, by omega, by go_num, fun j h hj => ?_, HB2.out⟩
          by_cases hjk : j = k
          · subst hjk; exact HQ.out
          · exact HSEEN.out j h (by omega)
        case measure => simp [intOf]; omega
    · obtain rfl : k = l.length := by omega
      have d1 : decide ((l.length : Int) < (l.length : Int)) = false := decide_eq_false (by omega)
      go_wp2_with fail
      go_ret
      refine ⟨-1, rfl, ⟨fun h => by omega, fun ⟨a, ha, hbad⟩ => ?_⟩, by omega, by omega, HB.out⟩
      obtain ⟨j, hj, rfl⟩ := List.mem_iff_getElem.1 ha
      rw [HSEEN.out j hj hj] at hbad
      cases hbad
set_option maxHeartbeats 1000000 in
set_option maxRecDepth 100000 in
theorem containsS_any (vl : Value) (l : List stpT) (n : Int) (B : Nat) (w : World) (hl : Rd w vl l.length 4 (stpCs l)) (hn : l.length ≤ 1048576) (hB : w.cell? ⟨B, 0, none⟩ = some (.int .i64 n)) (hlt : B < w.heap.size) :
    Calls Tryz.prog 114 #[vl, .func (.func 113) #[] #[.pointer (some ⟨B, 0, none⟩)]] w fun e w' => ∃ b : Bool, e = .returned (.bool b) ∧ (b = true ↔ ∃ s ∈ l, wrongS n s = true) ∧ Below w.heap.size w w' := by
  obtain ⟨al, cl, rfl, -⟩ := id hl.2
  have HV := Lib.hid hl
  have HBB := Lib.hid hB
  clear hl hB
  go_enter Tryz.func114, Tryz.ntmps114
  go_wp2_with fail
  refine (indexS_any _ l n B w HV.out hn HBB.out hlt).mono ?_
  rintro e w1 ⟨r, rfl, hiff, h0, h1, hb⟩
  have HI := Lib.hid hiff
  have HB := Lib.hid hb
  clear hiff hb
  by_cases hr : 0 ≤ r
  · have d0 : decide ((0 : Int) ≤ r) = true := decide_eq_true hr
    go_wp2_with fail
    go_ret
    exact ⟨true, rfl, ⟨fun _ => HI.out.1 hr, fun _ => rfl⟩, HB.out⟩
  · have d0 : decide ((0 : Int) ≤ r) = false := decide_eq_false hr
    go_wp2_with fail
    go_ret
    exact ⟨false, rfl, ⟨fun h => absurd h (by simp), fun h => absurd (HI.out.2 h) (by omega)⟩, HB.out⟩


theorem assert1 (v : Value) (w : World) : (Instr.typeAssert (.iface 151 v) 111 114 true).run Tryz.prog w = .ok (.tuple #[.agg #[.int .i64 0], .bool false]) w := by kernel_rfl
theorem assert2 (v : Value) (w : World) : (Instr.typeAssert (.iface 153 v) 111 114 true).run Tryz.prog w = .ok (.tuple #[.agg #[.int .i64 0], .bool false]) w := by kernel_rfl
theorem assert3 (v : Value) (w : World) : (Instr.typeAssert (.iface 155 v) 111 114 true).run Tryz.prog w = .ok (.tuple #[.agg #[.int .i64 0], .bool false]) w := by kernel_rfl
theorem assert4 (v : Value) (w : World) : (Instr.typeAssert (.iface 157 v) 111 114 true).run Tryz.prog w = .ok (.tuple #[.agg #[.int .i64 0], .bool false]) w := by kernel_rfl
theorem assert5 (v : Value) (w : World) : (Instr.typeAssert (.iface 114 v) 111 114 true).run Tryz.prog w = .ok (.tuple #[v, .bool true]) w := by kernel_rfl
/-- The operation of a writing step: it is no label. -/
theorem op_write (k t f : Int) (d : ByteArray) (h1 : 1 ≤ k) (h4 : k ≤ 4) : ∃ T v, (∀ w, Calls Tryz.prog 86 #[.agg #[.int .i64 k, .int .i64 t, .int .i64 f, .string d]] w fun e w' => e = .returned (.iface T v) ∧ Below w.heap.size w w') ∧
    ∀ w, (Instr.typeAssert (.iface T v) 111 114 true).run Tryz.prog w = .ok (.tuple #[.agg #[.int .i64 0], .bool false]) w := by
  have h : k = 1 ∨ k = 2 ∨ k = 3 ∨ k = 4 := by omega
  rcases h with rfl | rfl | rfl | rfl
  · exact ⟨_, _, op1 t f d, assert1 _⟩
  · exact ⟨_, _, op2 t f d, assert2 _⟩
  · exact ⟨_, _, op3 t f d, assert3 _⟩
  · exact ⟨_, _, op4 t f d, assert4 _⟩

/-- The code so far. -/
def LowC (l : List stpT) (k : Nat) (c : Int) : Prop := (c = 0 ∧ ¬ Low l k) ∨ (c = 8 ∧ Low l k)
def CfRel (l : List stpT) (w : World) (c x i : Value) (wr : World) : Prop :=
  ∃ (k : Nat) (q : Int), k ≤ l.length ∧ i = .int .i64 k ∧ c = .int .i64 q ∧ LowC l k q ∧ x = .int .i64 (lastT l k) ∧ Apart l k ∧ CellsAt wr w.heap.size 190 8 (fun b => .bool (wroteB l k b)) ∧ Below w.heap.size w wr
def Cf (l : List stpT) (R : Int) : Prop := (R = 12 ∧ Twice l) ∨ (R = 8 ∧ ¬ Twice l ∧ Low l l.length) ∨ (R = 0 ∧ ¬ Twice l ∧ ¬ Low l l.length)
theorem made8 {w : World} (l : List stpT) : CellsAt (w.alloc (.cells #[.bool false, .bool false, .bool false, .bool false, .bool false, .bool false, .bool false, .bool false] 190)) w.heap.size 190 8 (fun b => .bool (wroteB l 0 b)) :=
  cellsAt_new w w.heap.size 8 _ _ rfl (by simp only [wroteB_zero]; rfl)
set_option maxHeartbeats 2000000 in
set_option maxRecDepth 100000 in
theorem conflict_any (vl : Value) (l : List stpT) (n : Int) (w : World) (hl : Rd w vl l.length 4 (stpCs l)) (hn : l.length ≤ 20) (hv : ∀ s ∈ l, wrongS n s = false) :
    Calls Tryz.prog 115 #[vl] w fun e w' => ∃ R : Int, e = .returned (.int .i64 R) ∧ Cf l R ∧ Below w.heap.size w w' := by
  obtain ⟨al, cl, rfl, -⟩ := id hl.2
  have HV := Lib.hid hl
  have HW := Lib.hid hv
  clear hl hv
  go_enter Tryz.func115, Tryz.ntmps115
  go_wp2_with fail
  go_loopw [3, 4, 12] (fun c x i wr => CfRel l w c x i wr) (fun _ _ i _ => l.length - (intOf i).toNat)
  case atStart => exact ⟨0, 0, by omega, rfl, rfl, .inl ⟨rfl, fun ⟨j, hj, _⟩ => absurd hj (by omega)⟩, rfl, fun i j hi _ => absurd hi (by omega), made8 l, below_alloc1 w _⟩
  case round =>
    obtain ⟨k, q, hk, rfl, rfl, hlow, rfl, hap, hcs, hb⟩ := hrel
    have HL := Lib.hid hlow
    have AP := Lib.hid hap
    have CS := Lib.hid hcs
    have HB := Lib.hid hb
    have hsz := hb.size
    have hgl := hcs.lt
    clear hlow hap hcs
    by_cases hlt : k < l.length
    · obtain ⟨b, off, rfl, hbl, hcell⟩ := HV.out.get (by omega)
      have r0 : wr.cell? ⟨b, off + k * 4, none⟩ = some (.int .i64 l[k].1) := by rw [hb.cell (p := ⟨b, off + k * 4, none⟩) hbl, hcell (k * 4) (by omega), stpCs_0 l k hlt]
      have r1 : wr.cell? ⟨b, off + k * 4 + 1, none⟩ = some (.int .i64 l[k].2.1) := by rw [hb.cell (p := ⟨b, off + k * 4 + 1, none⟩) hbl, Nat.add_assoc, hcell (k * 4 + 1) (by omega), stpCs_1 l k hlt]
      have r2 : wr.cell? ⟨b, off + k * 4 + 2, none⟩ = some (.int .i64 l[k].2.2.1) := by rw [hb.cell (p := ⟨b, off + k * 4 + 2, none⟩) hbl, Nat.add_assoc, hcell (k * 4 + 2) (by omega), stpCs_2 l k hlt]
      have r3 : wr.cell? ⟨b, off + k * 4 + 3, none⟩ = some (.string l[k].2.2.2) := by rw [hb.cell (p := ⟨b, off + k * 4 + 3, none⟩) hbl, Nat.add_assoc, hcell (k * 4 + 3) (by omega), stpCs_3 l k hlt]
      have e0 : (k : Int) < (l.length : Int) := by omega
      have e1 : (0 : Int) ≤ (k : Int) := by omega
      have hok := HW.out l[k] (List.getElem_mem hlt)
      unfold wrongS at hok
      simp only [Bool.not_eq_false'] at hok
      have hok2 := (stepB_iff ..).1 hok
      have XB := Lib.hid (bx_new wr 48 #[.int .i64 l[k].1, .int .i64 l[k].2.1, .int .i64 l[k].2.2.1, .string l[k].2.2.2])
      have B1 := Lib.hid (below_alloc1 wr (.cells #[.int .i64 l[k].1, .int .i64 l[k].2.1, .int .i64 l[k].2.2.1, .string l[k].2.2.2] 48))
      clear hcell hb hok
      by_cases h5 : l[k].1 = 5
      · have LY := Lib.hid (lastT_yes hlt h5)
        have LA := Lib.hid (show LowAt l k ↔ l[k].2.2.1 ≤ lastT l k from ⟨fun ⟨_, _, r⟩ => r, fun r => ⟨hlt, h5, r⟩⟩)
        have WS := Lib.hid (fun b => wroteB_label hlt h5 b)
        have NP := Lib.hid (show ∀ j, j < k → ¬ Pair l k j from fun j _ h => h.2.2.1 h5)
        rw [h5] at r0 XB B1
        clear h5 hok2
        obtain ⟨x, hx⟩ : ∃ x, x = l[k] := ⟨_, rfl⟩
        rw [← hx] at r1 r2 r3 XB B1 LY LA
        clear hx
        have a5 := assert5
        go_wp2_with fail
        refine (op5 _ _ _ _).mono ?_
        rintro e w2 ⟨rfl, hb2⟩
        have B2 := Lib.hid (below_nx B1.out hb2)
        have hs2 := hb2.size
        clear hb2 r0 r1 r2 r3 XB B1
        by_cases hle : x.2.2.1 ≤ lastT l k
        · have dl : decide (x.2.2.1 ≤ lastT l k) = true := decide_eq_true hle
          have NL := Lib.hid (show LowC l (k + 1) 8 from .inr ⟨rfl, low_yes (LA.out.2 hle)⟩)
          clear hle LA
          generalize lastT l k = z2 at *
          go_wp2_with fail
          go_roundw
          case rel => exact ⟨k + 1, 8, by omega, by go_num, rfl, NL.out, by rw [LY.out], AP.out.next NP.out, by simp only [WS.out]; exact CS.out.below (B2.out.trans ((below_alloc1 w2 _).mono B2.out.size)) hgl, below_nx HB.out (B2.out.trans ((below_alloc1 w2 _).mono B2.out.size))⟩
          case measure => simp [intOf]; omega
        · have dl : decide (x.2.2.1 ≤ lastT l k) = false := decide_eq_false hle
          have NL := Lib.hid (show LowC l (k + 1) q from by
            rcases HL.out with ⟨rfl, h⟩ | ⟨rfl, h⟩
            · exact .inl ⟨rfl, fun h' => h ((low_no (fun h'' => hle (LA.out.1 h''))).1 h')⟩
            · exact .inr ⟨rfl, h.more⟩)
          clear hle LA
          generalize lastT l k = z2 at *
          go_wp2_with fail
          go_roundw
          case rel => exact ⟨k + 1, q, by omega, by go_num, rfl, NL.out, by rw [LY.out], AP.out.next NP.out, by simp only [WS.out]; exact CS.out.below (B2.out.trans ((below_alloc1 w2 _).mono B2.out.size)) hgl, below_nx HB.out (B2.out.trans ((below_alloc1 w2 _).mono B2.out.size))⟩
          case measure => simp [intOf]; omega
      · have LY := Lib.hid (lastT_no hlt h5)
        have NL := Lib.hid (show LowC l (k + 1) q from by
          rcases HL.out with ⟨rfl, h⟩ | ⟨rfl, h⟩
          · exact .inl ⟨rfl, fun h' => h ((low_no (fun h'' => h5 h''.2.1)).1 h')⟩
          · exact .inr ⟨rfl, h.more⟩)
        have hk14 : (1 ≤ l[k].1 ∧ l[k].1 ≤ 4) ∧ 0 ≤ l[k].2.1 ∧ l[k].2.1 < 8 := by
          obtain ⟨hn8, h | h | h | h | h⟩ := hok2
          · have := (inB_iff _ _).1 h.2.1; omega
          · have := (inB_iff _ _).1 h.2.1; omega
          · have := (inB_iff _ _).1 h.2.1; omega
          · have := (inB_iff _ _).1 h.2.1; omega
          · exact absurd h.1 h5
        obtain ⟨⟨q1, q4⟩, t0, t7⟩ := hk14
        obtain ⟨T, v, hop, has⟩ := op_write l[k].1 l[k].2.1 l[k].2.2.1 l[k].2.2.2 q1 q4
        obtain ⟨bb, hbb⟩ : ∃ bb : Nat, l[k].2.1 = (bb : Int) := ⟨l[k].2.1.toNat, by omega⟩
        have H5 := Lib.hid h5
        have HBB := Lib.hid hbb
        have HOP := Lib.hid hop
        have hbb8 : bb < 8 := by omega
        have f0 : (0 : Int) ≤ (bb : Int) := by omega
        have f1 : (bb : Int) < 8 := by omega
        rw [hbb] at r1 XB B1 HOP
        clear h5 hok2 hbb hop q1 q4 t0 t7
        go_wp2_with fail
        refine (HOP.out _).mono ?_
        rintro e w2 ⟨rfl, hb2⟩
        have B2 := Lib.hid (below_nx B1.out hb2)
        have hs2 := B2.out.size
        have hx1 := (XB.out.next hb2).q1
        have C2 := Lib.hid (CS.out.below B2.out hgl)
        have hc := C2.out.cell bb hbb8
        have hfz := C2.out.frozen bb
        clear hb2 r0 r1 r2 r3 XB B1
        cases hw : wroteB l k bb with
        | true =>
          have TW := Lib.hid (wrote_pair hlt H5.out HBB.out hw)
          rw [hw] at hc
          clear hw
          go_wp2_with fail
          go_ret
          exact ⟨12, rfl, .inl ⟨rfl, TW.out⟩, below_nx HB.out B2.out⟩
        | false =>
          have NP := Lib.hid (wrote_apart hlt HBB.out hw)
          rw [hw] at hc
          clear hw
          generalize lastT l k = z2 at *
          go_wp2_with fail
          go_roundw
          case rel =>
            refine ⟨k + 1, q, by omega, by go_num, rfl, NL.out, by rw [LY.out], AP.out.next NP.out, ?_, ?_⟩
            · refine C2.out.set bb _ (by rw [wroteB_same hlt H5.out HBB.out]) (fun i hi => by rw [wroteB_other hlt HBB.out hi])
            · exact (below_nx HB.out B2.out).setCell (p := ⟨w.heap.size, bb, none⟩) (Nat.le_refl _) _
          case measure => simp [intOf]; omega
    · obtain rfl : k = l.length := by omega
      have NT := Lib.hid (apart_all AP.out)
      clear hb
      go_wp2_with fail
      go_ret
      rcases HL.out with ⟨rfl, h⟩ | ⟨rfl, h⟩
      · exact ⟨0, rfl, .inr (.inr ⟨rfl, NT.out, h⟩), HB.out⟩
      · exact ⟨8, rfl, .inr (.inl ⟨rfl, NT.out, h⟩), HB.out⟩

set_option maxRecDepth 100000 in
set_option maxHeartbeats 2000000 in
theorem implCode (v : Value) (l : List stpT) (n : Int) (w : World) (h : Rd w v l.length 4 (stpCs l)) (hn : l.length ≤ 1048576) :
    Calls Tryz.prog 67 #[v, .int .i64 n] w fun e w' => e = .returned (.int .i64 (codeS l n)) ∧ Below w.heap.size w w' := by
  obtain ⟨R, hR⟩ : ∃ R, R = codeS l n := ⟨_, rfl⟩
  rw [← hR]
  have HR := Lib.hid hR
  clear hR
  obtain ⟨a, c, rfl, -⟩ := id h.2
  have HV := Lib.hid h
  have HB := Lib.hid (below_alloc1 w (.cells #[.int .i64 n] 2))
  have HX := Lib.hid (bx_new w 2 #[.int .i64 n])
  clear h
  by_cases hnn : 1 ≤ n ∧ n ≤ 8
  rotate_left
  · have hr : R = 1 := by rw [HR.out]; exact codeS_form (.inl hnn)
    subst hr
    have HN := Lib.hid hnn
    clear HR hnn
    go_enter Tryz.func67, Tryz.ntmps67
    go_wp2_with fail
    refine (isCount_no _ _ HN.out).mono ?_
    rintro e w1 ⟨rfl, rfl⟩
    go_wp2_with fail
    go_ret
    exact ⟨rfl, HB.out⟩
  obtain ⟨n0, n1⟩ := hnn
  by_cases hbig : 20 < l.length
  · have hr : R = 1 := by rw [HR.out]; exact codeS_form (.inr (.inl hbig))
    subst hr
    have d0 : decide ((20 : Int) < (l.length : Int)) = true := decide_eq_true (by omega)
    clear HR
    go_enter Tryz.func67, Tryz.ntmps67
    go_wp2_with fail
    refine (isCount_yes _ _ n0 n1).mono ?_
    rintro e w1 ⟨rfl, rfl⟩
    go_wp2_with fail
    go_ret
    exact ⟨rfl, HB.out⟩
  have d0 : decide ((20 : Int) < (l.length : Int)) = false := decide_eq_false (by omega)
  go_enter Tryz.func67, Tryz.ntmps67
  go_wp2_with fail
  refine (isCount_yes _ _ n0 n1).mono ?_
  rintro e w1 ⟨rfl, rfl⟩
  go_wp2_with fail
  refine (containsS_any _ l n w.heap.size _ (HV.out.below HB.out (Nat.le_refl _)) (by omega) (HX.out.cell 0) (by simp)).mono ?_
  rintro e w2 ⟨b, rfl, hiff, hb2⟩
  have HB2 := Lib.hid (below_nx HB.out hb2)
  have HI := Lib.hid hiff
  clear hb2 hiff
  cases b with
  | true =>
    have hr : R = 1 := by rw [HR.out]; exact codeS_form (.inr (.inr (HI.out.1 rfl)))
    subst hr
    clear HR
    go_wp2_with fail
    go_ret
    exact ⟨rfl, HB2.out⟩
  | false =>
    have NF := Lib.hid (show ¬ FormBad l n from by
      rintro (h | h | h)
      · exact h ⟨n0, n1⟩
      · omega
      · have := HI.out.2 h; cases this)
    have HW := Lib.hid (show ∀ s ∈ l, wrongS n s = false from fun s hs => by
      cases h : wrongS n s with
      | false => rfl
      | true => have := HI.out.2 ⟨s, hs, h⟩; cases this)
    go_wp2_with fail
    refine (conflict_any _ l n _ (HV.out.below HB2.out (Nat.le_refl _)) (by omega) HW.out).mono ?_
    rintro e w3 ⟨r, rfl, hcf, hb3⟩
    have HB3 := Lib.hid (below_nx HB2.out hb3)
    have hr : R = r := by
      rw [HR.out]
      rcases hcf with ⟨rfl, h⟩ | ⟨rfl, h, h'⟩ | ⟨rfl, h, h'⟩
      · exact codeS_twice NF.out h
      · exact codeS_low NF.out h h'
      · exact codeS_ok NF.out h h'
    subst hr
    clear hcf hb3 HR
    go_wp2_with fail
    go_ret
    exact ⟨rfl, HB3.out⟩
end Go.Proofs.YthkbllkhomjmbaaGreatDoor

namespace Go.Proofs.YthkbllkhomjmbaaGreatDoor
open Go.RowKit

def KsRel (l : List stpT) (w : World) (n i : Value) (wr : World) : Prop := ∃ k : Nat, k ≤ l.length ∧ i = .int .i64 k ∧ n = .int .i64 (keptN l k : Int) ∧ wr = w
def KiRel (l : List stpT) (w : World) (n : Value) (wr : World) : Prop := ∃ k : Nat, k ≤ l.length ∧ n = .int .i64 k ∧ keptN l k = keptN l l.length ∧ Below w.heap.size w wr

set_option maxRecDepth 100000 in
set_option maxHeartbeats 2000000 in
theorem specKept (v : Value) (l : List stpT) (w : World) (h : Rd w v l.length 4 (stpCs l)) (hn : l.length ≤ 1048576) :
    Calls Tryz.prog 34 #[v] w fun e w' => e = .returned (.int .i64 (keptS l : Int)) ∧ Below w.heap.size w w' := by
  obtain ⟨a, c, rfl, -⟩ := id h.2
  have HV := Lib.hid h
  clear h
  obtain ⟨R, hR⟩ : ∃ R : Int, R = (keptS l : Int) := ⟨_, rfl⟩
  rw [← hR]
  unfold keptS at hR
  by_cases hbig : l.length ≤ 20
  rotate_left
  · rw [if_neg hbig] at hR
    have HR := Lib.hid hR
    clear hR
    have d0 : decide ((l.length : Int) ≤ 20) = false := decide_eq_false (by omega)
    go_enter Tryz.func34, Tryz.ntmps34
    go_wp2_with fail
    refine wp_loop_rounds 1 ?_
    rw [rounds_succ]
    go_wp2_with fail
    go_ret
    exact ⟨by rw [HR.out]; rfl, Below.refl _ _⟩
  rw [if_pos hbig] at hR
  have HR := Lib.hid hR
  clear hR
  have d9 : decide ((l.length : Int) ≤ 20) = true := decide_eq_true (by omega)
  go_enter Tryz.func34, Tryz.ntmps34
  go_wp2_with fail
  go_loopw [3, 4] (fun n i wr => KsRel l w n i wr) (fun _ i _ => l.length - (intOf i).toNat)
  case atStart => exact ⟨0, Nat.zero_le _, rfl, rfl, rfl⟩
  case round =>
    obtain ⟨k, hk, rfl, rfl, rfl⟩ := hrel
    by_cases hlt : k < l.length
    · obtain ⟨b, off, rfl, hbl, hcell⟩ := HV.out.get (by omega)
      have r0 : wr.cell? ⟨b, off + k * 4, none⟩ = some (.int .i64 l[k].1) := by rw [hcell (k * 4) (by omega), stpCs_0 l k hlt]
      have e0 : (k : Int) < (l.length : Int) := by omega
      have e1 : (0 : Int) ≤ (k : Int) := by omega
      clear hcell
      by_cases h5 : l[k].1 = 5
      · have HX := Lib.hid (keptN_yes hlt h5)
        rw [h5] at r0
        clear h5
        go_wp2_with fail
        go_roundw
        case rel => exact ⟨k + 1, by omega, by go_num, by rw [HX.out]; go_num, rfl⟩
        case measure => simp [intOf]; omega
      · have HX := Lib.hid (keptN_no hlt h5)
        have d5 : (l[k].1 == 5) = false := by simpa using h5
        clear h5
        generalize l[k].1 = x at *
        go_wp2_with fail
        go_roundw
        case rel => exact ⟨k + 1, by omega, by go_num, by rw [HX.out], rfl⟩
        case measure => simp [intOf]; omega
    · obtain rfl : k = l.length := by omega
      go_wp2_with fail
      go_ret
      exact ⟨by rw [HR.out]; rfl, Below.refl _ _⟩

theorem assert0 (w : World) : (Instr.typeAssert .nilIface 111 114 true).run Tryz.prog w = .ok (.tuple #[.agg #[.int .i64 0], .bool false]) w := by kernel_rfl
/-- The operation of a step that is no label: there may be none. -/
theorem op_other (k t f : Int) (d : ByteArray) (h : k ≠ 5) : ∃ v, (∀ w, Calls Tryz.prog 86 #[.agg #[.int .i64 k, .int .i64 t, .int .i64 f, .string d]] w fun e w' => e = .returned v ∧ Below w.heap.size w w') ∧
    ∀ w, (Instr.typeAssert v 111 114 true).run Tryz.prog w = .ok (.tuple #[.agg #[.int .i64 0], .bool false]) w := by
  by_cases h1 : 1 ≤ k ∧ k ≤ 4
  · obtain ⟨T, v, a, b⟩ := op_write k t f d h1.1 h1.2
    exact ⟨_, a, b⟩
  · exact ⟨_, fun w => op0 k t f d w (by omega) (by omega) (by omega) (by omega) h, assert0⟩

set_option maxRecDepth 100000 in
set_option maxHeartbeats 2000000 in
theorem implKept (v : Value) (l : List stpT) (w : World) (h : Rd w v l.length 4 (stpCs l)) (hn : l.length ≤ 1048576) :
    Calls Tryz.prog 33 #[v] w fun e w' => e = .returned (.int .i64 (keptS l : Int)) ∧ Below w.heap.size w w' := by
  obtain ⟨a, c, rfl, -⟩ := id h.2
  have HV := Lib.hid h
  clear h
  obtain ⟨R, hR⟩ : ∃ R : Int, R = (keptS l : Int) := ⟨_, rfl⟩
  rw [← hR]
  unfold keptS at hR
  by_cases hbig : l.length ≤ 20
  rotate_left
  · rw [if_neg hbig] at hR
    have HR := Lib.hid hR
    clear hR
    have d0 : decide ((20 : Int) < (l.length : Int)) = true := decide_eq_true (by omega)
    go_enter Tryz.func33, Tryz.ntmps33
    go_wp2_with fail
    refine wp_scope_jumps 0 (fun _ _ => False) (fun _ _ => 0) rfl ?_ (fun _ _ h => h.elim)
    go_wp2_with fail
    simp only [Exit.jump]
    go_ret
    exact ⟨by rw [HR.out]; rfl, Below.refl _ _⟩
  rw [if_pos hbig] at hR
  have HR := Lib.hid hR
  clear hR
  have d9 : decide ((20 : Int) < (l.length : Int)) = false := decide_eq_false (by omega)
  have a5 := assert5
  go_enter Tryz.func33, Tryz.ntmps33
  go_wp2_with fail
  refine wp_scope_jumps 0 (fun _ _ => False) (fun _ _ => 0) rfl ?_ (fun _ _ h => h.elim)
  go_wp2_with fail
  go_step3
  rename_i K0 hK0
  refine hK0 _ _ ?_
  clear hK0
  go_wp2_with fail
  go_loopw [3] (fun n wr => KiRel l w n wr) (fun n _ => (intOf n).toNat)
  case atStart => exact ⟨l.length, Nat.le_refl _, rfl, rfl, Below.refl _ _⟩
  case round =>
    obtain ⟨k', hk, rfl, hkn, hb⟩ := hrel
    match k', hk, hkn with
    | 0, hk, hkn =>
      have HK := Lib.hid hkn
      have HB := Lib.hid hb
      clear hb hkn
      go_wp2_with fail
      simp only [Exit.jump]
      go_ret
      exact ⟨by rw [HR.out, ← HK.out]; rfl, HB.out⟩
    | k + 1, hk, hkn =>
      have hlt : k < l.length := by omega
      obtain ⟨b, off, rfl, hbl, hcell⟩ := HV.out.get (by omega)
      have r0 : wr.cell? ⟨b, off + k * 4, none⟩ = some (.int .i64 l[k].1) := by rw [hb.cell (p := ⟨b, off + k * 4, none⟩) hbl, hcell (k * 4) (by omega), stpCs_0 l k hlt]
      have r1 : wr.cell? ⟨b, off + k * 4 + 1, none⟩ = some (.int .i64 l[k].2.1) := by rw [hb.cell (p := ⟨b, off + k * 4 + 1, none⟩) hbl, Nat.add_assoc, hcell (k * 4 + 1) (by omega), stpCs_1 l k hlt]
      have r2 : wr.cell? ⟨b, off + k * 4 + 2, none⟩ = some (.int .i64 l[k].2.2.1) := by rw [hb.cell (p := ⟨b, off + k * 4 + 2, none⟩) hbl, Nat.add_assoc, hcell (k * 4 + 2) (by omega), stpCs_2 l k hlt]
      have r3 : wr.cell? ⟨b, off + k * 4 + 3, none⟩ = some (.string l[k].2.2.2) := by rw [hb.cell (p := ⟨b, off + k * 4 + 3, none⟩) hbl, Nat.add_assoc, hcell (k * 4 + 3) (by omega), stpCs_3 l k hlt]
      have e0 : decide ((0 : Int) < ((k + 1 : Nat) : Int)) = true := decide_eq_true (by omega)
      have e1 : (0 : Int) ≤ (k : Int) := by omega
      have e2 : (k : Int) < (l.length : Int) := by omega
      have e3 : IntKind.i64.wrap (((k + 1 : Nat) : Int) - 1) = (k : Int) := by rw [IntWalk.i64_in _ (by omega)]; omega
      have e4 : wrap64 (((k + 1 : Nat) : Int) - 1) = (k : Int) := by rw [IntWalk.wrap64_in _ (by omega)]; omega
      have HB := Lib.hid hb
      clear hcell hb
      obtain ⟨kk, hkk⟩ : ∃ kk : Int, kk = ((k + 1 : Nat) : Int) := ⟨_, rfl⟩
      have HKK := Lib.hid hkk
      rw [← hkk] at e0 e3 e4 ⊢
      clear hkk
      by_cases h5 : l[k].1 = 5
      · have HX := Lib.hid ((keptN_yes hlt h5).symm.trans hkn)
        rw [h5] at r0
        clear h5 hkn
        generalize l[k] = x at *
        go_wp2_with fail
        refine (op5 _ _ _ _).mono ?_
        rintro e w2 ⟨rfl, hb2⟩
        have B2 := Lib.hid (below_nx HB.out hb2)
        clear hb2 r0 r1 r2 r3
        go_wp2_with fail
        simp only [Exit.jump]
        go_ret
        exact ⟨by rw [HR.out, ← HX.out, HKK.out]; rfl, B2.out⟩
      · have HX := Lib.hid ((keptN_no hlt h5).symm.trans hkn)
        obtain ⟨v, hop, has⟩ := op_other l[k].1 l[k].2.1 l[k].2.2.1 l[k].2.2.2 h5
        have HOP := Lib.hid hop
        clear h5 hkn hop
        generalize l[k] = x at *
        go_wp2_with fail
        refine (HOP.out _).mono ?_
        rintro e w2 ⟨rfl, hb2⟩
        have B2 := Lib.hid (below_nx HB.out hb2)
        clear hb2 r0 r1 r2 r3 HOP
        go_wp2_with fail
        go_roundw
        case rel => exact ⟨k, by omega, rfl, HX.out, B2.out⟩
        case measure => have := HKK.out; simp [intOf]; omega
end Go.Proofs.YthkbllkhomjmbaaGreatDoor

namespace Go.Proofs.YthkbllkhomjmbaaGreatDoor
open Go.RowKit

def FitZ (l : List ByteArray) : Prop := ∀ s ∈ l, s.size ≤ maxLen
theorem cz_end : True := trivial
end Go.Proofs.YthkbllkhomjmbaaGreatDoor

namespace Go.Proofs.YthkbllkhomjmbaaGreatDoor
open Go.RowKit

/-- A slice of the call's own whose block lies from lo on and below hi. -/
structure Ob (w : World) (lo hi : Nat) (v : Value) (n sz : Nat) (xs : List Value) : Prop where
  own : Own w lo v n sz xs
  top : ∀ k, blk v n = some k → k < hi
section
variable {w w' : World} {lo hi n sz : Nat} {v : Value} {xs ys : List Value}
theorem Ob.new (h : Own w' w.heap.size v n sz xs) : Ob w' w.heap.size w'.heap.size v n sz xs := ⟨h, fun k hk => (h.blk k hk).2⟩
theorem Ob.below {B : Nat} (h : Ob w lo hi v n sz xs) (hb : Below B w w') (hB : w.heap.size ≤ B) : Ob w' lo hi v n sz xs := ⟨h.own.below hb hB, h.top⟩
theorem Ob.rd (h : Ob w lo hi v n sz xs) : Rd w v n sz xs := h.own.rd
theorem Ob.range (h : Ob w lo hi v n sz xs) : ∀ k, blk v n = some k → lo ≤ k ∧ k < hi := fun k hk => ⟨(h.own.blk k hk).1, h.top k hk⟩
theorem Ob.marked (h : Ob w lo hi v n sz xs) (h' : Own w' lo v n sz ys) : Ob w' lo hi v n sz ys := ⟨h', h.top⟩
theorem Ob.grown {lo2 hi2 m : Nat} {u : Value} (h : Ob w lo hi v n sz xs) (hg : w.grownBy w' (blk u m)) (hu : ∀ k, blk u m = some k → lo2 ≤ k ∧ k < hi2) (hd : hi ≤ lo2 ∨ hi2 ≤ lo) : Ob w' lo hi v n sz xs :=
  ⟨h.own.two (two_left (d := none) hg) (fun k hk => ⟨fun e => by
    have h1 := h.range k hk
    have h2 := hu k e.symm
    omega, by simp⟩), h.top⟩
theorem grown_below {lo2 hi2 m : Nat} {u : Value} (hg : w.grownBy w' (blk u m)) (hu : ∀ k, blk u m = some k → lo2 ≤ k ∧ k < hi2) (hl : lo2 ≤ w.heap.size) : Below lo2 w w' :=
  ⟨hg.os, hg.tape, hg.output, hg.size, fun k hk => hg.block k (by omega) (fun e => by have := hu k e.symm; omega)⟩
theorem Bx.mark {lo2 hi2 m b : Nat} {T : TypeId} {vs : Array Value} {u : Value} (h : Bx w b T vs) (hg : w.grownBy w' (blk u m)) (hu : ∀ k, blk u m = some k → lo2 ≤ k ∧ k < hi2) (hd : b < lo2 ∨ hi2 ≤ b) : Bx w' b T vs :=
  h.grown hg (fun e => by have := hu b e.symm; omega)
end
end Go.Proofs.YthkbllkhomjmbaaGreatDoor

namespace Go.Proofs.YthkbllkhomjmbaaGreatDoor
open Go.RowKit Go.Shelf
attribute [local go_sem] Oper.semAt_some

/-- An answer of Scan. -/
def MadeC (R : List stpT × Int) (w : World) (e : Ending) (w' : World) : Prop := ∃ v, e = .returned (.agg #[v, .int .i64 R.2]) ∧ Own w' w.heap.size v R.1.length 4 (stpCs R.1) ∧ Below w.heap.size w w'
def ScRel (l : List ByteArray) (w : World) (v i : Value) (wr : World) : Prop :=
  ∃ (k : Nat) (pre : List stpT), k ≤ l.length ∧ pre.length = k ∧ i = .int .i64 k ∧ scanF l 0 = pre ++ scanF (l.drop k) k ∧ Gr wr w.heap.size 48 4 v pre.length (stpCs pre) ∧ Below w.heap.size w wr

set_option maxRecDepth 100000 in
set_option maxHeartbeats 2000000 in
theorem specL09 (v : Value) (l : List ByteArray) (w : World) (h : Rd w v l.length 1 (strs l)) (hn : l.length ≤ 1048576) (hz : FitZ l) :
    Calls Tryz.prog 83 #[v] w (MadeS w (scanF l 0)) := by
  obtain ⟨i0, hi, hz0, hz1, hz2⟩ := info_parts Tryz.infostp
  obtain ⟨a, c, rfl, -⟩ := id h.2
  have HV := Lib.hid h
  have HF := Lib.hid hz
  clear h hz
  obtain ⟨R, hR⟩ : ∃ R, R = scanF l 0 := ⟨_, rfl⟩
  rw [← hR]
  have HR := Lib.hid hR
  clear hR
  go_enter Tryz.func83, Tryz.ntmps83
  go_wp2_with fail
  go_loopw [3, 4] (fun lv i wr => ScRel l w lv i wr) (fun _ i _ => l.length - (intOf i).toNat)
  case atStart => exact ⟨0, [], Nat.zero_le _, rfl, rfl, by simp, .inr ⟨rfl, rfl, .inr ⟨_, rfl⟩⟩, below_alloc1 w _⟩
  case round =>
    obtain ⟨k, pre, hk, hpl, rfl, hsc, hg, hb⟩ := hrel
    rw [hpl] at hg
    obtain ⟨a3, c3, rfl⟩ := gr_form hg
    have HPL := Lib.hid hpl
    have HG := Lib.hid hg
    have HB := Lib.hid hb
    have HSC := Lib.hid hsc
    have hsz := hb.size
    clear hpl hsc
    by_cases hlt : k < l.length
    · obtain ⟨b, off, rfl, hbl, hcell⟩ := HV.out.get (by omega)
      have r0 : wr.cell? ⟨b, off + k, none⟩ = some (.string l[k]) := by rw [hb.cell (p := ⟨b, off + k, none⟩) hbl, hcell k (by omega), strs_at l k hlt]
      have e0 : (k : Int) < (l.length : Int) := by omega
      have e1 : (0 : Int) ≤ (k : Int) := by omega
      have HRR := Lib.hid (fun w => specRecRead l[k] (k : Int) w (HF.out _ (List.getElem_mem hlt)))
      have GO := Lib.hid (scanF_go HSC.out hlt)
      have ST := Lib.hid (scanF_stop HSC.out hlt)
      have hbl2 : ∀ b, blk (.slice a3 k c3) k = some b → w.heap.size ≤ b := fun b hb => by
        have := (HG.out.own.blk b hb).1; exact this
      have HBL := Lib.hid hbl2
      clear hcell hb hg hbl2
      obtain ⟨X, hX⟩ : ∃ X, X = recRd l[k] (k : Int) := ⟨_, rfl⟩
      rw [← hX] at HRR GO ST
      clear hX
      obtain ⟨⟨sk, st, sf, sd⟩, sc⟩ := X
      unfold soV at HRR
      dsimp only at HRR GO ST
      generalize l[k] = x at *
      go_wp2_with fail
      refine (HRR.out _).mono ?_
      rintro e w2 ⟨rfl, hb2⟩
      have bz := below_alloc1 w2 (.cells #[.int .i64 sk, .int .i64 st, .int .i64 sf, .string sd, .int .i64 sc] 55)
      have z2 := size_alloc1 w2 (.cells #[.int .i64 sk, .int .i64 st, .int .i64 sf, .string sd, .int .i64 sc] 55)
      have hbb := below_more hb2 bz
      have hs2 := hb2.size
      have XX := Lib.hid (bx_new w2 55 #[.int .i64 sk, .int .i64 st, .int .i64 sf, .string sd, .int .i64 sc])
      have B2 := Lib.hid (below_nx HB.out hbb)
      have G2 := Lib.hid (HG.out.below hbb (Nat.le_refl _))
      clear hb2 bz hbb HRR r0
      obtain ⟨x0, x1, x2, x3, x4⟩ := XX.out.s0
      by_cases hc : sc = 0
      · subst hc
        replace GO := Lib.hid (GO.out (by first | rfl | trivial))
        clear ST
        go_wp2_with ((with_reducible show wpList _ _ _ (⟨some 26, _, _, _, _, _⟩ :: _) _ _); refine wpList_append_gr (lo := w.heap.size) (e := 48) (sz := 4) (v := .slice a3 k c3) (n := k) (xs := stpCs pre) rfl (.tmp 22) (.tmp 25) 26 rfl i0 _ 40 Tryz.underlying26 hi hz0 hz1 hz2 rfl (by decide) rfl (by rw [stpCs_length, HPL.out]) ?_ ⟨w2.heap.size + 1, 0, none⟩ 1 1 rfl [.int .i64 sk, .int .i64 st, .int .i64 sf, .string sd] (by decide) rfl ?_ ?_ (by unfold maxLen; omega) (by omega) (by simp; omega) ?_)
        · exact G2.out.below (below_alloc1 _ _) (Nat.le_refl _)
        · have h9 := four_new (w2.alloc (.cells #[.int .i64 sk, .int .i64 st, .int .i64 sf, .string sd, .int .i64 0] 55)) (.int .i64 sk) (.int .i64 st) (.int .i64 sf) (.string sd) 48
          rw [z2] at h9
          exact h9
        · intro u hu; simp at hu; rcases hu with rfl | rfl | rfl | rfl <;> rfl
        · intro gg cc w4 hgn hgr hloc
          have hbw : Below w.heap.size w w4 := (B2.out.trans ((below_alloc1 _ _).mono B2.out.size)).grown hgr (by simp; omega) HBL.out
          have G4 := Lib.hid hgn
          have HB4 := Lib.hid hbw
          clear hgn hgr hloc hbw x0 x1 x2 x3 x4
          go_wp2_with fail
          go_roundw
          case rel =>
            refine ⟨k + 1, pre ++ [(sk, st, sf, sd)], by omega, by rw [List.length_append, HPL.out]; rfl, by go_num, GO.out, ?_, HB4.out⟩
            rw [stpCs_snoc, List.length_append, HPL.out]
            have := G4.out
            simpa using this
          case measure => simp [intOf]; omega
      · have dc : (sc != 0) = true := by simpa using hc
        have hr := HR.out.trans (ST.out hc)
        clear GO ST hc
        go_wp2_with fail
        go_ret
        refine ⟨_, rfl, ?_, B2.out⟩
        rw [hr, HPL.out]
        exact G2.out
    · obtain rfl : k = l.length := by omega
      have hr := HR.out.trans (scanF_end HSC.out)
      clear hg hb
      go_wp2_with fail
      go_ret
      refine ⟨_, rfl, ?_, HB.out⟩
      rw [hr, HPL.out]
      exact HG.out

theorem two_setC {w w' : World} {g : Nat} (h : Below g w w') (a b : Value) : Below g w ((w'.setCell ⟨g, 0, none⟩ a).setCell ⟨g, 1, none⟩ b) :=
  (h.setCell (p := ⟨g, 0, none⟩) (Nat.le_refl _) a).setCell (p := ⟨g, 1, none⟩) (Nat.le_refl _) b
theorem Bx.c2 {w : World} {n : Nat} {T : TypeId} {a b : Value} (h : Bx w n T #[a, b]) : (w.cell? ⟨n, 0, none⟩ = some a ∧ w.cell? ⟨n, 1, none⟩ = some b) ∧ (w.frozen? ⟨n, 0, none⟩ = false ∧ w.frozen? ⟨n, 1, none⟩ = false) :=
  ⟨⟨h.cell 0, h.cell 1⟩, h.frozen 0, h.frozen 1⟩
theorem own_two {w : World} {g lo n sz : Nat} {v : Value} {xs : List Value} (h : Own w lo v n sz xs) (hg : g < lo) (a b : Value) : Own ((w.setCell ⟨g, 0, none⟩ a).setCell ⟨g, 1, none⟩ b) g v n sz xs := by
  have h1 := h.other ⟨g, 0, none⟩ a (fun k hk => by have := (h.blk k hk).1; simp; omega)
  have h2 := h1.other ⟨g, 1, none⟩ b (fun k hk => by have := (h.blk k hk).1; simp; omega)
  exact h2.lower (by omega)

set_option maxRecDepth 100000 in
set_option maxHeartbeats 2000000 in
theorem specScan (v : Value) (l : List ByteArray) (w : World) (h : Rd w v l.length 1 (strs l)) (hn : l.length ≤ 1048576) (hz : FitZ l) :
    Calls Tryz.prog 29 #[v] w (MadeC (scanR l) w) := by
  obtain ⟨a, c, rfl, -⟩ := id h.2
  have HV := Lib.hid h
  clear h
  have Y := Lib.hid (bx_new w 59 #[.slice none 0 0, .int .i64 0])
  have B := Lib.hid (below_alloc1 w (.cells #[.slice none 0 0, .int .i64 0] 59))
  have z0 := size_alloc1 w (.cells #[.slice none 0 0, .int .i64 0] 59)
  obtain ⟨R, hR⟩ : ∃ R, R = scanR l := ⟨_, rfl⟩
  rw [← hR]
  unfold scanR at hR
  by_cases hbig : 24 < l.length
  · rw [if_pos hbig] at hR
    subst hR
    have d0 : decide ((24 : Int) < (l.length : Int)) = true := decide_eq_true (by omega)
    go_enter Tryz.func29, Tryz.ntmps29
    go_wp2_with fail
    refine bodyPost_ret (v := .agg #[.slice none 0 0, .int .i64 0]) (by simp [results, Tryz.results29, go_sem]) rfl ⟨_, rfl, own_nil _ _ _ _ _, ?_⟩
    exact below_alloc1 w _
  rw [if_neg hbig] at hR
  have d0 : decide ((24 : Int) < (l.length : Int)) = false := decide_eq_false (by omega)
  have hlen := scanF_len l 0
  have HL := Lib.hid (fun w h => specL09 (.slice a l.length c) l w h hn hz)
  obtain ⟨F, hF⟩ : ∃ F, F = scanF l 0 := ⟨_, rfl⟩
  rw [← hF] at hR hlen HL
  have HR := Lib.hid hR
  clear hR hF
  go_enter Tryz.func29, Tryz.ntmps29
  go_wp2_with fail
  generalize w.alloc (.cells #[.slice none 0 0, .int .i64 0] 59) = W0 at *
  refine (HL.out W0 (HV.out.below B.out (Nat.le_refl _))).mono ?_
  rintro e w1 ⟨v1, rfl, hg, hb⟩
  obtain ⟨a1, c1, rfl⟩ := gr_form hg
  have G := Lib.hid hg.own
  replace Y := Lib.hid (Y.out.next hb)
  replace B := Lib.hid (below_more B.out hb)
  clear hg hb HL
  go_wp2_with fail
  refine (specKept _ F w1 G.out.rd (by omega)).mono ?_
  rintro e w2 ⟨rfl, hb⟩
  replace Y := Lib.hid (Y.out.next hb)
  replace B := Lib.hid (below_more B.out hb)
  replace G := Lib.hid (G.out.below hb (Nat.le_refl _))
  clear hb
  obtain ⟨⟨y0, y1⟩, f0, f1⟩ := Y.out.c2
  generalize (keptS F : Int) = K at *
  go_wp2_with fail
  refine bodyPost_ret (v := .agg #[.slice a1 F.length c1, .int .i64 K]) (by simp [results, Tryz.results29, go_sem, y0, y1]) rfl ⟨.slice a1 F.length c1, by rw [HR.out], ?_, two_setC B.out _ _⟩
  rw [HR.out]
  exact own_two G.out (by omega) _ _

def stpA (x : stpT) : Array Value := #[.agg #[.int .i64 x.1, .int .i64 x.2.1, .int .i64 x.2.2.1, .string x.2.2.2]]
/-- Texts in a block below n₀. -/
def LowZ (n₀ : Nat) (W : World) (sv : Value) (l : List ByteArray) : Prop :=
  ∃ a c, sv = .slice a l.length c ∧ (0 < l.length → ∃ b off, a = some ⟨b, off, none⟩ ∧ b < n₀ ∧ ∀ j (hj : j < l.length), W.cell? ⟨b, off + j, none⟩ = some (.string l[j]))
theorem LowZ.below {n₀ : Nat} {A B : World} {sv : Value} {l : List ByteArray} (h : LowZ n₀ A sv l) (hb : Below n₀ A B) : LowZ n₀ B sv l := by
  obtain ⟨a, c, rfl, h⟩ := h
  refine ⟨a, c, rfl, fun h0 => ?_⟩
  obtain ⟨b, off, rfl, h1, h2⟩ := h h0
  exact ⟨b, off, rfl, h1, fun j hj => (hb.cell (p := ⟨b, off + j, none⟩) h1).trans (h2 j hj)⟩
theorem lowZ_of_rd {W : World} {sv : Value} {l : List ByteArray} (h : Rd W sv l.length 1 (strs l)) : LowZ W.heap.size W sv l := by
  obtain ⟨_, a, c, rfl, h⟩ := h
  refine ⟨a, c, rfl, fun h0 => ?_⟩
  obtain ⟨b, off, rfl, h1, h2⟩ := h h0
  exact ⟨b, off, rfl, h1, fun j hj => by rw [h2 j (by omega), strs_at l j hj]⟩
def RcRel (l : List ByteArray) (n₀ : Nat) (W : World) (J : List stpT → World → Prop) (i : Value) (wr : World) : Prop :=
  ∃ (k : Nat) (pre : List stpT), k ≤ l.length ∧ pre.length = k ∧ i = .int .i64 k ∧ scanF l 0 = pre ++ scanF (l.drop k) k ∧ J pre wr ∧ Below n₀ W wr
set_option maxRecDepth 100000 in
set_option maxHeartbeats 4000000 in
theorem records1_in (n : Nat) (hn : 1 ≤ n) (lp Bs n₀ B0 : Nat) (sv : Value) (l : List ByteArray) (hz : l.length ≤ 1048576) (J Jx : List stpT → World → Prop) (hJ : AbidesFrom B0 J) (W : World)
    (hRR : ∀ (j : Nat) (hj : j < l.length) (W' : World), Below n₀ W W' → Calls Tryz.prog 26 #[.string l[j], .int .i64 (j : Int)] W' fun e w' => e = .returned (soV (recRd l[j] (j : Int))) ∧ Below W'.heap.size W' w')
    (hY : ∀ pre x W, J pre W → pre.length < l.length → YieldAt Fence.wide (n - 1) Tryz.prog lp (stpA x) W fun e W' =>
      (e = .returned (.bool true) ∧ J (pre ++ [x]) W' ∧ Below n₀ W W') ∨ (e = .returned (.bool false) ∧ Jx (pre ++ [x]) W'))
    (hBs : W.cell? ⟨Bs, 0, none⟩ = some sv) (_hlow : Bs < n₀) (hn₀ : n₀ ≤ W.heap.size) (hL : LowZ n₀ W sv l) (h0 : J [] W) :
    CallsIn Fence.wide n Tryz.prog 124 #[.func (.yield lp) #[] #[], .pointer (some ⟨Bs, 0, none⟩)] W fun e W' => (∃ v, e = .returned v) ∧
      ((∃ ys, ys = scanF l 0 ∧ J ys W') ∨ (∃ pre, pre <+: scanF l 0 ∧ Jx pre W')) := by
  obtain ⟨a, c, rfl, hcl⟩ := id hL
  have HL := Lib.hid hL
  have HC := Lib.hid hcl
  have HRR := Lib.hid hRR
  have HJ := Lib.hid hJ
  clear hL hcl hRR hJ
  refine callsIn_of_wp Tryz.func124 rfl trivial ?_ rfl
  simp only [Tryz.ntmps124, List.size_toArray, List.length_cons, List.length_nil, Nat.reduceAdd, Nat.reduceSub, Array.replicate_succ, Array.replicate_zero, List.push_toArray, List.append_toArray, List.nil_append, List.cons_append]
  gi_wp2
  gi_loopw [8] (fun i wr => RcRel l n₀ W J i wr) (fun i _ => l.length - (intOf i).toNat)
  case atStart => exact ⟨0, [], Nat.zero_le _, rfl, rfl, by simp, h0, Below.refl _ _⟩
  case round =>
    obtain ⟨k, pre, hk, hpl, rfl, hsc, hJ, hb⟩ := hrel
    have HPL := Lib.hid hpl
    have HSC := Lib.hid hsc
    have HB := Lib.hid hb
    have HJ1 := Lib.hid hJ
    clear hsc hpl
    by_cases hlt : k < l.length
    · obtain ⟨b, off, rfl, hb0, hcell⟩ := HC.out (by omega)
      have hck : wr.cell? ⟨b, off + k, none⟩ = some (.string l[k]) := (hb.cell (p := ⟨b, off + k, none⟩) hb0).trans (hcell k hlt)
      have e0 : (k : Int) < (l.length : Int) := by omega
      have e1 : (0 : Int) ≤ (k : Int) := by omega
      have RR := Lib.hid (fun W' => HRR.out k hlt W')
      have GO := Lib.hid (scanF_go HSC.out hlt)
      have ST := Lib.hid (scanF_stop HSC.out hlt)
      have hpre : pre.length < l.length := by have := HPL.out; omega
      clear hcell hb hJ
      obtain ⟨X, hX⟩ : ∃ X, X = recRd l[k] (k : Int) := ⟨_, rfl⟩
      rw [← hX] at RR GO ST
      clear hX
      obtain ⟨⟨sk, st, sf, sd⟩, sc⟩ := X
      unfold soV at RR
      dsimp only at RR GO ST
      generalize l[k] = x at *
      by_cases hc : sc = 0
      · subst hc
        replace GO := Lib.hid (GO.out (by first | rfl | trivial))
        clear ST
        gi_wp2_with (refine ⟨trivial, ?_⟩; gi_at_call 26; refine (callsIn_wide.2 (RR.out _ HB.out)).mono ?_; rintro e w2 ⟨rfl, hb2⟩; have bz := below_alloc1 w2 (.cells #[.int .i64 sk, .int .i64 st, .int .i64 sf, .string sd, .int .i64 0] 55); have hbb := below_more hb2 bz; have XX := Lib.hid (bx_new w2 55 #[.int .i64 sk, .int .i64 st, .int .i64 sf, .string sd, .int .i64 0]); have B2 := Lib.hid (HB.out.trans (hbb.mono (Nat.le_trans hn₀ HB.out.size))); have J2 := Lib.hid (HJ.out _ _ _ none HJ1.out (grown_of_below hbb) (fun r e => by cases e)); clear hb2 bz hbb; obtain ⟨x0, x1, x2, x3, x4⟩ := XX.out.s0; obtain ⟨fn, tmps, assign, body, hy, hR⟩ := hY pre (sk, st, sf, sd) _ J2.out hpre; unfold stpA at hy; dsimp only at hy)
        refine hR.mono ?_
        rintro e W3 (⟨rfl, hJ3, hk3⟩ | ⟨rfl, hJx3⟩)
        · have J3 := Lib.hid hJ3
          have B3 := Lib.hid (B2.out.trans hk3)
          clear hJ3 hk3
          gi_wp2
          go_roundw
          case rel => exact ⟨k + 1, _, by omega, by rw [List.length_append, HPL.out]; rfl, by go_num, GO.out, J3.out, B3.out⟩
          case measure => simp [intOf]; omega
        · have J3 := Lib.hid hJx3
          clear hJx3
          gi_wp2
          refine bodyPost_ret (results_none rfl _ _ _) rfl ?_
          exact ⟨⟨_, rfl⟩, .inr ⟨_, ⟨_, GO.out.symm⟩, J3.out⟩⟩
      · have dc : (sc != 0) = true := by simpa using hc
        have hall := ST.out hc
        clear GO ST hc
        gi_wp2_with (refine ⟨trivial, ?_⟩; gi_at_call 26; refine (callsIn_wide.2 (RR.out _ HB.out)).mono ?_; rintro e w2 ⟨rfl, hb2⟩; have bz := below_alloc1 w2 (.cells #[.int .i64 sk, .int .i64 st, .int .i64 sf, .string sd, .int .i64 sc] 55); have hbb := below_more hb2 bz; have XX := Lib.hid (bx_new w2 55 #[.int .i64 sk, .int .i64 st, .int .i64 sf, .string sd, .int .i64 sc]); have B2 := Lib.hid (HB.out.trans (hbb.mono (Nat.le_trans hn₀ HB.out.size))); have J2 := Lib.hid (HJ.out _ _ _ none HJ1.out (grown_of_below hbb) (fun r e => by cases e)); clear hb2 bz hbb; obtain ⟨x0, x1, x2, x3, x4⟩ := XX.out.s0)
        refine ⟨fun f h => (by cases h), ?_⟩
        gi_wp2
        refine bodyPost_ret (results_none rfl _ _ _) rfl ?_
        exact ⟨⟨_, rfl⟩, .inl ⟨pre, hall.symm, J2.out⟩⟩
    · obtain rfl : k = l.length := by omega
      have hall := scanF_end HSC.out
      gi_wp2
      go_end0
      exact ⟨⟨_, rfl⟩, .inl ⟨pre, hall.symm, HJ1.out⟩⟩
set_option maxHeartbeats 1000000 in
theorem records_in (n : Nat) (a : Option Addr) (len cap : Nat) (w : World) :
    CallsIn Fence.wide n Tryz.prog 82 #[.slice a len cap] w fun e w' => e = .returned (.func (.func 124) #[] #[.pointer (some ⟨w.heap.size, 0, none⟩)]) ∧ w' = w.alloc (.cells #[.slice a len cap] 23) := by
  refine callsIn_of_wp Tryz.func82 rfl trivial ?_ rfl
  simp only [Tryz.ntmps82, List.size_toArray, List.length_cons, List.length_nil, Nat.reduceAdd, Nat.reduceSub, Array.replicate_succ, Array.replicate_zero, List.push_toArray, List.append_toArray, List.nil_append, List.cons_append]
  gi_wp2
  go_ret
  exact ⟨rfl, rfl⟩
theorem records_stops (n : Nat) (hn : 1 ≤ n) (Bs n₀ : Nat) (sv : Value) (l : List ByteArray) (hz : l.length ≤ 1048576) (w : World) (hBs : Bs < n₀) (hn₀ : n₀ ≤ w.heap.size)
    (hRR : ∀ (j : Nat) (hj : j < l.length) (W' : World), Below n₀ w W' → Calls Tryz.prog 26 #[.string l[j], .int .i64 (j : Int)] W' fun e w' => e = .returned (soV (recRd l[j] (j : Int))) ∧ Below W'.heap.size W' w')
    (hc : w.cell? ⟨Bs, 0, none⟩ = some sv) (hL : LowZ n₀ w sv l) :
    SeqStopsK Fence.wide n Tryz.prog 124 #[.pointer (some ⟨Bs, 0, none⟩)] stpA (Below n₀) (fun ys => ys = scanF l 0) (fun pre => pre <+: scanF l 0) l.length w := fun lp J Jx W hW hJ _ hY h0 =>
  records1_in n hn lp Bs n₀ W.heap.size sv l hz J Jx hJ W (fun j hj W' hb => hRR j hj W' ((hW.mono hn₀).trans hb)) hY ((hW.cell (p := ⟨Bs, 0, none⟩) (Nat.lt_of_lt_of_le hBs hn₀)).trans hc) hBs (Nat.le_trans hn₀ hW.size) (hL.below (hW.mono hn₀)) h0
theorem bx_keptS {W W' : World} {b : Nat} {T : TypeId} {vs : Array Value} {row : Option Nat} (h : Bx W b T vs) (hg : W.grownBy W' row) (hr : ∀ r, row = some r → ∃ o : Obj, W.heap[r]? = some o ∧ o.isCells = false) : Bx W' b T vs :=
  h.grown hg (fun e => by obtain ⟨o, ho, hc⟩ := hr b e.symm; rw [show W.heap[b]? = _ from h] at ho; cases ho; cases hc)
set_option maxRecDepth 100000 in
set_option maxHeartbeats 4000000 in
theorem appendSteps_in (n : Nat) (hn : 3 ≤ n) (Bs : Nat) (sv : Value) (l : List ByteArray) (hz : l.length ≤ 1048576) (w : World) (hBs : Bs < w.heap.size)
    (hRR : ∀ (j : Nat) (hj : j < l.length) (W' : World), Below w.heap.size w W' → Calls Tryz.prog 26 #[.string l[j], .int .i64 (j : Int)] W' fun e w' => e = .returned (soV (recRd l[j] (j : Int))) ∧ Below W'.heap.size W' w')
    (hc : w.cell? ⟨Bs, 0, none⟩ = some sv) (hL : LowZ w.heap.size w sv l) :
    CallsIn Fence.wide n Tryz.prog 123 #[.slice none 0 0, .func (.func 124) #[] #[.pointer (some ⟨Bs, 0, none⟩)]] w fun e W' => ∃ v, e = .returned v ∧ W'.ownsRow w.heap.size 48 4 v (scanF l 0).length (stpCs (scanF l 0)) ∧ Below w.heap.size w W' := by
  have h1 : 1 ≤ n := by omega
  have HRR := Lib.hid hRR
  clear hRR
  obtain ⟨i0, hi, hz0, hz1, hz2⟩ := info_parts Tryz.infostp
  refine callsIn_of_wp_marks Tryz.func123 rfl trivial ?_ rfl
  simp only [Tryz.ntmps123, List.size_toArray, List.length_cons, List.length_nil, Nat.reduceAdd, Nat.reduceSub, Array.replicate_succ, Array.replicate_zero, List.push_toArray, List.append_toArray, List.nil_append, List.cons_append]
  gi_wp2
  have bS := Boxed.new w 26 (.slice none 0 0)
  have hB0 := below_alloc1 w (.cells #[.slice none 0 0] 26)
  have hsz := size_alloc1 w (.cells #[.slice none 0 0] 26)
  obtain ⟨W0, hW0⟩ : ∃ W0, w.alloc (.cells #[.slice none 0 0] 26) = W0 := ⟨_, rfl⟩
  rw [hW0] at bS hB0 hsz ⊢
  clear hW0
  refine wpIn_rangeFunc_ownH rfl h1 (gf := 124) (lb := #[.pointer (some ⟨Bs, 0, none⟩)]) rfl trivial (enters_of Tryz.func124 (by kernel_rfl) rfl)
    (records_stops (n - 1) (by omega) Bs w.heap.size sv l hz W0 hBs hB0.size (fun j hj W' hb => HRR.out j hj W' (hB0.trans hb)) ((hB0.cell (p := ⟨Bs, 0, none⟩) hBs).trans hc) (hL.below hB0)) belowK_t (belowK_b (by omega)) (Below.refl _ _) (fun _ => rfl)
    (fun pre W => (∃ v, Boxed W w.heap.size 26 v ∧ W.ownsRow w.heap.size 48 4 v pre.length (stpCs pre) ∧ True) ∧ Below w.heap.size w W)
    (fun _ _ _ => False)
    (OwnFrom.and ((holdsRow_own w.heap.size w.heap.size 26 48 4 (fun pre : List stpT => pre.length) (fun pre => stpCs pre) (fun _ _ => True)).from _) (ownFrom_below (Nat.le_refl _) (by omega)))
    (fun _ _ _ _ _ hs _ _ => hs)
    ⟨⟨_, bS, World.ownsRow_nil _ _ _ _, trivial⟩, hB0⟩
    (fun x a' W => ∃ b, w.heap.size < b ∧ Bx W b 48 #[.int .i64 x.1, .int .i64 x.2.1, .int .i64 x.2.2.1, .string x.2.2.2] ∧ a' = { tmps := #[.slice none 0 0, .func (.func 124) #[] #[.pointer (some ⟨Bs, 0, none⟩)], .pointer (some ⟨w.heap.size, 0, none⟩), undef, .slice none 0 0, .pointer (some ⟨b, 0, none⟩), .func (.func 124) #[] #[.pointer (some ⟨Bs, 0, none⟩)], .agg #[.int .i64 x.1, .int .i64 x.2.1, .int .i64 x.2.2.1, .string x.2.2.2], undef, undef, undef, undef, undef], defers := [] })
    (fun x a' _ X Y row hs hg hr => by obtain ⟨b, h1, h2, h3⟩ := hs; exact ⟨b, h1, bx_keptS h2 hg (fun r e => (hr r e).2), h3⟩)
    ?assign ?body ?done ?stop
  case assign =>
    rintro lp pre x W K ⟨⟨v, hv, hrow, -⟩, hB1⟩ hK
    unfold stpA
    gi_wp2
    refine hK _ _ ((KeepsOthers.alloc _ _).from _) ((Below.refl _ W).alloc hB1.size _) ⟨⟨v, hv.alloc _, hrow.alloc _, trivial⟩, hB1.alloc hB1.size _⟩ ⟨W.heap.size, hv.lt, bx_new W 48 #[.int .i64 x.1, .int .i64 x.2.1, .int .i64 x.2.2.1, .string x.2.2.2], rfl⟩
  case body =>
    rintro lp pre x a' W hl ⟨r, hr⟩ ⟨⟨v, hv, hrow, -⟩, hB1⟩ ⟨b, hb, bX, rfl⟩ hlt
    have cv := hv.cell
    have c0 := bX.q0
    have c1 := bX.q1
    have c2 := bX.q2
    have c3 := bX.q3
    gi_wp2_with (gi_at_builtin; refine wpListIn_append_own _ rfl _ _ 26 rfl w.heap.size 48 i0 _ 4 40 Tryz.underlying26 hi hz0 hz1 hz2 rfl (by decide) _ _ _ rfl (hrow.alloc _) ⟨W.heap.size, 0, none⟩ 1 1 [.int .i64 x.1, .int .i64 x.2.1, .int .i64 x.2.2.1, .string x.2.2.2] rfl rfl (four_new _ _ _ _ _ _) (by simp [Value.oneCell']) (by unfold maxLen; omega) (by omega) (by have := hB1.size; simp; omega) ?_; intro v' w1 hown' hgrow _; obtain ⟨g', cap', rfl⟩ := ownsRow_succ hown'; obtain ⟨hv1, hv2, hr2, hk2, hb2⟩ := hv.appended (by decide) hrow hB1.size (Nat.le_refl _) hown' hgrow; have hc1 := hv1.cell; have hf1 := hv1.frozen)
    refine ⟨hk2.from _, hb2, ⟨_, hv2, ?_, trivial⟩, hB1.trans hb2⟩
    rw [stpCs_snoc]
    simpa using hr2
  case done =>
    rintro D ys W hD rfl ⟨⟨v, hv, hrow, -⟩, hB⟩ hK
    have hc := hv.cell
    gi_wp2
    refine ⟨by simp, .inl ⟨_, _, rfl, run_takeDeferred hK, ?_⟩⟩
    exact ⟨_, results_tmp rfl _ _ _, v, rfl, ownsRow_putObj hrow _ hK rfl, hB.trans (belowK_b (w := w) (Nat.le_refl _) W D _ _ (by omega) hK rfl rfl)⟩
  case stop =>
    rintro D c pre W _ _ h _
    exact h.elim
set_option maxRecDepth 100000 in
set_option maxHeartbeats 1000000 in
theorem collectSteps (Bs : Nat) (sv : Value) (l : List ByteArray) (hz : l.length ≤ 1048576) (w : World) (hBs : Bs < w.heap.size)
    (hRR : ∀ (j : Nat) (hj : j < l.length) (W' : World), Below w.heap.size w W' → Calls Tryz.prog 26 #[.string l[j], .int .i64 (j : Int)] W' fun e w' => e = .returned (soV (recRd l[j] (j : Int))) ∧ Below W'.heap.size W' w')
    (hc : w.cell? ⟨Bs, 0, none⟩ = some sv) (hL : LowZ w.heap.size w sv l) :
    Calls Tryz.prog 81 #[.func (.func 124) #[] #[.pointer (some ⟨Bs, 0, none⟩)]] w (MadeRow w (scanF l 0).length 4 (stpCs (scanF l 0))) := by
  have H := Lib.hid ((callsIn_wide (n := 3)).1 (appendSteps_in 3 (by omega) Bs sv l hz w hBs hRR hc hL))
  clear hc hL hRR
  go_enter Tryz.func81, Tryz.ntmps81
  go_wp2_with fail
  refine H.out.mono ?_
  rintro e w1 ⟨v, rfl, hr, hb⟩
  have HR := Lib.hid (own_of_row hr)
  have HB := Lib.hid hb
  obtain ⟨a, c, rfl, -⟩ := id HR.out.2
  clear hr hb
  go_wp2_with fail
  go_ret
  exact ⟨_, rfl, HR.out, HB.out⟩
set_option maxRecDepth 100000 in
set_option maxHeartbeats 2000000 in
theorem implScan (v : Value) (l : List ByteArray) (aE : Nat → Addr) (w : World) (h : Rd w v l.length 1 (strs l)) (hn : l.length ≤ 1048576) (hz : FitZ l) (hL : Laid w) (hE : Sent w sealG aE) :
    Calls Tryz.prog 28 #[v] w (MadeC (scanR l) w) := by
  obtain ⟨a, c, rfl, -⟩ := id h.2
  have HV := Lib.hid h
  have HL := Lib.hid hL
  have HE := Lib.hid hE
  clear h hL hE
  have Y := Lib.hid (bx_new w 59 #[.slice none 0 0, .int .i64 0])
  have B := Lib.hid (below_alloc1 w (.cells #[.slice none 0 0, .int .i64 0] 59))
  have z0 := size_alloc1 w (.cells #[.slice none 0 0, .int .i64 0] 59)
  obtain ⟨R, hR⟩ : ∃ R, R = scanR l := ⟨_, rfl⟩
  rw [← hR]
  unfold scanR at hR
  by_cases hbig : 24 < l.length
  · rw [if_pos hbig] at hR
    subst hR
    have d0 : decide ((24 : Int) < (l.length : Int)) = true := decide_eq_true (by omega)
    go_enter Tryz.func28, Tryz.ntmps28
    go_wp2_with fail
    refine bodyPost_ret (v := .agg #[.slice none 0 0, .int .i64 0]) (by simp [results, Tryz.results28, go_sem]) rfl ⟨_, rfl, own_nil _ _ _ _ _, ?_⟩
    exact below_alloc1 w _
  rw [if_neg hbig] at hR
  have d0 : decide ((24 : Int) < (l.length : Int)) = false := decide_eq_false (by omega)
  have hlen := scanF_len l 0
  have RRA := Lib.hid (fun (j : Nat) (hj : j < l.length) (w : World) (hL : Laid w) (hE : Sent w sealG aE) => implRecRead l[j] (j : Int) aE w (hz _ (List.getElem_mem hj)) hL hE)
  have CS := Lib.hid (fun Bs w => collectSteps Bs (.slice a l.length c) l hn w)
  obtain ⟨F, hF⟩ : ∃ F, F = scanF l 0 := ⟨_, rfl⟩
  rw [← hF] at hR hlen CS
  have HR := Lib.hid hR
  clear hR hF
  go_enter Tryz.func28, Tryz.ntmps28
  go_wp2_with fail
  generalize w.alloc (.cells #[.slice none 0 0, .int .i64 0] 59) = W0 at *
  refine ((callsIn_wide (n := 3)).1 (records_in 3 a l.length c W0)).mono ?_
  rintro e w1 ⟨rfl, rfl⟩
  have bx := bx_new W0 23 #[.slice a l.length c]
  have hb := below_alloc1 W0 (.cells #[.slice a l.length c] 23)
  have hs1 := size_alloc1 W0 (.cells #[.slice a l.length c] 23)
  have bx0 := bx.cell 0
  rw [z0] at bx0
  have BXL := Lib.hid bx0
  clear bx0
  replace Y := Lib.hid (Y.out.next hb)
  replace B := Lib.hid (below_more B.out hb)
  clear hb bx
  go_wp2_with fail
  generalize W0.alloc (.cells #[.slice a l.length c] 23) = W1 at *
  refine (CS.out (w.heap.size + 1) W1 (by omega) (fun j hj W' hb => RRA.out j hj W' (HL.out.below (below_more B.out hb)) (HE.out.next (below_more B.out hb))) BXL.out (lowZ_of_rd (HV.out.below B.out (Nat.le_refl _)))).mono ?_
  rintro e w2 ⟨v2, rfl, ho2, hb⟩
  obtain ⟨a1, c1, rfl, -⟩ := id ho2.2
  have G := Lib.hid ho2
  have hsB := B.out.size
  replace Y := Lib.hid (Y.out.next hb)
  replace B := Lib.hid (below_more B.out hb)
  clear hb ho2 CS RRA BXL
  go_wp2_with fail
  refine (implKept _ F w2 G.out.rd (by omega)).mono ?_
  rintro e w3 ⟨rfl, hb⟩
  replace Y := Lib.hid (Y.out.next hb)
  replace B := Lib.hid (below_more B.out hb)
  replace G := Lib.hid (G.out.below hb (Nat.le_refl _))
  clear hb
  obtain ⟨⟨y0, y1⟩, f0, f1⟩ := Y.out.c2
  generalize (keptS F : Int) = K at *
  go_wp2_with fail
  refine bodyPost_ret (v := .agg #[.slice a1 F.length c1, .int .i64 K]) (by simp [results, Tryz.results28, go_sem, y0, y1]) rfl ⟨.slice a1 F.length c1, by rw [HR.out], ?_, two_setC B.out _ _⟩
  rw [HR.out]
  exact own_two G.out (by omega) _ _
end Go.Proofs.YthkbllkhomjmbaaGreatDoor

namespace Go.Proofs.YthkbllkhomjmbaaGreatDoor
open Go.RowKit

def MadeG (R : List stpT × Int) (w : World) (e : Ending) (w' : World) : Prop := ∃ v, e = .returned (.agg #[v, .int .i64 R.2]) ∧ Gr w' w.heap.size 48 4 v R.1.length (stpCs R.1) ∧ Below w.heap.size w w'
set_option maxRecDepth 100000 in
set_option maxHeartbeats 2000000 in
theorem specScanG (v : Value) (l : List ByteArray) (w : World) (h : Rd w v l.length 1 (strs l)) (hn : l.length ≤ 1048576) (hz : FitZ l) :
    Calls Tryz.prog 29 #[v] w (MadeG (scanR l) w) := by
  obtain ⟨a, c, rfl, -⟩ := id h.2
  have HV := Lib.hid h
  clear h
  have Y := Lib.hid (bx_new w 59 #[.slice none 0 0, .int .i64 0])
  have B := Lib.hid (below_alloc1 w (.cells #[.slice none 0 0, .int .i64 0] 59))
  have z0 := size_alloc1 w (.cells #[.slice none 0 0, .int .i64 0] 59)
  obtain ⟨R, hR⟩ : ∃ R, R = scanR l := ⟨_, rfl⟩
  rw [← hR]
  unfold scanR at hR
  by_cases hbig : 24 < l.length
  · rw [if_pos hbig] at hR
    subst hR
    have d0 : decide ((24 : Int) < (l.length : Int)) = true := decide_eq_true (by omega)
    go_enter Tryz.func29, Tryz.ntmps29
    go_wp2_with fail
    refine bodyPost_ret (v := .agg #[.slice none 0 0, .int .i64 0]) (by simp [results, Tryz.results29, go_sem]) rfl ⟨_, rfl, Gr.nil _ _ _ _, ?_⟩
    exact below_alloc1 w _
  rw [if_neg hbig] at hR
  have d0 : decide ((24 : Int) < (l.length : Int)) = false := decide_eq_false (by omega)
  have hlen := scanF_len l 0
  have HL := Lib.hid (fun w h => specL09 (.slice a l.length c) l w h hn hz)
  obtain ⟨F, hF⟩ : ∃ F, F = scanF l 0 := ⟨_, rfl⟩
  rw [← hF] at hR hlen HL
  have HR := Lib.hid hR
  clear hR hF
  go_enter Tryz.func29, Tryz.ntmps29
  go_wp2_with fail
  generalize w.alloc (.cells #[.slice none 0 0, .int .i64 0] 59) = W0 at *
  refine (HL.out W0 (HV.out.below B.out (Nat.le_refl _))).mono ?_
  rintro e w1 ⟨v1, rfl, hg, hb⟩
  obtain ⟨a1, c1, rfl⟩ := gr_form hg
  have G := Lib.hid hg
  replace Y := Lib.hid (Y.out.next hb)
  replace B := Lib.hid (below_more B.out hb)
  clear hg hb HL
  go_wp2_with fail
  refine (specKept _ F w1 G.out.own.rd (by omega)).mono ?_
  rintro e w2 ⟨rfl, hb⟩
  replace Y := Lib.hid (Y.out.next hb)
  replace B := Lib.hid (below_more B.out hb)
  replace G := Lib.hid (G.out.below hb (Nat.le_refl _))
  clear hb
  obtain ⟨⟨y0, y1⟩, f0, f1⟩ := Y.out.c2
  generalize (keptS F : Int) = K at *
  go_wp2_with fail
  refine bodyPost_ret (v := .agg #[.slice a1 F.length c1, .int .i64 K]) (by simp [results, Tryz.results29, go_sem, y0, y1]) rfl ⟨.slice a1 F.length c1, by rw [HR.out], ?_, two_setC B.out _ _⟩
  rw [HR.out]
  exact ((G.out.low ⟨w.heap.size, 0, none⟩ _ (by simp; omega)).low ⟨w.heap.size, 1, none⟩ _ (by simp; omega)).lower (by omega)

/-- The first ones of what can be read. -/
theorem rd_take {w : World} {a : Option Addr} {n c k : Nat} {l : List stpT} (h : Rd w (.slice a n c) n 4 (stpCs l)) (hn : l.length = n) (hk : k ≤ n) : Rd w (.slice a k c) (l.take k).length 4 (stpCs (l.take k)) := by
  obtain ⟨h1, a', c', e, h2⟩ := h
  obtain ⟨rfl, rfl⟩ : a' = a ∧ c' = c := by cases e; exact ⟨rfl, rfl⟩
  have hl : (l.take k).length = k := by simp; omega
  refine ⟨by rw [stpCs_length], a', c', by rw [hl], fun h0 => ?_⟩
  rw [hl] at h0
  obtain ⟨b, off, rfl, hb, hc⟩ := h2 (by omega)
  refine ⟨b, off, rfl, hb, fun j hj => ?_⟩
  rw [hl] at hj
  rw [hc j (by omega)]
  have e1 : stpCs l = stpCs (l.take k) ++ stpCs (l.drop k) := by rw [← stpCs_append, List.take_append_drop]
  rw [e1, List.getElem?_append_left (by rw [stpCs_length, hl]; omega)]
/-- A log whose sector is torn is read up to there. -/
theorem log_rec {ls : List ByteArray} {k : Nat} (hc : k < (scanF ls 0).length) : ∃ (hk : k < ls.length) (s : stpT), recB (k : Int) s = true ∧ recBs (k : Int) s = ls[k] := by
  obtain ⟨hk, hr⟩ := scanF_get ls 0 k hc
  rw [Nat.zero_add] at hr
  have h := rec_ok (s := ls[k]) (n := (k : Int)) (by rw [hr])
  exact ⟨hk, _, h⟩
theorem log_pos {ls : List ByteArray} {k : Nat} (hc : k < (scanF ls 0).length) (hk : k < ls.length) : 1 ≤ (ls[k]).size := by
  obtain ⟨_, s, h1, h2⟩ := log_rec hc
  rw [← h2, recBs_yes h1]
  unfold sealS
  rw [ByteArray.size_append, fourS_size]; omega
theorem log_torn {ls : List ByteArray} {k q : Nat} (hc : k < (scanF ls 0).length) (hk : k < ls.length) (hq : q < (ls[k]).size) : scanF (ls.set k ((ls[k]).extract 0 q)) 0 = (scanF ls 0).take k := by
  obtain ⟨_, s, h1, h2⟩ := log_rec hc
  refine scanF_cut ls 0 k _ hc ?_
  rw [Nat.zero_add]
  rw [← h2] at hq ⊢
  exact rec_prefix h1 q hq
theorem scanR_some {ls : List ByteArray} {F : List stpT} {K : Int} (h : (F, K) = scanR ls) (h0 : 0 < F.length) : ls.length ≤ 24 ∧ F = scanF ls 0 := by
  unfold scanR at h
  by_cases hb : 24 < ls.length
  · rw [if_pos hb] at h
    have := congrArg Prod.fst h
    simp at this
    rw [this] at h0
    exact absurd h0 (Nat.lt_irrefl _)
  · rw [if_neg hb] at h
    exact ⟨by omega, congrArg Prod.fst h⟩
theorem scanR_torn {ls : List ByteArray} {k q : Nat} (h24 : ls.length ≤ 24) (hc : k < (scanF ls 0).length) (hk : k < ls.length) (hq : q < (ls[k]).size) : scanR (ls.set k ((ls[k]).extract 0 q)) = ((scanF ls 0).take k, (keptS ((scanF ls 0).take k) : Int)) := by
  unfold scanR
  rw [if_neg (by rw [List.length_set]; omega), log_torn hc hk hq]
theorem scanR_torn2 {ls : List ByteArray} {F : List stpT} (h24 : ls.length ≤ 24) (hF : F = scanF ls 0) (k q : Nat) (hc : k < F.length) (hk : k < ls.length) (hq : q < (ls[k]).size) : scanR (ls.set k ((ls[k]).extract 0 q)) = (F.take k, (keptS (F.take k) : Int)) := by
  subst hF; exact scanR_torn h24 hc hk hq
theorem log_pos2 {ls : List ByteArray} {F : List stpT} (hF : F = scanF ls 0) (k : Nat) (hc : k < F.length) (hk : k < ls.length) : 1 ≤ (ls[k]).size := by
  subst hF; exact log_pos hc hk
theorem scanF_lenF {ls : List ByteArray} {F : List stpT} (hF : F = scanF ls 0) : F.length ≤ ls.length := by
  subst hF; exact scanF_len ls 0
theorem rec_prefix2 {n : Int} {x : stpT} {T : ByteArray} (hT : T = recBs n x) (h : recB n x = true) (q : Nat) (hq : q < T.size) : ¬ (recRd (T.extract 0 q) n).2 = 0 := by
  subst hT; exact rec_prefix h q hq
theorem rec_full {n : Int} {x : stpT} {T : ByteArray} (h : T = recBs n x) (hne : T.toList.isEmpty = false) : recB n x = true := by
  cases hb : recB n x with
  | true => rfl
  | false => rw [h, recBs_no hb, ByteArray.toList_eq] at hne; exact absurd hne (by simp)
end Go.Proofs.YthkbllkhomjmbaaGreatDoor

namespace Go.Proofs.YthkbllkhomjmbaaGreatDoor
open Go.RowKit Go.ChangeShapes Go.WideShapes
section
variable {H : Type} {enc : TypeId × Value → H} {W : World} {base : Nat} {spare : Nat → Bool} {held : Bool}
set_option maxRecDepth 100000 in
theorem open_bytes {r : Reach} {b0 : Nat} {v : Value} {d : DataW H} {p : List MemPlace} (hv : Value.okWide Tryz.prog W r b0 22 v) (h : DataW.Trod enc Tryz.prog W base spare held 22 v d p) :
    ∃ a len cap, v = .slice a len cap ∧ Bytes W a len ∧ len ≤ maxLen := by
  obtain ⟨a, len, cap, rfl⟩ := okWide_slice Tryz.underlying22 hv
  obtain ⟨fuel, hf⟩ := h
  rcases open_ints Tryz.underlying22 Tryz.underlying5 (by kernel_rfl) hf with ⟨hcs, _⟩ | ⟨x, l, c, zs, hcs, _, hl, hm, hz, _, hcell, hwz⟩
  · simp [Value.cells] at hcs
    obtain ⟨rfl, rfl, rfl⟩ := hcs
    exact ⟨_, _, _, rfl, fun h => absurd h (Nat.lt_irrefl 0), Nat.zero_le _⟩
  · simp [Value.cells] at hcs
    obtain ⟨rfl, rfl, rfl⟩ := hcs
    have hzl : len ≤ zs.length := by rw [hz]; split <;> omega
    exact ⟨_, _, _, rfl, bytes_of hzl hcell hwz, by omega⟩
end
end Go.Proofs.YthkbllkhomjmbaaGreatDoor
