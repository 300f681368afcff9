/- The model's MetaRead. -/
import Derived.Test.YtcpblmpapkhppaaGreatDoorSMeta
import Derived.Test.YtcpblmpapkhppaaGreatDoorUnseal
import Derived.Test.YtcpblmpapkhppaaGreatDoorGTextLaw
import Derived.Test.YtcpblmpapkhppaaGreatDoorM1
namespace Go.Proofs.YtcpblmpapkhppaaGreatDoor
open Go.RowKit

/-- A text read at x. -/
def textR (s : ByteArray) (x : Int) : ByteArray × Int × Int :=
  if (getR s x).2.2 = 0 then (if (getR s x).1 < 0 ∨ 8000 < (getR s x).1 then (⟨#[]⟩, 0, 3) else if (getR s x).2.1.toNat + (getR s x).1.toNat ≤ s.size then (s.extract (getR s x).2.1.toNat ((getR s x).2.1.toNat + (getR s x).1.toNat), ((getR s x).2.1.toNat : Int) + ((getR s x).1.toNat : Int), 0) else (⟨#[]⟩, 0, 4))
  else (⟨#[]⟩, 0, (getR s x).2.2)
theorem textR_size (s : ByteArray) (x : Int) : (textR s x).1.size ≤ s.size := by
  unfold textR
  split
  · split
    · exact Nat.zero_le _
    · split
      · simp; omega
      · exact Nat.zero_le _
  · exact Nat.zero_le _
theorem specTextR (s : ByteArray) (x : Int) (w : World) (hs : s.size ≤ maxLen) (hx : x ≤ 9223372036854775807) :
    Calls Tryz.prog 71 #[.string s, .int .i64 x] w fun e w' => e = .returned (textV (textR s x).1 (textR s x).2.1 (textR s x).2.2) ∧ Below w.heap.size w w' := by
  unfold textR
  by_cases hc : (getR s x).2.2 = 0
  · rw [if_pos hc]
    obtain ⟨h8, hq0, hq1⟩ := getR_ok s x hc
    have e : getR s x = ((getR s x).1, (getR s x).2.1, 0) := by rw [← hc]
    generalize (getR s x).1 = n at *
    generalize (getR s x).2.1 = q at *
    by_cases hn : n < 0 ∨ 8000 < n
    · rw [if_pos hn]; exact specText_B s x w hs hx n q e hn
    · rw [if_neg hn]
      obtain ⟨m, rfl⟩ := Int.eq_ofNat_of_zero_le (show 0 ≤ n by omega)
      obtain ⟨k, rfl⟩ := Int.eq_ofNat_of_zero_le hq0
      simp only [Int.toNat_natCast]
      by_cases hk : k + m ≤ s.size
      · rw [if_pos hk]; exact specText_D s x w hs hx m k e h8 (by omega) hk
      · rw [if_neg hk]; exact specText_C s x w hs hx m k e h8 (by omega) (by omega) (by omega)
  · rw [if_neg hc]
    exact specText_A s x w hs hx _ (getR_bad s x hc) (by rw [bne_iff_ne]; exact hc)
theorem implTextR (s : ByteArray) (x : Int) (w : World) (hs : s.size ≤ maxLen) (hx : x ≤ 9223372036854775807) (hL : Laid w) :
    Calls Tryz.prog 108 #[.string s, .int .i64 x] w fun e w' => e = .returned (textV (textR s x).1 (textR s x).2.1 (textR s x).2.2) ∧ Below w.heap.size w w' := by
  unfold textR
  by_cases hc : (getR s x).2.2 = 0
  · rw [if_pos hc]
    obtain ⟨h8, hq0, hq1⟩ := getR_ok s x hc
    have e : getR s x = ((getR s x).1, (getR s x).2.1, 0) := by rw [← hc]
    generalize (getR s x).1 = n at *
    generalize (getR s x).2.1 = q at *
    by_cases hn : n < 0 ∨ 8000 < n
    · rw [if_pos hn]; exact implText_B s x w hs hx hL n q e hn
    · rw [if_neg hn]
      obtain ⟨m, rfl⟩ := Int.eq_ofNat_of_zero_le (show 0 ≤ n by omega)
      obtain ⟨k, rfl⟩ := Int.eq_ofNat_of_zero_le hq0
      simp only [Int.toNat_natCast]
      by_cases hk : k + m ≤ s.size
      · rw [if_pos hk]; exact implText_D s x w hs hx hL m k e h8 (by omega) hk
      · rw [if_neg hk]; exact implText_C s x w hs hx hL m k e h8 (by omega) (by omega) (by omega)
  · rw [if_neg hc]
    exact implText_A s x w hs hx hL _ (getR_bad s x hc) (by rw [bne_iff_ne]; exact hc)
theorem getR_at (s : ByteArray) (x : Int) (hs : s.size ≤ maxLen) : 0 ≤ (getR s x).2.1 ∧ (getR s x).2.1 ≤ 8000 := by
  by_cases hc : (getR s x).2.2 = 0
  · obtain ⟨h8, hq0, hq1⟩ := getR_ok s x hc
    exact ⟨hq0, by omega⟩
  · rw [getR_bad s x hc]; simp
/-- The metadata that a sector holds. -/
def metaR (s : ByteArray) : Int × ByteArray × Int :=
  if (unsealT s).2 = 0 then
    (if (getR (unsealT s).1 0).2.2 = 0 ∧ (textR (unsealT s).1 (getR (unsealT s).1 0).2.1).2.2 = 0 ∧ ((metaB (getR (unsealT s).1 0).1 (textR (unsealT s).1 (getR (unsealT s).1 0).2.1).1).toList == s.toList) = true
     then ((getR (unsealT s).1 0).1, (textR (unsealT s).1 (getR (unsealT s).1 0).2.1).1, 0) else (0, ⟨#[]⟩, 3))
  else (0, ⟨#[]⟩, (unsealT s).2)
def metaV (R : Int × ByteArray × Int) : Value := .agg #[.int .i64 R.1, .string R.2.1, .int .i64 R.2.2]

end Go.Proofs.YtcpblmpapkhppaaGreatDoor
