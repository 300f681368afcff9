/- A sector that MetaBytes made decodes: so comparing alone decides. Plain facts. -/
import Derived.Test.YthkbllkhomjmbaaDoorSMetaR
import Derived.Test.YthkbllkhomjmbaaDoorGMath
namespace Go.Proofs.YthkbllkhomjmbaaDoor
open Go.RowKit

theorem mputS_list (n : Int) : (putS n).data.toList = Lib.uvarint (Lib.zigzag n) := by simp [putS]
theorem mputS_len (n : Int) : (putS n).size = (Lib.uvarint (Lib.zigzag n)).length := by simp [putS, ByteArray.size]
/-- What PutNum lays is read again, whatever stands in front and behind. -/
theorem mread (n : Int) (h0 : -9223372036854775808 ≤ n) (h1 : n ≤ 9223372036854775807) (s : ByteArray) (p q : List UInt8) (hs : s.data.toList = p ++ ((putS n).data.toList ++ q)) :
    goN s p.length 10 0 0 = (n, ((p.length + (putS n).size : Nat) : Int), 0) := by
  have hz : s.size = p.length + (putS n).size + q.length := by
    rw [Lib.size_eq, hs, Lib.size_eq (putS n)]; simp; omega
  rw [mputS_list] at hs
  have hl := zz_lt n h0 h1
  rw [goN_read s p.length 10 0 0 (Lib.zigzag n) (.inr rfl) (by simpa using hl) (by omega) (At.of hs) (by rw [← mputS_len]; omega)]
  simp [unz_zigzag n, mputS_len]
theorem mgetR (s : ByteArray) (p : Nat) (h : s.size ≤ 8000) : getR s (p : Int) = goN s p 10 0 0 := by
  unfold getR
  rw [if_neg (by omega), if_neg (by omega)]; rfl
theorem mhead (t u : ByteArray) : (t ++ u).extract 0 t.size = t := by
  apply ByteArray.ext
  apply Array.toList_inj.1
  rw [Lib.extract_data]; simp
theorem toList_inj {a b : ByteArray} (h : (a.toList == b.toList) = true) : a = b := by
  have h := eq_of_beq h
  rw [Lib.toList_data, Lib.toList_data] at h
  exact ByteArray.ext (Array.toList_inj.1 h)
theorem unsealT_ok {s : ByteArray} (h : (unsealT s).2 = 0) : s.size ≤ 8000 ∧ 4 ≤ s.size ∧ (unsealT s).1 = s.extract 0 (s.size - 4) := by
  unfold unsealT at *
  split at h
  · cases h
  · rename_i h1
    rw [if_neg h1]
    split at h
    · cases h
    · rename_i h2
      rw [if_neg h2]
      split at h
      · rename_i h3; rw [if_pos h3]; exact ⟨by omega, by omega, rfl⟩
      · cases h
/-- The codes of what can't be unsealed. -/
theorem unsealT_code (s : ByteArray) : (unsealT s).2 = 0 ∨ (unsealT s).2 = 2 ∨ (unsealT s).2 = 4 ∨ (unsealT s).2 = 5 := by
  unfold unsealT
  split
  · exact .inr (.inl rfl)
  · split
    · exact .inr (.inr (.inl rfl))
    · split
      · exact .inl rfl
      · exact .inr (.inr (.inr rfl))
theorem decodes {s : ByteArray} (h0 : (unsealT s).2 = 0) (hm : ((metaB (getR (unsealT s).1 0).1 (textR (unsealT s).1 (getR (unsealT s).1 0).2.1).1).toList == s.toList) = true) :
    (getR (unsealT s).1 0).2.2 = 0 ∧ (textR (unsealT s).1 (getR (unsealT s).1 0).2.1).2.2 = 0 := by
  obtain ⟨hs8, hs4, ht⟩ := unsealT_ok h0
  have he := toList_inj hm
  generalize (textR (unsealT s).1 (getR (unsealT s).1 0).2.1).1 = x at he
  generalize hn : (getR (unsealT s).1 0).1 = n at he
  unfold metaB at he
  split at he
  · rename_i hc
    obtain ⟨⟨n0, n1⟩, hx⟩ := hc
    have hsz : s.size = (metaRaw n x).size + 4 := by rw [← he]; unfold sealS; rw [ByteArray.size_append, fourS_size]
    have hraw : (unsealT s).1 = metaRaw n x := by
      rw [ht, show s.size - 4 = (metaRaw n x).size by omega, ← he]; exact mhead _ _
    have hrs : (metaRaw n x).size ≤ 8000 := by omega
    rw [hraw]
    have e1 : getR (metaRaw n x) 0 = (n, (((putS n).size : Nat) : Int), 0) := by
      have := mgetR (metaRaw n x) 0 hrs
      rw [show ((0 : Nat) : Int) = 0 from rfl] at this
      rw [this]
      have := mread n (by omega) (by omega) (metaRaw n x) [] (putS x.size ++ x).data.toList (by unfold metaRaw; simp)
      simpa using this
    rw [e1]
    refine ⟨rfl, ?_⟩
    show (textR (metaRaw n x) (((putS n).size : Nat) : Int)).2.2 = 0
    have e2 : getR (metaRaw n x) (((putS n).size : Nat) : Int) = ((x.size : Int), (((putS n).size + (putS x.size).size : Nat) : Int), 0) := by
      rw [mgetR _ _ hrs]
      have := mread (x.size : Int) (by omega) (by omega) (metaRaw n x) (putS n).data.toList x.data.toList (by unfold metaRaw; simp)
      rw [show (putS n).data.toList.length = (putS n).size from (Lib.size_eq _).symm] at this
      exact this
    unfold textR
    rw [e2]
    rw [if_pos rfl, if_neg (by omega), if_pos]
    simp only [Int.toNat_natCast]
    unfold metaRaw
    rw [ByteArray.size_append, ByteArray.size_append]; omega
  · rw [← he] at hs4; simp at hs4
/-- MetaRead by comparing alone. -/
theorem metaR_cmp (s : ByteArray) : metaR s =
    if (unsealT s).2 = 0 then
      (if ((metaB (getR (unsealT s).1 0).1 (textR (unsealT s).1 (getR (unsealT s).1 0).2.1).1).toList == s.toList) = true
       then ((getR (unsealT s).1 0).1, (textR (unsealT s).1 (getR (unsealT s).1 0).2.1).1, 0) else (0, ⟨#[]⟩, 3))
    else (0, ⟨#[]⟩, (unsealT s).2) := by
  unfold metaR
  by_cases h0 : (unsealT s).2 = 0
  · rw [if_pos h0, if_pos h0]
    by_cases hm : ((metaB (getR (unsealT s).1 0).1 (textR (unsealT s).1 (getR (unsealT s).1 0).2.1).1).toList == s.toList) = true
    · rw [if_pos hm, if_pos ⟨(decodes h0 hm).1, (decodes h0 hm).2, hm⟩]
    · rw [if_neg hm, if_neg (fun h => hm h.2.2)]
  · rw [if_neg h0, if_neg h0]
end Go.Proofs.YthkbllkhomjmbaaDoor
