/- A sealed string in which one byte is changed is no sealed string. -/
import Derived.Test.YthkbllkhomjmbaaDoorCrcMath
import Derived.Lib.IndexBytes
namespace Go.Proofs.YthkbllkhomjmbaaDoor
open Go.RowKit

theorem octet_eq (c d : Int) (h : octet c = octet d) : c % 256 = d % 256 := by rw [octet_val, octet_val, h]
theorem fourL_inj (c d : Int) (hc : 0 ≤ c ∧ c ≤ 4294967295) (hd : 0 ≤ d ∧ d ≤ 4294967295) (h : fourL c = fourL d) : c = d := by
  unfold fourL at h
  simp only [List.cons.injEq, and_true] at h
  obtain ⟨h0, h1, h2, h3⟩ := h
  have a0 := octet_eq _ _ h0
  have a1 := octet_eq _ _ h1
  have a2 := octet_eq _ _ h2
  have a3 := octet_eq _ _ h3
  omega
theorem toList_ne (a b : ByteArray) (h : a.data.toList ≠ b.data.toList) : (a.toList == b.toList) = false := by
  rw [beq_eq_false_iff_ne, Lib.toList_data, Lib.toList_data]
  exact h

theorem seal_size (t : ByteArray) : (t ++ fourS (crcF 0 t)).size = t.size + 4 := by simp [fourS_size]
theorem seal_list (t : ByteArray) : (t ++ fourS (crcF 0 t)).data.toList = t.data.toList ++ fourL (crcF 0 t) := by
  simp [fourS]
theorem seal_changed (t s' : ByteArray) (i : Nat) (y : UInt8) (hi : i < t.size + 4)
    (hs : s'.data.toList = (t.data.toList ++ fourL (crcF 0 t)).set i y) (hy : (t.data.toList ++ fourL (crcF 0 t))[i]? ≠ some y) :
    ((s'.extract t.size s'.size).toList == (fourS (crcF 0 (s'.extract 0 t.size))).toList) = false := by
  have hlen : t.data.toList.length = t.size := (Lib.size_eq t).symm
  apply toList_ne
  have hd : (s'.extract t.size s'.size).data.toList = s'.data.toList.drop t.size := Lib.extract_to_end s' t.size
  have ht : (s'.extract 0 t.size).data.toList = s'.data.toList.take t.size := by rw [Lib.extract_data]; simp
  rw [hd]
  show _ ≠ (fourL _).toArray.toList
  rw [List.toList_toArray]
  by_cases h : i < t.size
  · have e : (t.data.toList ++ fourL (crcF 0 t)).set i y = t.data.toList.set i y ++ fourL (crcF 0 t) := List.set_append_left _ _ (by omega)
    rw [e] at hs
    have hx : t.data.toList[i]? ≠ some y := by rw [List.getElem?_append_left (by omega)] at hy; exact hy
    rw [hs, List.drop_left' (by simp)]
    intro hf
    have hb1 := crcF_bound 0 t
    have hb2 := crcF_bound 0 (s'.extract 0 t.size)
    have hc := fourL_inj _ _ hb1 hb2 hf
    have n1 : crcF 0 t = (crcN 0 (nums t) : Int) := crcF_nat 0 t (by omega)
    have n2 : crcF 0 (s'.extract 0 t.size) = (crcN 0 (nums (s'.extract 0 t.size)) : Int) := crcF_nat 0 _ (by omega)
    have hn : nums (s'.extract 0 t.size) = (nums t).set i y.toNat := by
      unfold nums; rw [ht, hs, List.take_left' (by simp), List.map_set]
    have hi' : i < (nums t).length := by rw [nums_length]; exact h
    rw [n1, n2, hn] at hc
    refine crcN_set (nums t) i y.toNat (nums_lt t) (UInt8.toNat_lt y) hi' ?_ (by omega)
    intro he
    apply hx
    rw [List.getElem?_eq_getElem (by omega)]
    congr 1
    apply UInt8.toNat_inj.1
    rw [he]; simp [nums]
  · have e : (t.data.toList ++ fourL (crcF 0 t)).set i y = t.data.toList ++ (fourL (crcF 0 t)).set (i - t.size) y := by
      rw [List.set_append_right _ _ (by omega), hlen]
    rw [e] at hs
    have h0 : s'.extract 0 t.size = t := by
      apply ByteArray.ext
      apply Array.toList_inj.1
      rw [ht, hs, List.take_left' hlen]
    rw [h0, hs, List.drop_left' hlen]
    intro hf
    have hx : (fourL (crcF 0 t))[i - t.size]? ≠ some y := by rw [List.getElem?_append_right (by omega), hlen] at hy; exact hy
    have hl4 : (fourL (crcF 0 t)).length = 4 := rfl
    apply hx
    have hf2 : (fourL (crcF 0 t)).set (i - t.size) y = fourL (crcF 0 t) := hf
    rw [← hf2, List.getElem?_set_self (by omega)]
end Go.Proofs.YthkbllkhomjmbaaDoor
