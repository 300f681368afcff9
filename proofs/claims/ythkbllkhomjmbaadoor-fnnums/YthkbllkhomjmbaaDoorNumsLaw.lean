/- The law FnNums out of the contracts. -/
import Derived.Test.YthkbllkhomjmbaaDoorNumsDraw
import Derived.Test.YthkbllkhomjmbaaDoorText
import Derived.Test.YthkbllkhomjmbaaDoorGText
import Derived.Test.YthkbllkhomjmbaaDoorGMath
namespace Go.Proofs.YthkbllkhomjmbaaDoor
open Go.RowKit

theorem notEmpty (S : ByteArray) (h : 0 < S.size) : S.toList.isEmpty = false := by
  rw [Lib.toList_data]
  have := Lib.size_eq S
  cases e : S.data.toList with
  | nil => rw [e, List.length_nil] at this; omega
  | cons _ _ => rfl
theorem putS_list (n : Int) : (putS n).data.toList = Lib.uvarint (Lib.zigzag n) := by simp [putS]
theorem putS_len (n : Int) : (putS n).size = (Lib.uvarint (Lib.zigzag n)).length := by simp [putS, ByteArray.size]
theorem putS_pos (n : Int) : 1 ≤ (putS n).size := by rw [putS_len]; exact Lib.uvarint_pos _
/-- What PutNum lays is read again, whatever stands in front and behind. -/
theorem read_own (n : Int) (h0 : -9223372036854775808 ≤ n) (h1 : n ≤ 9223372036854775807) (s : ByteArray) (p q : List UInt8) (hs : s.data.toList = p ++ ((putS n).data.toList ++ q)) :
    goN s p.length 10 0 0 = (n, ((p.length + (putS n).size : Nat) : Int), 0) := by
  have hz : s.size = p.length + (putS n).size + q.length := by
    rw [Lib.size_eq, hs, Lib.size_eq (putS n)]; simp; omega
  rw [putS_list] at hs
  have hl := zz_lt n h0 h1
  rw [goN_read s p.length 10 0 0 (Lib.zigzag n) (.inr rfl) (by simpa using hl) (by omega) (At.of hs) (by rw [← putS_len]; omega)]
  simp [unz_zigzag n, putS_len]
theorem read_cut (n : Int) (h0 : -9223372036854775808 ≤ n) (h1 : n ≤ 9223372036854775807) (s : ByteArray) (hs : s.data.toList = (putS n).data.toList.dropLast) :
    goN s 0 10 0 0 = (0, 0, 4) := by
  have hp := putS_pos n
  have hz : s.size + 1 = (putS n).size := by
    rw [Lib.size_eq, hs, List.length_dropLast, ← Lib.size_eq]; omega
  have hl := zz_lt n h0 h1
  rw [putS_list] at hs
  exact goN_cut s 0 10 0 0 (Lib.zigzag n) (by simpa using hl) (by omega) (by omega) (At.of (p := []) (q := []) (by simpa using hs)) (by rw [← putS_len]; omega)
theorem cut_list (s : ByteArray) : (s.extract 0 (s.size - 1)).data.toList = s.data.toList.dropLast := by
  rw [Lib.extract_data, List.dropLast_eq_take, ← Lib.size_eq]; simp

theorem getNum_own (n : Int) (w : World) (h0 : -9223372036854775808 ≤ n) (h1 : n ≤ 9223372036854775807) :
    Calls Tryd.prog 14 #[.string (⟨#[120, 121]⟩ ++ putS n ++ ⟨#[122]⟩), .int .i64 2] w fun e w' => e = .returned (.agg #[.int .i64 n, .int .i64 ((putS n).size + 2), .int .i64 0]) ∧ Below w.heap.size w w' := by
  have hz := putS_size n h0 h1
  have hR := read_own n h0 h1 (⟨#[120, 121]⟩ ++ putS n ++ ⟨#[122]⟩) [120, 121] [122] (by simp)
  have e : ((([120, 121] : List UInt8).length + (putS n).size : Nat) : Int) = (putS n).size + 2 := by
    simp only [List.length_cons, List.length_nil]; omega
  rw [e] at hR
  have hsz : (⟨#[120, 121]⟩ ++ putS n ++ ⟨#[122]⟩ : ByteArray).size ≤ 8000 := by
    rw [ByteArray.size_append, ByteArray.size_append]
    have e1 : (⟨#[120, 121]⟩ : ByteArray).size = 2 := rfl
    have e2 : (⟨#[122]⟩ : ByteArray).size = 1 := rfl
    omega
  generalize (⟨#[120, 121]⟩ ++ putS n ++ ⟨#[122]⟩ : ByteArray) = s at *
  generalize ((putS n).size + 2 : Int) = q at *
  exact implGet_ok s 2 w hsz (by omega) n q hR
theorem getNum_cut (n : Int) (s : ByteArray) (w : World) (h0 : -9223372036854775808 ≤ n) (h1 : n ≤ 9223372036854775807) (hL : Laid w) (hs : s.data.toList = (putS n).data.toList.dropLast) :
    Calls Tryd.prog 14 #[.string s, .int .i64 0] w fun e w' => e = .returned (.agg #[.int .i64 0, .int .i64 0, .int .i64 4]) ∧ Below w.heap.size w w' := by
  have hz := putS_size n h0 h1
  have hsz : s.size ≤ 8000 := by rw [Lib.size_eq, hs, List.length_dropLast, ← Lib.size_eq]; omega
  exact implGet_err s 0 w hsz (by omega) hL 4 (by omega) (read_cut n h0 h1 s hs)
theorem getR_of (s : ByteArray) (p : Nat) (h : s.size ≤ 8000) : getR s (p : Int) = goN s p 10 0 0 := by
  unfold getR
  rw [if_neg (by omega), if_neg (by omega)]; rfl
theorem own_part (a b u : ByteArray) : (a ++ (b ++ u)).extract (a.size + b.size) (a.size + b.size + u.size) = u := by
  apply ByteArray.ext
  apply Array.toList_inj.1
  rw [Lib.extract_data]
  have e1 : a.data.toList.length = a.size := (Lib.size_eq a).symm
  have e2 : b.data.toList.length = b.size := (Lib.size_eq b).symm
  have e3 : u.data.toList.length = u.size := (Lib.size_eq u).symm
  rw [show (a ++ (b ++ u)).data.toList = (a.data.toList ++ b.data.toList) ++ u.data.toList by simp]
  rw [List.drop_left' (by simp [e1, e2]), List.take_of_length_le (by omega)]
theorem getText_own (u : ByteArray) (w : World) (hu : u.size ≤ 19) (hL : Laid w) :
    Calls Tryd.prog 18 #[.string (⟨#[120]⟩ ++ (putS u.size ++ u)), .int .i64 1] w fun e w' => e = .returned (.agg #[.string u, .int .i64 ((putS u.size ++ u).size + 1), .int .i64 0]) ∧ Below w.heap.size w w' := by
  have hz := putS_size u.size (by omega) (by omega)
  have e1 : (⟨#[120]⟩ : ByteArray).size = 1 := rfl
  have hsz : (⟨#[120]⟩ ++ (putS u.size ++ u) : ByteArray).size = 1 + (putS u.size).size + u.size := by
    rw [ByteArray.size_append, ByteArray.size_append]; omega
  have hR := read_own u.size (by omega) (by omega) (⟨#[120]⟩ ++ (putS u.size ++ u)) [120] u.data.toList (by simp)
  have hR' := (getR_of (⟨#[120]⟩ ++ (putS u.size ++ u)) 1 (by omega)).trans hR
  have hp := own_part ⟨#[120]⟩ (putS u.size) u
  rw [e1] at hp
  rw [show ([120] : List UInt8).length = 1 from rfl] at hR'
  have hq : (((1 + (putS u.size).size : Nat) : Int) + (u.size : Nat)) = ((putS u.size ++ u).size : Nat) + 1 := by
    rw [ByteArray.size_append]; omega
  have hg := implText_D (⟨#[120]⟩ ++ (putS u.size ++ u)) 1 w (by unfold maxLen; omega) (by omega) hL u.size (1 + (putS u.size).size) hR' (by omega) (by omega) (by omega)
  rw [hp, hq] at hg
  exact hg
theorem getText_cut (u s : ByteArray) (w : World) (hu : u.size ≤ 19) (hL : Laid w) (hs : s.data.toList = (putS u.size ++ u).data.toList.dropLast) :
    Calls Tryd.prog 18 #[.string s, .int .i64 0] w fun e w' => e = .returned (.agg #[.string ⟨#[]⟩, .int .i64 0, .int .i64 4]) ∧ Below w.heap.size w w' := by
  have hz := putS_size u.size (by omega) (by omega)
  have hp := putS_pos u.size
  have hsz : s.size + 1 = (putS u.size).size + u.size := by
    rw [Lib.size_eq, hs, List.length_dropLast, ← Lib.size_eq, ByteArray.size_append]; omega
  have e3 : u.data.toList.length = u.size := (Lib.size_eq u).symm
  by_cases h : u.size = 0
  · have hnil : u.data.toList = [] := List.length_eq_zero_iff.1 (by omega)
    have hR := read_cut u.size (by omega) (by omega) s (by rw [hs]; simp [hnil])
    exact implText_A s 0 w (by unfold maxLen; omega) (by omega) hL 4 ((getR_of s 0 (by omega)).trans hR) rfl
  · have hne : u.data.toList ≠ [] := by intro e; rw [e] at e3; simp at e3; omega
    have hl : s.data.toList = [] ++ ((putS u.size).data.toList ++ u.data.toList.dropLast) := by
      rw [hs, List.nil_append, show (putS u.size ++ u).data.toList = (putS u.size).data.toList ++ u.data.toList by simp, List.dropLast_append_of_ne_nil hne]
    have hR := (getR_of s 0 (by omega)).trans (read_own u.size (by omega) (by omega) s [] _ hl)
    rw [show ([] : List UInt8).length + (putS u.size).size = (putS u.size).size by simp] at hR
    exact implText_C s 0 w (by unfold maxLen; omega) (by omega) hL u.size (putS u.size).size hR (by omega) (by omega) (by omega) (by omega)
theorem field_num (n a c : Int) (w : World) : (Instr.field 26 (.agg #[.int .i64 n, .int .i64 a, .int .i64 c]) 2).run Tryd.prog w = .ok (.int .i64 c) w := by
  simp [Instr.field, go_sem, asAgg]
theorem field_text (s : ByteArray) (a c : Int) (w : World) : (Instr.field 31 (.agg #[.string s, .int .i64 a, .int .i64 c]) 2).run Tryd.prog w = .ok (.int .i64 c) w := by
  simp [Instr.field, go_sem, asAgg]

set_option maxHeartbeats 1000000 in
set_option maxRecDepth 100000 in
theorem numsLaw_mid (a0 a1 : Option Addr) (len0 cap0 len1 cap1 : Nat) (w : World) (hB0 : Bytes w a0 len0) (hB1 : Bytes w a1 len1) (h0 : len0 ≤ 1048576) (h1 : len1 ≤ 1048576) (hL : Laid w) :
    Calls Tryd.prog 3 #[.slice a0 len0 cap0, .slice a1 len1 cap1] w fun e w' => e = .returned (.bool true) ∧ Below w.heap.size w w' := by
  have HB0 := Lib.hid hB0
  have HB1 := Lib.hid hB1
  have HL := Lib.hid hL
  clear hB0 hB1 hL
  go_enter Tryd.func3, Tryd.ntmps3
  go_wp2_with fail
  refine (drawPutNum_any a0 len0 cap0 _ HB0.out h0).mono ?_
  rintro e w1 ⟨n, ⟨hn0, hn1⟩, rfl, hb1⟩
  have HW1 := Lib.hid hb1
  clear hb1
  obtain ⟨T, hT⟩ : ∃ T, T = putS n := ⟨_, rfl⟩
  have HT := Lib.hid hT
  have hT1 : 1 ≤ T.size := by rw [hT]; exact putS_pos n
  have hT2 : T.size ≤ 10 := by rw [hT]; exact putS_size n hn0 hn1
  clear hT
  go_wp2_with fail
  refine (implPut n _ hn0 hn1).mono ?_
  rintro e w2 ⟨rfl, hb2⟩
  rw [← HT.out]
  have HW2 := Lib.hid (HW1.out.trans (hb2.mono HW1.out.size))
  clear hb2
  go_wp2_with fail
  refine (specPut n _ hn0 hn1).mono ?_
  rintro e w3 ⟨rfl, hb3⟩
  rw [← HT.out]
  have HW3 := Lib.hid (HW2.out.trans (hb3.mono HW2.out.size))
  clear hb3
  go_wp2_with fail
  have hu := getNum_own n w3 hn0 hn1
  rw [← HT.out] at hu
  refine hu.mono ?_
  rintro e w4 ⟨rfl, hb4⟩
  have HW4 := Lib.hid (HW3.out.trans (hb4.mono HW3.out.size))
  clear hb4 hu
  go_wp2_with fail
  refine (getNum_cut n _ _ hn0 hn1 ((HL.out.below HW4.out).alloc _) (by rw [cut_list, HT.out])).mono ?_
  rintro e w5 ⟨rfl, hb5⟩
  have HW5 := Lib.hid ((HW4.out.alloc HW4.out.size _).trans (hb5.mono (HW4.out.alloc HW4.out.size _).size))
  clear hb5
  have hfc := field_num 0 0 4 w5
  go_wp2_with fail
  refine (drawPutText_any a1 len1 cap1 _ (HB1.out.below HW5.out) h1).mono ?_
  rintro e w6 ⟨u, hu, rfl, hb6⟩
  have HW6 := Lib.hid (HW5.out.trans (hb6.mono HW5.out.size))
  clear hb6 hfc
  rcases hu with hu | ⟨hu, hu'⟩
  · obtain ⟨R, hR⟩ : ∃ R, R = putS u.size ++ u := ⟨_, rfl⟩
    have HR := Lib.hid hR
    have hz := putS_size u.size (by omega) (by omega)
    have hp := putS_pos u.size
    have hR1 : 1 ≤ R.size := by rw [hR, ByteArray.size_append]; omega
    have hR2 : R.size ≤ 29 := by rw [hR, ByteArray.size_append]; omega
    have HU := Lib.hid hu
    clear hR hz hp hu
    have hne := notEmpty R (by omega)
    go_wp2_with fail
    refine (implText_any u _ (by have := HU.out; omega)).mono ?_
    rintro e w7 ⟨rfl, hb7⟩
    rw [← HR.out]
    have HW7 := Lib.hid (HW6.out.trans (hb7.mono HW6.out.size))
    clear hb7
    go_wp2_with fail
    refine (specText_any u _ (by have := HU.out; omega)).mono ?_
    rintro e w8 ⟨rfl, hb8⟩
    rw [← HR.out]
    have HW8 := Lib.hid (HW7.out.trans (hb8.mono HW7.out.size))
    clear hb8
    go_wp2_with fail
    have hu := getText_own u w8 HU.out (HL.out.below HW8.out)
    rw [← HR.out] at hu
    refine hu.mono ?_
    rintro e w9 ⟨rfl, hb9⟩
    have HW9 := Lib.hid (HW8.out.trans (hb9.mono HW8.out.size))
    clear hb9 hu
    go_wp2_with fail
    refine (getText_cut u _ _ HU.out (HL.out.below HW9.out) (by rw [cut_list, HR.out])).mono ?_
    rintro e w10 ⟨rfl, hb10⟩
    have HW10 := Lib.hid (HW9.out.trans (hb10.mono HW9.out.size))
    clear hb10
    have hfc := field_text ⟨#[]⟩ 0 4 w10
    go_wp2_with fail
    go_ret
    exact ⟨rfl, HW10.out⟩
  · have hu8 : 8000 < u.size := by omega
    go_wp2_with fail
    refine (implText_long u _ (by unfold maxLen; omega) hu8).mono ?_
    rintro e w7 ⟨rfl, rfl⟩
    go_wp2_with fail
    refine (specText_long u _ (by unfold maxLen; omega) hu8).mono ?_
    rintro e w7 ⟨rfl, rfl⟩
    go_wp2_with fail
    refine (specText_long u _ (by unfold maxLen; omega) hu8).mono ?_
    rintro e w7 ⟨rfl, rfl⟩
    go_wp2_with fail
    go_ret
    exact ⟨rfl, HW6.out⟩
theorem numsLaw_any (a0 a1 : Option Addr) (len0 cap0 len1 cap1 : Nat) (w : World) (hB0 : Bytes w a0 len0) (hB1 : Bytes w a1 len1) (m0 : len0 ≤ maxLen) (m1 : len1 ≤ maxLen) (hL : Laid w) :
    Calls Tryd.prog 3 #[.slice a0 len0 cap0, .slice a1 len1 cap1] w fun e w' => e = .returned (.bool true) ∧ Below w.heap.size w w' := by
  unfold maxLen at m0 m1
  by_cases h0 : len0 ≤ 1048576
  · by_cases h1 : len1 ≤ 1048576
    · exact numsLaw_mid a0 a1 len0 cap0 len1 cap1 w hB0 hB1 h0 h1 hL
    · clear hB0 hB1 hL
      go_enter Tryd.func3, Tryd.ntmps3
      go_wp2_with fail
      go_ret
      exact ⟨rfl, Below.refl _ _⟩
  · clear hB0 hB1 hL
    go_enter Tryd.func3, Tryd.ntmps3
    go_wp2_with fail
    go_ret
    exact ⟨rfl, Below.refl _ _⟩
end Go.Proofs.YthkbllkhomjmbaaDoor
