/- The law FnExactGetText out of the contracts of the model's and the program's GetText. -/
import Derived.Test.YteboacnkjlmfkaaDoorText
namespace Go.Proofs.YteboacnkjlmfkaaDoor
open Go.RowKit

set_option maxHeartbeats 400000 in
theorem eqText_same (x : ByteArray) (a c : Int) (w : World) :
    Calls Tryd.prog 10 #[.agg #[.string x, .int .i64 a, .int .i64 c], .agg #[.string x, .int .i64 a, .int .i64 c]] w fun e w' => e = .returned (.bool true) ∧ Below w.heap.size w w' := by
  go_enter Tryd.func10, Tryd.ntmps10
  go_wp2_with fail
  go_ret
  exact ⟨rfl, ((Below.refl _ _).alloc (Nat.le_refl _) _).alloc (by simp) _⟩

set_option maxHeartbeats 400000 in
theorem getTextLaw_of (s t : ByteArray) (x a c : Int) (w : World) (h : s.size ≤ 1048576) (hL : Laid w)
    (hS : ∀ w, Calls Tryd.prog 8 #[.string s, .int .i64 x] w fun e w' => e = .returned (textV t a c) ∧ Below w.heap.size w w')
    (hI : ∀ w, Laid w → Calls Tryd.prog 9 #[.string s, .int .i64 x] w fun e w' => e = .returned (textV t a c) ∧ Below w.heap.size w w') :
    Calls Tryd.prog 4 #[.string s, .int .i64 x] w fun e w' => e = .returned (.bool true) ∧ Below w.heap.size w w' := by
  have HS := Lib.hid hS
  have HI := Lib.hid hI
  have HL := Lib.hid hL
  clear hS hI hL
  have hv : textV t a c = .agg #[.string t, .int .i64 a, .int .i64 c] := rfl
  go_enter Tryd.func4, Tryd.ntmps4
  go_wp2_with fail
  refine (HS.out _).mono ?_
  rintro e w1 ⟨rfl, hb1⟩
  have HL1 := Lib.hid ((HL.out.below hb1).alloc (.cells #[.string t, .int .i64 a, .int .i64 c] 28))
  rw [hv]
  go_wp2_with fail
  refine (HI.out _ HL1.out).mono ?_
  rintro e w2 ⟨rfl, hb2⟩
  rw [hv]
  obtain ⟨q0, q1, q2⟩ := laid_cells hb2 (laid_size _ _)
  have hz : w1.heap.size < w2.heap.size := Nat.lt_of_lt_of_le (laid_size _ _) hb2.size
  have hbb := (hb1.alloc hb1.size _).trans (hb2.mono (Nat.le_trans hb1.size (Nat.le_of_lt (laid_size _ _))))
  have HB := Lib.hid hbb
  clear hb1 hb2 hbb hv
  go_wp2_with fail
  refine (eqText_same t a c _).mono ?_
  rintro e w3 ⟨rfl, hb3⟩
  have hb' := (HB.out.alloc HB.out.size _).trans (hb3.mono (Nat.le_trans HB.out.size (Nat.le_of_lt (laid_size _ _))))
  clear hb3
  go_wp2_with fail
  go_ret
  exact ⟨rfl, hb'⟩

theorem getR_bad (s : ByteArray) (x : Int) (h : ¬ (getR s x).2.2 = 0) : getR s x = (0, 0, (getR s x).2.2) := by
  unfold getR at *
  by_cases h8 : 8000 < s.size
  · rw [if_pos h8]
  rw [if_neg h8] at h ⊢
  by_cases h0 : x < 0
  · rw [if_pos h0]
  rw [if_neg h0] at h ⊢
  exact goN_bad s _ _ _ _ h

set_option maxHeartbeats 400000 in
theorem getTextLaw (s : ByteArray) (x : Int) (w : World) (hs : s.size ≤ maxLen) (hx : x ≤ 9223372036854775807) (hL : Laid w) :
    Calls Tryd.prog 4 #[.string s, .int .i64 x] w fun e w' => e = .returned (.bool true) ∧ Below w.heap.size w w' := by
  by_cases h : 1048576 < s.size
  · unfold maxLen at hs
    go_enter Tryd.func4, Tryd.ntmps4
    go_wp2_with fail
    go_ret
    exact ⟨rfl, Below.refl _ _⟩
  have h' : s.size ≤ 1048576 := by omega
  by_cases hc : (getR s x).2.2 = 0
  · obtain ⟨h8, hq0, hq1⟩ := getR_ok s x hc
    have e : getR s x = ((getR s x).1, (getR s x).2.1, 0) := by rw [← hc]
    generalize (getR s x).1 = n at *
    generalize (getR s x).2.1 = q at *
    by_cases hn : n < 0 ∨ 8000 < n
    · exact getTextLaw_of s _ x _ _ w h' hL (fun w => specText_B s x w hs hx n q e hn) (fun w hl => implText_B s x w hs hx hl n q e hn)
    · obtain ⟨m, rfl⟩ := Int.eq_ofNat_of_zero_le (show 0 ≤ n by omega)
      obtain ⟨k, rfl⟩ := Int.eq_ofNat_of_zero_le hq0
      by_cases hk : k + m ≤ s.size
      · exact getTextLaw_of s _ x _ _ w h' hL (fun w => specText_D s x w hs hx m k e h8 (by omega) hk) (fun w hl => implText_D s x w hs hx hl m k e h8 (by omega) hk)
      · exact getTextLaw_of s _ x _ _ w h' hL (fun w => specText_C s x w hs hx m k e h8 (by omega) (by omega) (by omega)) (fun w hl => implText_C s x w hs hx hl m k e h8 (by omega) (by omega) (by omega))
  · have e := getR_bad s x hc
    have hne : ((getR s x).2.2 != 0) = true := by rw [bne_iff_ne]; exact hc
    exact getTextLaw_of s _ x _ _ w h' hL (fun w => specText_A s x w hs hx _ e hne) (fun w hl => implText_A s x w hs hx hl _ e hne)
end Go.Proofs.YteboacnkjlmfkaaDoor
