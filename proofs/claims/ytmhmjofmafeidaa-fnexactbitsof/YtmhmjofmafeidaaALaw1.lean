/- The exact laws of ListRight and BitsOf. -/
import Derived.Test.YtmhmjofmafeidaaABitsOf
namespace Go.Proofs.Ytmhmjofmafeidaa
open Go.RowKit

set_option maxRecDepth 100000 in
set_option maxHeartbeats 1000000 in
theorem listRightLaw (v : Value) (l : List Int) (w : World) (h : Rd w v l.length 1 (ints l)) (hq : l.length ≤ maxLen) :
    Calls Try.prog 5 #[v] w fun e w' => e = .returned (.bool true) ∧ Below w.heap.size w w' := by
  unfold maxLen at hq
  obtain ⟨a, c, rfl, -⟩ := id h.2
  have HR := Lib.hid h
  clear h
  by_cases hbig : 1048576 < l.length
  · have d0 : (1048576 : Int) < (l.length : Int) := by omega
    go_enter Try.func5, Try.ntmps5
    go_wp2_with fail
    go_ret
    exact ⟨rfl, Below.refl _ _⟩
  have d0 : decide ((1048576 : Int) < (l.length : Int)) = false := decide_eq_false (by omega)
  have hn : l.length ≤ 1048576 := by omega
  have HN := Lib.hid hn
  clear hn
  go_enter Try.func5, Try.ntmps5
  go_wp2_with fail
  refine (toInts_any _ l w HR.out HN.out).mono ?_
  rintro e w1 ⟨v1, rfl, ho1, hb1⟩
  obtain ⟨a1, c1, rfl, -⟩ := id ho1.2
  have B1 := Lib.hid hb1
  have O1 := Lib.hid ho1
  clear ho1 hb1
  go_wp2_with fail
  refine (specRightL _ l w1 O1.out.rd HN.out).mono ?_
  rintro e w2 ⟨rfl, hst⟩
  have hb2 := hst.below w1.heap.size
  have g1 : w.heap.size ≤ w1.heap.size := B1.out.size
  have B2 := Lib.hid (B1.out.trans (hb2.mono g1))
  clear hst hb2 O1 B1
  obtain ⟨r, hr⟩ : ∃ r, r = okL l := ⟨_, rfl⟩
  rw [← hr]
  have HV := Lib.hid hr
  clear hr
  go_wp2_with fail
  refine (toInts_any _ l w2 (HR.out.below B2.out (Nat.le_refl _)) HN.out).mono ?_
  rintro e w3 ⟨v3, rfl, ho3, hb3⟩
  obtain ⟨a3, c3, rfl, -⟩ := id ho3.2
  have g2 : w.heap.size ≤ w2.heap.size := B2.out.size
  have B3 := Lib.hid (B2.out.trans (hb3.mono g2))
  have O3 := Lib.hid ho3
  clear ho3 hb3 B2
  go_wp2_with fail
  refine (implRightL _ l w3 O3.out.rd HN.out).mono ?_
  rintro e w4 ⟨rfl, rfl⟩
  rw [← HV.out]
  have d1 : (r != r) = false := by simp
  go_wp2_with fail
  refine (toInts_any _ l _ (HR.out.below B3.out (Nat.le_refl _)) HN.out).mono ?_
  rintro e w5 ⟨v5, rfl, ho5, hb5⟩
  obtain ⟨a5, c5, rfl, -⟩ := id ho5.2
  have g3 := B3.out.size
  have B5 := Lib.hid (B3.out.trans (hb5.mono g3))
  have O5 := Lib.hid ho5
  have P5 := Lib.hid (O3.out.below hb5 (Nat.le_refl _))
  clear ho5 hb5 B3 O3
  go_wp2_with fail
  refine (eqInts_any _ _ l w5 P5.out.rd O5.out.rd (by unfold maxLen; omega)).mono ?_
  rintro e w6 ⟨rfl, hst⟩
  have B6 := Lib.hid (B5.out.trans (hst.below _))
  clear hst
  go_wp2_with fail
  go_ret
  exact ⟨rfl, B6.out⟩

set_option maxRecDepth 100000 in
set_option maxHeartbeats 1000000 in
theorem bitsOfLaw (v : Value) (l : List Int) (w : World) (h : Rd w v l.length 1 (ints l)) (hq : l.length ≤ maxLen) :
    Calls Try.prog 8 #[v] w fun e w' => e = .returned (.bool true) ∧ Below w.heap.size w w' := by
  unfold maxLen at hq
  obtain ⟨a, c, rfl, -⟩ := id h.2
  have HR := Lib.hid h
  clear h
  by_cases hbig : 1048576 < l.length
  · have d0 : (1048576 : Int) < (l.length : Int) := by omega
    go_enter Try.func8, Try.ntmps8
    go_wp2_with fail
    go_ret
    exact ⟨rfl, Below.refl _ _⟩
  have d0 : decide ((1048576 : Int) < (l.length : Int)) = false := decide_eq_false (by omega)
  have hn : l.length ≤ 1048576 := by omega
  have HN := Lib.hid hn
  clear hn
  go_enter Try.func8, Try.ntmps8
  go_wp2_with fail
  refine (toInts_any _ l w HR.out HN.out).mono ?_
  rintro e w1 ⟨v1, rfl, ho1, hb1⟩
  obtain ⟨a1, c1, rfl, -⟩ := id ho1.2
  have B1 := Lib.hid hb1
  have O1 := Lib.hid ho1
  clear ho1 hb1
  go_wp2_with fail
  refine (specBitsOf _ l w1 O1.out.rd HN.out).mono ?_
  rintro e w2 ⟨rfl, hst⟩
  have hb2 := hst.below w1.heap.size
  have g1 : w.heap.size ≤ w1.heap.size := B1.out.size
  have B2 := Lib.hid (B1.out.trans (hb2.mono g1))
  clear hst hb2 O1 B1
  obtain ⟨r, hr⟩ : ∃ r, r = maskL l := ⟨_, rfl⟩
  rw [← hr]
  have HV := Lib.hid hr
  clear hr
  go_wp2_with fail
  refine (toInts_any _ l w2 (HR.out.below B2.out (Nat.le_refl _)) HN.out).mono ?_
  rintro e w3 ⟨v3, rfl, ho3, hb3⟩
  obtain ⟨a3, c3, rfl, -⟩ := id ho3.2
  have g2 : w.heap.size ≤ w2.heap.size := B2.out.size
  have B3 := Lib.hid (B2.out.trans (hb3.mono g2))
  have O3 := Lib.hid ho3
  clear ho3 hb3 B2
  go_wp2_with fail
  refine (implBitsOf _ l w3 O3.out.rd HN.out).mono ?_
  rintro e w4 ⟨rfl, rfl⟩
  rw [← HV.out]
  have d1 : (r != r) = false := by simp
  go_wp2_with fail
  refine (toInts_any _ l _ (HR.out.below B3.out (Nat.le_refl _)) HN.out).mono ?_
  rintro e w5 ⟨v5, rfl, ho5, hb5⟩
  obtain ⟨a5, c5, rfl, -⟩ := id ho5.2
  have g3 := B3.out.size
  have B5 := Lib.hid (B3.out.trans (hb5.mono g3))
  have O5 := Lib.hid ho5
  have P5 := Lib.hid (O3.out.below hb5 (Nat.le_refl _))
  clear ho5 hb5 B3 O3
  go_wp2_with fail
  refine (eqInts_any _ _ l w5 P5.out.rd O5.out.rd (by unfold maxLen; omega)).mono ?_
  rintro e w6 ⟨rfl, hst⟩
  have B6 := Lib.hid (B5.out.trans (hst.below _))
  clear hst
  go_wp2_with fail
  go_ret
  exact ⟨rfl, B6.out⟩
end Go.Proofs.Ytmhmjofmafeidaa
