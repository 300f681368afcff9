/- The exact laws of FromBits and FreeOf. -/
import Derived.Test.YtmhmjofmafeidaaAFree
import Derived.Test.YtmhmjofmafeidaaAOb
import Derived.Test.YtmhmjofmafeidaaAMark
namespace Go.Proofs.Ytmhmjofmafeidaa
open Go.RowKit

set_option maxRecDepth 100000 in
set_option maxHeartbeats 2000000 in
theorem fromBitsLaw (a0 : Int) (w : World)  (i0 : -9223372036854775808 ≤ a0) (i1 : a0 ≤ 9223372036854775807) :
    Calls Try.prog 9 #[.int .i64 a0] w fun e w' => e = .returned (.bool true) ∧ Below w.heap.size w w' := by
  obtain ⟨R, hR⟩ : ∃ R, R = fromB a0 := ⟨_, rfl⟩
  have hRl : R.length ≤ 24 := by rw [hR]; exact fromB_len a0
  have HV := Lib.hid hR
  clear hR
  go_enter Try.func9, Try.ntmps9
  go_wp2_with fail
  have hc := (specFromB a0 w i0 i1).mono fun _ _ h => h.row
  rw [← HV.out] at hc
  refine hc.mono ?_
  clear hc
  rintro e w1 ⟨v1, rfl, ho, hb⟩
  obtain ⟨a1, c1, rfl, -⟩ := id ho.2
  have g1 : w.heap.size ≤ w1.heap.size := hb.size
  have B := Lib.hid hb
  have T := Lib.hid (Ob.new ho)
  clear ho hb
  go_wp2_with fail
  have hc := (implFromB a0 w1 i0 i1).mono fun _ _ h => h.row
  rw [← HV.out] at hc
  refine hc.mono ?_
  clear hc
  rintro e w2 ⟨v2, rfl, ho, hb⟩
  obtain ⟨a2, c2, rfl, -⟩ := id ho.2
  have g2 : w1.heap.size ≤ w2.heap.size := hb.size
  replace B := Lib.hid (B.out.trans (hb.mono B.out.size))
  replace T := Lib.hid (T.out.below hb (Nat.le_refl _))
  have G := Lib.hid (Ob.new ho)
  clear ho hb
  go_wp2_with fail
  refine (eqInts_any _ _ R w2 G.out.rd T.out.rd (by unfold maxLen; omega)).mono ?_
  rintro e w3 ⟨rfl, hst⟩
  have hb := hst.below w2.heap.size
  clear hst
  have g3 : w2.heap.size ≤ w3.heap.size := hb.size
  replace B := Lib.hid (B.out.trans (hb.mono B.out.size))
  replace T := Lib.hid (T.out.below hb (Nat.le_refl _))
  replace G := Lib.hid (G.out.below hb (Nat.le_refl _))
  clear hb
  go_wp2_with fail
  refine (markIs_any w1.heap.size _ R.length 1 _ w3 G.out.own (by omega) (by omega) (by omega)).mono ?_
  rintro e w4 ⟨rfl, hm, hg⟩
  have G' := Lib.hid (G.out.marked hm)
  clear hm
  have hu := G.out.range
  have g4 : w3.heap.size ≤ w4.heap.size := hg.size
  replace B := Lib.hid (B.out.trans ((grown_below hg hu (by omega)).mono (by omega)))
  replace T := Lib.hid (T.out.grown hg hu (by omega))
  clear hg hu
  clear G
  have G := G'
  clear G'
  obtain ⟨z, hz⟩ : ∃ z : Int, z = ((1 + R.length : Nat) : Int) := ⟨_, rfl⟩
  rw [← hz]
  have dz : decide (z < 0) = false := decide_eq_false (by omega)
  have HZ := Lib.hid hz
  clear hz
  go_wp2_with fail
  refine (heldIs_any _ R.length 1 w4 G.out.rd (by omega) (by omega) (by omega)).mono ?_
  rintro e w5 ⟨rfl, hb⟩
  rw [← HZ.out]
  have g5 : w4.heap.size ≤ w5.heap.size := hb.size
  replace B := Lib.hid (B.out.trans (hb.mono B.out.size))
  replace T := Lib.hid (T.out.below hb (Nat.le_refl _))
  replace G := Lib.hid (G.out.below hb (Nat.le_refl _))
  clear hb
  go_wp2_with fail
  have hc := (implFromB a0 w5 i0 i1).mono fun _ _ h => h.row
  rw [← HV.out] at hc
  refine hc.mono ?_
  clear hc
  rintro e w6 ⟨v6, rfl, ho, hb⟩
  obtain ⟨a6, c6, rfl, -⟩ := id ho.2
  have g6 : w5.heap.size ≤ w6.heap.size := hb.size
  replace B := Lib.hid (B.out.trans (hb.mono B.out.size))
  replace T := Lib.hid (T.out.below hb (Nat.le_refl _))
  replace G := Lib.hid (G.out.below hb (Nat.le_refl _))
  have K := Lib.hid (Ob.new ho)
  clear ho hb
  go_wp2_with fail
  refine (eqInts_any _ _ R w6 K.out.rd T.out.rd (by unfold maxLen; omega)).mono ?_
  rintro e w7 ⟨rfl, hst⟩
  have hb := hst.below w6.heap.size
  clear hst
  have g7 : w6.heap.size ≤ w7.heap.size := hb.size
  replace B := Lib.hid (B.out.trans (hb.mono B.out.size))
  replace T := Lib.hid (T.out.below hb (Nat.le_refl _))
  replace G := Lib.hid (G.out.below hb (Nat.le_refl _))
  replace K := Lib.hid (K.out.below hb (Nat.le_refl _))
  clear hb
  go_wp2_with fail
  refine (heldIs_any _ R.length 1 w7 G.out.rd (by omega) (by omega) (by omega)).mono ?_
  rintro e w8 ⟨rfl, hb⟩
  rw [← HZ.out]
  have g8 : w7.heap.size ≤ w8.heap.size := hb.size
  replace B := Lib.hid (B.out.trans (hb.mono B.out.size))
  replace T := Lib.hid (T.out.below hb (Nat.le_refl _))
  replace G := Lib.hid (G.out.below hb (Nat.le_refl _))
  replace K := Lib.hid (K.out.below hb (Nat.le_refl _))
  clear hb
  go_wp2_with fail
  go_ret
  exact ⟨rfl, B.out⟩

set_option maxRecDepth 100000 in
set_option maxHeartbeats 2000000 in
theorem freeOfLaw (v00 : Value) (l0 : List Int) (v10 : Value) (l1 : List Int) (w : World) (h0 : Rd w v00 l0.length 1 (ints l0)) (q0 : l0.length ≤ maxLen) (h1 : Rd w v10 l1.length 1 (ints l1)) (q1 : l1.length ≤ maxLen)  :
    Calls Try.prog 10 #[v00, v10] w fun e w' => e = .returned (.bool true) ∧ Below w.heap.size w w' := by
  unfold maxLen at q0
  obtain ⟨a00, c00, rfl, -⟩ := id h0.2
  have H0 := Lib.hid h0
  clear h0
  unfold maxLen at q1
  obtain ⟨a10, c10, rfl, -⟩ := id h1.2
  have H1 := Lib.hid h1
  clear h1
  by_cases big0 : 1048576 < l0.length
  · have d0 : (1048576 : Int) < (l0.length : Int) := by omega
    go_enter Try.func10, Try.ntmps10
    go_wp2_with fail
    go_ret
    exact ⟨rfl, Below.refl _ _⟩
  have d0 : decide ((1048576 : Int) < (l0.length : Int)) = false := decide_eq_false (by omega)
  have n0 : l0.length ≤ 1048576 := by omega
  have N0 := Lib.hid n0
  clear n0
  by_cases big1 : 1048576 < l1.length
  · have d1 : (1048576 : Int) < (l1.length : Int) := by omega
    go_enter Try.func10, Try.ntmps10
    go_wp2_with fail
    go_ret
    exact ⟨rfl, Below.refl _ _⟩
  have d1 : decide ((1048576 : Int) < (l1.length : Int)) = false := decide_eq_false (by omega)
  have n1 : l1.length ≤ 1048576 := by omega
  have N1 := Lib.hid n1
  clear n1
  obtain ⟨R, hR⟩ : ∃ R, R = freeL l0 l1 := ⟨_, rfl⟩
  have hRl : R.length ≤ 24 := by rw [hR]; exact freeL_len l0 l1
  have HV := Lib.hid hR
  clear hR
  go_enter Try.func10, Try.ntmps10
  go_wp2_with fail
  refine (toInts_any _ l0 w H0.out N0.out).mono ?_
  rintro e w1 ⟨v1, rfl, ho, hb⟩
  obtain ⟨a1, c1, rfl, -⟩ := id ho.2
  have g1 : w.heap.size ≤ w1.heap.size := hb.size
  have B := Lib.hid hb
  have X0 := Lib.hid (Ob.new ho)
  clear ho hb
  go_wp2_with fail
  refine (toInts_any _ l1 w1 (H1.out.below B.out (Nat.le_refl _)) N1.out).mono ?_
  rintro e w2 ⟨v2, rfl, ho, hb⟩
  obtain ⟨a2, c2, rfl, -⟩ := id ho.2
  have g2 : w1.heap.size ≤ w2.heap.size := hb.size
  replace B := Lib.hid (B.out.trans (hb.mono B.out.size))
  replace X0 := Lib.hid (X0.out.below hb (Nat.le_refl _))
  have X1 := Lib.hid (Ob.new ho)
  clear ho hb
  go_wp2_with fail
  have hc := (specFree _ _ l0 l1 w2 X0.out.rd X1.out.rd N0.out N1.out).mono fun _ _ h => h.row
  rw [← HV.out] at hc
  refine hc.mono ?_
  clear hc
  rintro e w3 ⟨v3, rfl, ho, hb⟩
  obtain ⟨a3, c3, rfl, -⟩ := id ho.2
  have g3 : w2.heap.size ≤ w3.heap.size := hb.size
  replace B := Lib.hid (B.out.trans (hb.mono B.out.size))
  replace X0 := Lib.hid (X0.out.below hb (Nat.le_refl _))
  replace X1 := Lib.hid (X1.out.below hb (Nat.le_refl _))
  have T := Lib.hid (Ob.new ho)
  clear ho hb
  clear X0
  clear X1
  go_wp2_with fail
  refine (toInts_any _ l0 w3 (H0.out.below B.out (Nat.le_refl _)) N0.out).mono ?_
  rintro e w4 ⟨v4, rfl, ho, hb⟩
  obtain ⟨a4, c4, rfl, -⟩ := id ho.2
  have g4 : w3.heap.size ≤ w4.heap.size := hb.size
  replace B := Lib.hid (B.out.trans (hb.mono B.out.size))
  replace T := Lib.hid (T.out.below hb (Nat.le_refl _))
  have X0 := Lib.hid (Ob.new ho)
  clear ho hb
  go_wp2_with fail
  refine (toInts_any _ l1 w4 (H1.out.below B.out (Nat.le_refl _)) N1.out).mono ?_
  rintro e w5 ⟨v5, rfl, ho, hb⟩
  obtain ⟨a5, c5, rfl, -⟩ := id ho.2
  have g5 : w4.heap.size ≤ w5.heap.size := hb.size
  replace B := Lib.hid (B.out.trans (hb.mono B.out.size))
  replace T := Lib.hid (T.out.below hb (Nat.le_refl _))
  replace X0 := Lib.hid (X0.out.below hb (Nat.le_refl _))
  have X1 := Lib.hid (Ob.new ho)
  clear ho hb
  go_wp2_with fail
  have hc := (implFree _ _ l0 l1 w5 X0.out.rd X1.out.rd N0.out N1.out).mono fun _ _ h => h.row
  rw [← HV.out] at hc
  refine hc.mono ?_
  clear hc
  rintro e w6 ⟨v6, rfl, ho, hb⟩
  obtain ⟨a6, c6, rfl, -⟩ := id ho.2
  have g6 : w5.heap.size ≤ w6.heap.size := hb.size
  replace B := Lib.hid (B.out.trans (hb.mono B.out.size))
  replace T := Lib.hid (T.out.below hb (Nat.le_refl _))
  replace X0 := Lib.hid (X0.out.below hb (Nat.le_refl _))
  replace X1 := Lib.hid (X1.out.below hb (Nat.le_refl _))
  have G := Lib.hid (Ob.new ho)
  clear ho hb
  go_wp2_with fail
  refine (eqInts_any _ _ R w6 G.out.rd T.out.rd (by unfold maxLen; omega)).mono ?_
  rintro e w7 ⟨rfl, hst⟩
  have hb := hst.below w6.heap.size
  clear hst
  have g7 : w6.heap.size ≤ w7.heap.size := hb.size
  replace B := Lib.hid (B.out.trans (hb.mono B.out.size))
  replace T := Lib.hid (T.out.below hb (Nat.le_refl _))
  replace X0 := Lib.hid (X0.out.below hb (Nat.le_refl _))
  replace X1 := Lib.hid (X1.out.below hb (Nat.le_refl _))
  replace G := Lib.hid (G.out.below hb (Nat.le_refl _))
  clear hb
  go_wp2_with fail
  refine (toInts_any _ l0 w7 (H0.out.below B.out (Nat.le_refl _)) N0.out).mono ?_
  rintro e w8 ⟨v8, rfl, ho, hb⟩
  obtain ⟨a8, c8, rfl, -⟩ := id ho.2
  have g8 : w7.heap.size ≤ w8.heap.size := hb.size
  replace B := Lib.hid (B.out.trans (hb.mono B.out.size))
  replace T := Lib.hid (T.out.below hb (Nat.le_refl _))
  replace X0 := Lib.hid (X0.out.below hb (Nat.le_refl _))
  replace X1 := Lib.hid (X1.out.below hb (Nat.le_refl _))
  replace G := Lib.hid (G.out.below hb (Nat.le_refl _))
  have Y := Lib.hid (Ob.new ho)
  clear ho hb
  go_wp2_with fail
  refine (eqInts_any _ _ l0 w8 X0.out.rd Y.out.rd (by have := N0.out; unfold maxLen; omega)).mono ?_
  rintro e w9 ⟨rfl, hst⟩
  have hb := hst.below w8.heap.size
  clear hst
  have g9 : w8.heap.size ≤ w9.heap.size := hb.size
  replace B := Lib.hid (B.out.trans (hb.mono B.out.size))
  replace T := Lib.hid (T.out.below hb (Nat.le_refl _))
  replace X0 := Lib.hid (X0.out.below hb (Nat.le_refl _))
  replace X1 := Lib.hid (X1.out.below hb (Nat.le_refl _))
  replace G := Lib.hid (G.out.below hb (Nat.le_refl _))
  replace Y := Lib.hid (Y.out.below hb (Nat.le_refl _))
  clear hb
  clear Y
  go_wp2_with fail
  refine (toInts_any _ l1 w9 (H1.out.below B.out (Nat.le_refl _)) N1.out).mono ?_
  rintro e w10 ⟨v10, rfl, ho, hb⟩
  obtain ⟨a10, c10, rfl, -⟩ := id ho.2
  have g10 : w9.heap.size ≤ w10.heap.size := hb.size
  replace B := Lib.hid (B.out.trans (hb.mono B.out.size))
  replace T := Lib.hid (T.out.below hb (Nat.le_refl _))
  replace X0 := Lib.hid (X0.out.below hb (Nat.le_refl _))
  replace X1 := Lib.hid (X1.out.below hb (Nat.le_refl _))
  replace G := Lib.hid (G.out.below hb (Nat.le_refl _))
  have Y := Lib.hid (Ob.new ho)
  clear ho hb
  go_wp2_with fail
  refine (eqInts_any _ _ l1 w10 X1.out.rd Y.out.rd (by have := N1.out; unfold maxLen; omega)).mono ?_
  rintro e w11 ⟨rfl, hst⟩
  have hb := hst.below w10.heap.size
  clear hst
  have g11 : w10.heap.size ≤ w11.heap.size := hb.size
  replace B := Lib.hid (B.out.trans (hb.mono B.out.size))
  replace T := Lib.hid (T.out.below hb (Nat.le_refl _))
  replace X0 := Lib.hid (X0.out.below hb (Nat.le_refl _))
  replace X1 := Lib.hid (X1.out.below hb (Nat.le_refl _))
  replace G := Lib.hid (G.out.below hb (Nat.le_refl _))
  replace Y := Lib.hid (Y.out.below hb (Nat.le_refl _))
  clear hb
  clear Y
  go_wp2_with fail
  refine (markIs_any w3.heap.size _ l0.length (1) _ w11 X0.out.own N0.out (by omega) (by have := N0.out; omega)).mono ?_
  rintro e w12 ⟨rfl, -, hg⟩
  have hu := X0.out.range
  have g12 : w11.heap.size ≤ w12.heap.size := hg.size
  replace B := Lib.hid (B.out.trans ((grown_below hg hu (by omega)).mono (by omega)))
  replace T := Lib.hid (T.out.grown hg hu (by omega))
  replace X1 := Lib.hid (X1.out.grown hg hu (by omega))
  replace G := Lib.hid (G.out.grown hg hu (by omega))
  clear hg hu
  clear X0
  go_wp2_with fail
  refine (markIs_any w4.heap.size _ l1.length (1 + l0.length) _ w12 X1.out.own N1.out (by omega) (by have := N0.out; omega)).mono ?_
  rintro e w13 ⟨rfl, -, hg⟩
  have hu := X1.out.range
  have g13 : w12.heap.size ≤ w13.heap.size := hg.size
  replace B := Lib.hid (B.out.trans ((grown_below hg hu (by omega)).mono (by omega)))
  replace T := Lib.hid (T.out.grown hg hu (by omega))
  replace G := Lib.hid (G.out.grown hg hu (by omega))
  clear hg hu
  clear X1
  go_wp2_with fail
  refine (eqInts_any _ _ R w13 G.out.rd T.out.rd (by unfold maxLen; omega)).mono ?_
  rintro e w14 ⟨rfl, hst⟩
  have hb := hst.below w13.heap.size
  clear hst
  have g14 : w13.heap.size ≤ w14.heap.size := hb.size
  replace B := Lib.hid (B.out.trans (hb.mono B.out.size))
  replace T := Lib.hid (T.out.below hb (Nat.le_refl _))
  replace G := Lib.hid (G.out.below hb (Nat.le_refl _))
  clear hb
  go_wp2_with fail
  refine (markIs_any w5.heap.size _ R.length 1 _ w14 G.out.own (by omega) (by omega) (by omega)).mono ?_
  rintro e w15 ⟨rfl, hm, hg⟩
  have G' := Lib.hid (G.out.marked hm)
  clear hm
  have hu := G.out.range
  have g15 : w14.heap.size ≤ w15.heap.size := hg.size
  replace B := Lib.hid (B.out.trans ((grown_below hg hu (by omega)).mono (by omega)))
  replace T := Lib.hid (T.out.grown hg hu (by omega))
  clear hg hu
  clear G
  have G := G'
  clear G'
  obtain ⟨z, hz⟩ : ∃ z : Int, z = ((1 + R.length : Nat) : Int) := ⟨_, rfl⟩
  rw [← hz]
  have dz : decide (z < 0) = false := decide_eq_false (by omega)
  have HZ := Lib.hid hz
  clear hz
  go_wp2_with fail
  refine (heldIs_any _ R.length 1 w15 G.out.rd (by omega) (by omega) (by omega)).mono ?_
  rintro e w16 ⟨rfl, hb⟩
  rw [← HZ.out]
  have g16 : w15.heap.size ≤ w16.heap.size := hb.size
  replace B := Lib.hid (B.out.trans (hb.mono B.out.size))
  replace T := Lib.hid (T.out.below hb (Nat.le_refl _))
  replace G := Lib.hid (G.out.below hb (Nat.le_refl _))
  clear hb
  go_wp2_with fail
  refine (toInts_any _ l0 w16 (H0.out.below B.out (Nat.le_refl _)) N0.out).mono ?_
  rintro e w17 ⟨v17, rfl, ho, hb⟩
  obtain ⟨a17, c17, rfl, -⟩ := id ho.2
  have g17 : w16.heap.size ≤ w17.heap.size := hb.size
  replace B := Lib.hid (B.out.trans (hb.mono B.out.size))
  replace T := Lib.hid (T.out.below hb (Nat.le_refl _))
  replace G := Lib.hid (G.out.below hb (Nat.le_refl _))
  have X0 := Lib.hid (Ob.new ho)
  clear ho hb
  go_wp2_with fail
  refine (toInts_any _ l1 w17 (H1.out.below B.out (Nat.le_refl _)) N1.out).mono ?_
  rintro e w18 ⟨v18, rfl, ho, hb⟩
  obtain ⟨a18, c18, rfl, -⟩ := id ho.2
  have g18 : w17.heap.size ≤ w18.heap.size := hb.size
  replace B := Lib.hid (B.out.trans (hb.mono B.out.size))
  replace T := Lib.hid (T.out.below hb (Nat.le_refl _))
  replace G := Lib.hid (G.out.below hb (Nat.le_refl _))
  replace X0 := Lib.hid (X0.out.below hb (Nat.le_refl _))
  have X1 := Lib.hid (Ob.new ho)
  clear ho hb
  go_wp2_with fail
  have hc := (implFree _ _ l0 l1 w18 X0.out.rd X1.out.rd N0.out N1.out).mono fun _ _ h => h.row
  rw [← HV.out] at hc
  refine hc.mono ?_
  clear hc
  rintro e w19 ⟨v19, rfl, ho, hb⟩
  obtain ⟨a19, c19, rfl, -⟩ := id ho.2
  have g19 : w18.heap.size ≤ w19.heap.size := hb.size
  replace B := Lib.hid (B.out.trans (hb.mono B.out.size))
  replace T := Lib.hid (T.out.below hb (Nat.le_refl _))
  replace G := Lib.hid (G.out.below hb (Nat.le_refl _))
  replace X0 := Lib.hid (X0.out.below hb (Nat.le_refl _))
  replace X1 := Lib.hid (X1.out.below hb (Nat.le_refl _))
  have K := Lib.hid (Ob.new ho)
  clear ho hb
  go_wp2_with fail
  refine (eqInts_any _ _ R w19 K.out.rd T.out.rd (by unfold maxLen; omega)).mono ?_
  rintro e w20 ⟨rfl, hst⟩
  have hb := hst.below w19.heap.size
  clear hst
  have g20 : w19.heap.size ≤ w20.heap.size := hb.size
  replace B := Lib.hid (B.out.trans (hb.mono B.out.size))
  replace T := Lib.hid (T.out.below hb (Nat.le_refl _))
  replace G := Lib.hid (G.out.below hb (Nat.le_refl _))
  replace X0 := Lib.hid (X0.out.below hb (Nat.le_refl _))
  replace X1 := Lib.hid (X1.out.below hb (Nat.le_refl _))
  replace K := Lib.hid (K.out.below hb (Nat.le_refl _))
  clear hb
  go_wp2_with fail
  refine (heldIs_any _ R.length 1 w20 G.out.rd (by omega) (by omega) (by omega)).mono ?_
  rintro e w21 ⟨rfl, hb⟩
  rw [← HZ.out]
  have g21 : w20.heap.size ≤ w21.heap.size := hb.size
  replace B := Lib.hid (B.out.trans (hb.mono B.out.size))
  replace T := Lib.hid (T.out.below hb (Nat.le_refl _))
  replace G := Lib.hid (G.out.below hb (Nat.le_refl _))
  replace X0 := Lib.hid (X0.out.below hb (Nat.le_refl _))
  replace X1 := Lib.hid (X1.out.below hb (Nat.le_refl _))
  replace K := Lib.hid (K.out.below hb (Nat.le_refl _))
  clear hb
  go_wp2_with fail
  go_ret
  exact ⟨rfl, B.out⟩
end Go.Proofs.Ytmhmjofmafeidaa
