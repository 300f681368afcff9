/- The exact law of ExtentsOf. -/
import Derived.Test.YtmhmjofmafeidaaASrun
import Derived.Test.YtmhmjofmafeidaaAMark
import Derived.Test.YtmhmjofmafeidaaAOb
namespace Go.Proofs.Ytmhmjofmafeidaa
open Go.RowKit

set_option maxRecDepth 100000 in
set_option maxHeartbeats 4000000 in
theorem extentsOfLaw (v00 : Value) (l0 : List Int) (w : World) (h0 : Rd w v00 l0.length 1 (ints l0)) (q0 : l0.length ≤ maxLen)  :
    Calls Try.prog 6 #[v00] w fun e w' => e = .returned (.bool true) ∧ Below w.heap.size w w' := by
  unfold maxLen at q0
  obtain ⟨a00, c00, rfl, -⟩ := id h0.2
  have H0 := Lib.hid h0
  clear h0
  by_cases big0 : 1048576 < l0.length
  · have d0 : (1048576 : Int) < (l0.length : Int) := by omega
    go_enter Try.func6, Try.ntmps6
    go_wp2_with fail
    go_ret
    exact ⟨rfl, Below.refl _ _⟩
  have d0 : decide ((1048576 : Int) < (l0.length : Int)) = false := decide_eq_false (by omega)
  have n0 : l0.length ≤ 1048576 := by omega
  have N0 := Lib.hid n0
  clear n0
  obtain ⟨R, hR⟩ : ∃ R, R = extO l0 := ⟨_, rfl⟩
  have hRl : R.length ≤ 24 := by rw [hR]; exact extO_len l0
  have HV := Lib.hid hR
  clear hR
  go_enter Try.func6, Try.ntmps6
  go_wp2_with fail
  refine (toInts_any _ l0 w H0.out N0.out).mono ?_
  rintro e w1 ⟨v1, rfl, ho, hb⟩
  obtain ⟨a1, c1, rfl, -⟩ := id ho.2
  have g1 : w.heap.size ≤ w1.heap.size := hb.size
  have B := Lib.hid hb
  have X0 := Lib.hid (Ob.new ho)
  clear ho hb
  go_wp2_with fail
  have hc := (specExt _ l0 w1 X0.out.rd N0.out).mono fun _ _ h => h.row
  rw [← HV.out] at hc
  refine hc.mono ?_
  clear hc
  rintro e w2 ⟨v2, rfl, ho, hb⟩
  obtain ⟨a2, c2, rfl, -⟩ := id ho.2
  have g2 : w1.heap.size ≤ w2.heap.size := hb.size
  replace B := Lib.hid (B.out.trans (hb.mono B.out.size))
  replace X0 := Lib.hid (X0.out.below hb (Nat.le_refl _))
  have T := Lib.hid (Ob.new ho)
  clear ho hb
  clear X0
  go_wp2_with fail
  refine (toInts_any _ l0 w2 (H0.out.below B.out (Nat.le_refl _)) N0.out).mono ?_
  rintro e w3 ⟨v3, rfl, ho, hb⟩
  obtain ⟨a3, c3, rfl, -⟩ := id ho.2
  have g3 : w2.heap.size ≤ w3.heap.size := hb.size
  replace B := Lib.hid (B.out.trans (hb.mono B.out.size))
  replace T := Lib.hid (T.out.below hb (Nat.le_refl _))
  have X0 := Lib.hid (Ob.new ho)
  clear ho hb
  go_wp2_with fail
  have hc := implExt _ l0 w3 X0.out.rd N0.out
  rw [← HV.out] at hc
  refine hc.mono ?_
  clear hc
  rintro e w4 ⟨v4, rfl, ho, hb⟩
  obtain ⟨a4, c4, rfl, -⟩ := id ho.2
  have g4 : w3.heap.size ≤ w4.heap.size := hb.size
  replace B := Lib.hid (B.out.trans (hb.mono B.out.size))
  replace T := Lib.hid (T.out.below hb (Nat.le_refl _))
  replace X0 := Lib.hid (X0.out.below hb (Nat.le_refl _))
  have G := Lib.hid (Ob.new ho)
  clear ho hb
  go_wp2_with fail
  refine (eqExtents_any _ _ R w4 G.out.rd T.out.rd (by unfold maxLen; omega)).mono ?_
  rintro e w5 ⟨rfl, hb⟩
  have g5 : w4.heap.size ≤ w5.heap.size := hb.size
  replace B := Lib.hid (B.out.trans (hb.mono B.out.size))
  replace T := Lib.hid (T.out.below hb (Nat.le_refl _))
  replace X0 := Lib.hid (X0.out.below hb (Nat.le_refl _))
  replace G := Lib.hid (G.out.below hb (Nat.le_refl _))
  clear hb
  go_wp2_with fail
  refine (toInts_any _ l0 w5 (H0.out.below B.out (Nat.le_refl _)) N0.out).mono ?_
  rintro e w6 ⟨v6, rfl, ho, hb⟩
  obtain ⟨a6, c6, rfl, -⟩ := id ho.2
  have g6 : w5.heap.size ≤ w6.heap.size := hb.size
  replace B := Lib.hid (B.out.trans (hb.mono B.out.size))
  replace T := Lib.hid (T.out.below hb (Nat.le_refl _))
  replace X0 := Lib.hid (X0.out.below hb (Nat.le_refl _))
  replace G := Lib.hid (G.out.below hb (Nat.le_refl _))
  have Y := Lib.hid (Ob.new ho)
  clear ho hb
  go_wp2_with fail
  refine (eqInts_any _ _ l0 w6 X0.out.rd Y.out.rd (by have := N0.out; unfold maxLen; omega)).mono ?_
  rintro e w7 ⟨rfl, hst⟩
  have hb := hst.below w6.heap.size
  clear hst
  have g7 : w6.heap.size ≤ w7.heap.size := hb.size
  replace B := Lib.hid (B.out.trans (hb.mono B.out.size))
  replace T := Lib.hid (T.out.below hb (Nat.le_refl _))
  replace X0 := Lib.hid (X0.out.below hb (Nat.le_refl _))
  replace G := Lib.hid (G.out.below hb (Nat.le_refl _))
  replace Y := Lib.hid (Y.out.below hb (Nat.le_refl _))
  clear hb
  clear Y
  go_wp2_with fail
  have nn0 := N0.out
  refine (markIs_any w2.heap.size _ l0.length (1) _ w7 X0.out.own N0.out (by omega) (by have := N0.out; omega)).mono ?_
  clear nn0
  rintro e w8 ⟨rfl, -, hg⟩
  have hu := X0.out.range
  have g8 : w7.heap.size ≤ w8.heap.size := hg.size
  replace B := Lib.hid (B.out.trans ((grown_below hg hu (by omega)).mono (by omega)))
  replace T := Lib.hid (T.out.grown hg hu (by omega))
  replace G := Lib.hid (G.out.grown hg hu (by omega))
  clear hg hu
  clear X0
  go_wp2_with fail
  refine (eqExtents_any _ _ R w8 G.out.rd T.out.rd (by unfold maxLen; omega)).mono ?_
  rintro e w9 ⟨rfl, hb⟩
  have g9 : w8.heap.size ≤ w9.heap.size := hb.size
  replace B := Lib.hid (B.out.trans (hb.mono B.out.size))
  replace T := Lib.hid (T.out.below hb (Nat.le_refl _))
  replace G := Lib.hid (G.out.below hb (Nat.le_refl _))
  clear hb
  go_wp2_with fail
  refine (markExtents_any w3.heap.size _ R.length 1 _ w9 G.out.own (by omega) (by omega) (by omega)).mono ?_
  rintro e w10 ⟨rfl, hm, hg⟩
  have G' := Lib.hid (G.out.marked hm)
  clear hm
  have hu := G.out.range
  have g10 : w9.heap.size ≤ w10.heap.size := hg.size
  replace B := Lib.hid (B.out.trans ((grown_below hg hu (by omega)).mono (by omega)))
  replace T := Lib.hid (T.out.grown hg hu (by omega))
  clear hg hu
  clear G
  have G := G'
  clear G'
  obtain ⟨z, hz⟩ : ∃ z : Int, z = ((1 + R.length * 2 : Nat) : Int) := ⟨_, rfl⟩
  rw [← hz]
  have dz : decide (z < 0) = false := decide_eq_false (by omega)
  have HZ := Lib.hid hz
  clear hz
  go_wp2_with fail
  refine (heldExtents_any _ R.length 1 w10 G.out.rd (by omega) (by omega) (by omega)).mono ?_
  rintro e w11 ⟨rfl, hb⟩
  rw [← HZ.out]
  have g11 : w10.heap.size ≤ w11.heap.size := hb.size
  replace B := Lib.hid (B.out.trans (hb.mono B.out.size))
  replace T := Lib.hid (T.out.below hb (Nat.le_refl _))
  replace G := Lib.hid (G.out.below hb (Nat.le_refl _))
  clear hb
  go_wp2_with fail
  refine (toInts_any _ l0 w11 (H0.out.below B.out (Nat.le_refl _)) N0.out).mono ?_
  rintro e w12 ⟨v12, rfl, ho, hb⟩
  obtain ⟨a12, c12, rfl, -⟩ := id ho.2
  have g12 : w11.heap.size ≤ w12.heap.size := hb.size
  replace B := Lib.hid (B.out.trans (hb.mono B.out.size))
  replace T := Lib.hid (T.out.below hb (Nat.le_refl _))
  replace G := Lib.hid (G.out.below hb (Nat.le_refl _))
  have X0 := Lib.hid (Ob.new ho)
  clear ho hb
  go_wp2_with fail
  have hc := implExt _ l0 w12 X0.out.rd N0.out
  rw [← HV.out] at hc
  refine hc.mono ?_
  clear hc
  rintro e w13 ⟨v13, rfl, ho, hb⟩
  obtain ⟨a13, c13, rfl, -⟩ := id ho.2
  have g13 : w12.heap.size ≤ w13.heap.size := hb.size
  replace B := Lib.hid (B.out.trans (hb.mono B.out.size))
  replace T := Lib.hid (T.out.below hb (Nat.le_refl _))
  replace G := Lib.hid (G.out.below hb (Nat.le_refl _))
  replace X0 := Lib.hid (X0.out.below hb (Nat.le_refl _))
  have K := Lib.hid (Ob.new ho)
  clear ho hb
  go_wp2_with fail
  refine (eqExtents_any _ _ R w13 K.out.rd T.out.rd (by unfold maxLen; omega)).mono ?_
  rintro e w14 ⟨rfl, hb⟩
  have g14 : w13.heap.size ≤ w14.heap.size := hb.size
  replace B := Lib.hid (B.out.trans (hb.mono B.out.size))
  replace T := Lib.hid (T.out.below hb (Nat.le_refl _))
  replace G := Lib.hid (G.out.below hb (Nat.le_refl _))
  replace X0 := Lib.hid (X0.out.below hb (Nat.le_refl _))
  replace K := Lib.hid (K.out.below hb (Nat.le_refl _))
  clear hb
  go_wp2_with fail
  refine (heldExtents_any _ R.length 1 w14 G.out.rd (by omega) (by omega) (by omega)).mono ?_
  rintro e w15 ⟨rfl, hb⟩
  rw [← HZ.out]
  have g15 : w14.heap.size ≤ w15.heap.size := hb.size
  replace B := Lib.hid (B.out.trans (hb.mono B.out.size))
  replace T := Lib.hid (T.out.below hb (Nat.le_refl _))
  replace G := Lib.hid (G.out.below hb (Nat.le_refl _))
  replace X0 := Lib.hid (X0.out.below hb (Nat.le_refl _))
  replace K := Lib.hid (K.out.below hb (Nat.le_refl _))
  clear hb
  go_wp2_with fail
  go_ret
  exact ⟨rfl, B.out⟩
end Go.Proofs.Ytmhmjofmafeidaa
