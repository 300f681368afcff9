/- The exact laws of StepsCode and Writes. -/
import Derived.Test.YtnjfbokomihecaaBSCode
import Derived.Test.YtnjfbokomihecaaBICode
import Derived.Test.YtnjfbokomihecaaBWrites
import Derived.Test.YtnjfbokomihecaaAOb
namespace Go.Proofs.Ytnjfbokomihecaa
open Go.RowKit

def FitT (l : List stpT) : Prop := ∀ d ∈ l, d.2.2.2.size ≤ maxLen
theorem szSteps2 (v : Value) (l : List stpT) (left : Int) (w : World) (h : Rd w v l.length 4 (stpCs l)) (hn : l.length ≤ maxLen) (hs : FitT l) (h0 : 0 ≤ left) (h1 : left ≤ 1048576) :
    Calls Try.prog 13 #[v, .int .i64 left] w (LeftB left (l.length ≤ left) w) :=
  (szSteps_any v l left w h hn hs h0 h1).mono fun _ _ ⟨r, e, b, c⟩ => ⟨r, e, b, c.imp id fun ⟨x, y, z⟩ => ⟨x, y, z.1⟩⟩

set_option maxRecDepth 100000 in
set_option maxHeartbeats 4000000 in
theorem stepsCodeLaw (v00 : Value) (l0 : List stpT) (y1 : Int) (w : World) (h0 : Rd w v00 l0.length 4 (stpCs l0)) (q0 : l0.length ≤ maxLen) (f0 : FitT l0)  :
    Calls Try.prog 5 #[v00, .int .i64 y1] w fun e w' => e = .returned (.bool true) ∧ Below w.heap.size w w' := by
  obtain ⟨a00, c00, rfl, -⟩ := id h0.2
  have H0 := Lib.hid h0
  clear h0
  have F0 := Lib.hid f0
  clear f0
  obtain ⟨R, hR⟩ : ∃ R, R = codeS l0 y1 := ⟨_, rfl⟩
  have HV := Lib.hid hR
  clear hR
  go_enter Try.func5, Try.ntmps5
  go_wp2_with fail
  refine (szSteps2 _ l0 1048576 w H0.out q0 F0.out (by decide) (by decide)).mono ?_
  rintro e w1 ⟨r0, rfl, hb, hq⟩
  have g1 : w.heap.size ≤ w1.heap.size := hb.size
  have B := Lib.hid hb
  clear hb
  rcases hq with rfl | ⟨p00, p01, p02⟩
  · go_wp2_with fail
    go_ret
    exact ⟨rfl, B.out⟩
  have d0 : decide (r0 < 0) = false := decide_eq_false (by omega)
  have n0 : l0.length ≤ 1048576 := by omega
  have N0 := Lib.hid n0
  clear n0
  go_wp2_with fail
  refine (toSteps_any _ l0 w1 (H0.out.below B.out (Nat.le_refl _)) N0.out).mono ?_
  rintro e w2 ⟨v2, rfl, ho, hb⟩
  obtain ⟨a2, c2, rfl, -⟩ := id ho.2
  have g2 : w1.heap.size ≤ w2.heap.size := hb.size
  replace B := Lib.hid (B.out.trans (hb.mono B.out.size))
  have X0 := Lib.hid (Ob.new ho)
  clear ho hb
  go_wp2_with fail
  have hc := specCode _ l0 y1 w2 X0.out.rd N0.out
  rw [← HV.out] at hc
  refine hc.mono ?_
  clear hc
  rintro e w3 ⟨rfl, hb⟩
  have g3 : w2.heap.size ≤ w3.heap.size := hb.size
  replace B := Lib.hid (B.out.trans (hb.mono B.out.size))
  replace X0 := Lib.hid (X0.out.below hb (Nat.le_refl _))
  clear hb
  clear X0
  go_wp2_with fail
  refine (toSteps_any _ l0 w3 (H0.out.below B.out (Nat.le_refl _)) N0.out).mono ?_
  rintro e w4 ⟨v4, rfl, ho, hb⟩
  obtain ⟨a4, c4, rfl, -⟩ := id ho.2
  have g4 : w3.heap.size ≤ w4.heap.size := hb.size
  replace B := Lib.hid (B.out.trans (hb.mono B.out.size))
  have X0 := Lib.hid (Ob.new ho)
  clear ho hb
  go_wp2_with fail
  have hc := implCode _ l0 y1 w4 X0.out.rd N0.out
  rw [← HV.out] at hc
  refine hc.mono ?_
  clear hc
  rintro e w5 ⟨rfl, hb⟩
  have g5 : w4.heap.size ≤ w5.heap.size := hb.size
  replace B := Lib.hid (B.out.trans (hb.mono B.out.size))
  replace X0 := Lib.hid (X0.out.below hb (Nat.le_refl _))
  clear hb
  go_wp2_with fail
  have dq : (R != R) = false := by simp
  go_wp2_with fail
  refine (toSteps_any _ l0 w5 (H0.out.below B.out (Nat.le_refl _)) N0.out).mono ?_
  rintro e w6 ⟨v6, rfl, ho, hb⟩
  obtain ⟨a6, c6, rfl, -⟩ := id ho.2
  have g6 : w5.heap.size ≤ w6.heap.size := hb.size
  replace B := Lib.hid (B.out.trans (hb.mono B.out.size))
  replace X0 := Lib.hid (X0.out.below hb (Nat.le_refl _))
  have Y := Lib.hid (Ob.new ho)
  clear ho hb
  go_wp2_with fail
  refine (eqSteps_any _ _ l0 w6 X0.out.rd Y.out.rd (by have := N0.out; unfold maxLen; omega)).mono ?_
  rintro e w7 ⟨rfl, hb⟩
  have g7 : w6.heap.size ≤ w7.heap.size := hb.size
  replace B := Lib.hid (B.out.trans (hb.mono B.out.size))
  replace X0 := Lib.hid (X0.out.below hb (Nat.le_refl _))
  replace Y := Lib.hid (Y.out.below hb (Nat.le_refl _))
  clear hb
  clear Y
  go_wp2_with fail
  go_ret
  exact ⟨rfl, B.out⟩

set_option maxRecDepth 100000 in
set_option maxHeartbeats 4000000 in
theorem writesLaw (v00 : Value) (l0 : List stpT) (w : World) (h0 : Rd w v00 l0.length 4 (stpCs l0)) (q0 : l0.length ≤ maxLen) (f0 : FitT l0)  :
    Calls Try.prog 6 #[v00] w fun e w' => e = .returned (.bool true) ∧ Below w.heap.size w w' := by
  obtain ⟨a00, c00, rfl, -⟩ := id h0.2
  have H0 := Lib.hid h0
  clear h0
  have F0 := Lib.hid f0
  clear f0
  obtain ⟨R, hR⟩ : ∃ R, R = writesL l0 := ⟨_, rfl⟩
  have hRl : R.length ≤ 20 := by rw [hR]; exact writesL_len l0
  have HV := Lib.hid hR
  clear hR
  go_enter Try.func6, Try.ntmps6
  go_wp2_with fail
  refine (szSteps2 _ l0 1048576 w H0.out q0 F0.out (by decide) (by decide)).mono ?_
  rintro e w1 ⟨r0, rfl, hb, hq⟩
  have g1 : w.heap.size ≤ w1.heap.size := hb.size
  have B := Lib.hid hb
  clear hb
  rcases hq with rfl | ⟨p00, p01, p02⟩
  · go_wp2_with fail
    go_ret
    exact ⟨rfl, B.out⟩
  have d0 : decide (r0 < 0) = false := decide_eq_false (by omega)
  have n0 : l0.length ≤ 1048576 := by omega
  have N0 := Lib.hid n0
  clear n0
  go_wp2_with fail
  refine (toSteps_any _ l0 w1 (H0.out.below B.out (Nat.le_refl _)) N0.out).mono ?_
  rintro e w2 ⟨v2, rfl, ho, hb⟩
  obtain ⟨a2, c2, rfl, -⟩ := id ho.2
  have g2 : w1.heap.size ≤ w2.heap.size := hb.size
  replace B := Lib.hid (B.out.trans (hb.mono B.out.size))
  have X0 := Lib.hid (Ob.new ho)
  clear ho hb
  go_wp2_with fail
  have hc := (specWrites _ l0 w2 X0.out.rd N0.out).mono fun _ _ h => h.row
  rw [← HV.out] at hc
  refine hc.mono ?_
  clear hc
  rintro e w3 ⟨v3, rfl, ho, hb⟩
  obtain ⟨a3, c3, rfl, -⟩ := id ho.2
  have g3 : w2.heap.size ≤ w3.heap.size := hb.size
  replace B := Lib.hid (B.out.trans (hb.mono B.out.size))
  replace X0 := Lib.hid (X0.out.below hb (Nat.le_refl _))
  have T := Lib.hid (Ob.new ho)
  clear ho hb
  clear X0
  go_wp2_with fail
  refine (toSteps_any _ l0 w3 (H0.out.below B.out (Nat.le_refl _)) N0.out).mono ?_
  rintro e w4 ⟨v4, rfl, ho, hb⟩
  obtain ⟨a4, c4, rfl, -⟩ := id ho.2
  have g4 : w3.heap.size ≤ w4.heap.size := hb.size
  replace B := Lib.hid (B.out.trans (hb.mono B.out.size))
  replace T := Lib.hid (T.out.below hb (Nat.le_refl _))
  have X0 := Lib.hid (Ob.new ho)
  clear ho hb
  go_wp2_with fail
  have hc := (implWrites _ l0 w4 X0.out.rd N0.out).mono fun _ _ h => h.row
  rw [← HV.out] at hc
  refine hc.mono ?_
  clear hc
  rintro e w5 ⟨v5, rfl, ho, hb⟩
  obtain ⟨a5, c5, rfl, -⟩ := id ho.2
  have g5 : w4.heap.size ≤ w5.heap.size := hb.size
  replace B := Lib.hid (B.out.trans (hb.mono B.out.size))
  replace T := Lib.hid (T.out.below hb (Nat.le_refl _))
  replace X0 := Lib.hid (X0.out.below hb (Nat.le_refl _))
  have G := Lib.hid (Ob.new ho)
  clear ho hb
  go_wp2_with fail
  refine (eqSteps_any _ _ R w5 G.out.rd T.out.rd (by unfold maxLen; omega)).mono ?_
  rintro e w6 ⟨rfl, hb⟩
  have g6 : w5.heap.size ≤ w6.heap.size := hb.size
  replace B := Lib.hid (B.out.trans (hb.mono B.out.size))
  replace T := Lib.hid (T.out.below hb (Nat.le_refl _))
  replace X0 := Lib.hid (X0.out.below hb (Nat.le_refl _))
  replace G := Lib.hid (G.out.below hb (Nat.le_refl _))
  clear hb
  go_wp2_with fail
  refine (toSteps_any _ l0 w6 (H0.out.below B.out (Nat.le_refl _)) N0.out).mono ?_
  rintro e w7 ⟨v7, rfl, ho, hb⟩
  obtain ⟨a7, c7, rfl, -⟩ := id ho.2
  have g7 : w6.heap.size ≤ w7.heap.size := hb.size
  replace B := Lib.hid (B.out.trans (hb.mono B.out.size))
  replace T := Lib.hid (T.out.below hb (Nat.le_refl _))
  replace X0 := Lib.hid (X0.out.below hb (Nat.le_refl _))
  replace G := Lib.hid (G.out.below hb (Nat.le_refl _))
  have Y := Lib.hid (Ob.new ho)
  clear ho hb
  go_wp2_with fail
  refine (eqSteps_any _ _ l0 w7 X0.out.rd Y.out.rd (by have := N0.out; unfold maxLen; omega)).mono ?_
  rintro e w8 ⟨rfl, hb⟩
  have g8 : w7.heap.size ≤ w8.heap.size := hb.size
  replace B := Lib.hid (B.out.trans (hb.mono B.out.size))
  replace T := Lib.hid (T.out.below hb (Nat.le_refl _))
  replace X0 := Lib.hid (X0.out.below hb (Nat.le_refl _))
  replace G := Lib.hid (G.out.below hb (Nat.le_refl _))
  replace Y := Lib.hid (Y.out.below hb (Nat.le_refl _))
  clear hb
  clear Y
  go_wp2_with fail
  have nn0 := N0.out
  refine (markSteps_any w3.heap.size _ l0.length (1) _ w8 X0.out.own N0.out (by omega) (by have := N0.out; omega)).mono ?_
  clear nn0
  rintro e w9 ⟨rfl, -, hg⟩
  have hu := X0.out.range
  have g9 : w8.heap.size ≤ w9.heap.size := hg.size
  replace B := Lib.hid (B.out.trans ((grown_below hg hu (by omega)).mono (by omega)))
  replace T := Lib.hid (T.out.grown hg hu (by omega))
  replace G := Lib.hid (G.out.grown hg hu (by omega))
  clear hg hu
  clear X0
  go_wp2_with fail
  refine (eqSteps_any _ _ R w9 G.out.rd T.out.rd (by unfold maxLen; omega)).mono ?_
  rintro e w10 ⟨rfl, hb⟩
  have g10 : w9.heap.size ≤ w10.heap.size := hb.size
  replace B := Lib.hid (B.out.trans (hb.mono B.out.size))
  replace T := Lib.hid (T.out.below hb (Nat.le_refl _))
  replace G := Lib.hid (G.out.below hb (Nat.le_refl _))
  clear hb
  go_wp2_with fail
  refine (markSteps_any w4.heap.size _ R.length 1 _ w10 G.out.own (by omega) (by omega) (by omega)).mono ?_
  rintro e w11 ⟨rfl, hm, hg⟩
  have G' := Lib.hid (G.out.marked hm)
  clear hm
  have hu := G.out.range
  have g11 : w10.heap.size ≤ w11.heap.size := hg.size
  replace B := Lib.hid (B.out.trans ((grown_below hg hu (by omega)).mono (by omega)))
  replace T := Lib.hid (T.out.grown hg hu (by omega))
  clear hg hu
  clear G
  have G := G'
  clear G'
  obtain ⟨z, hz⟩ : ∃ z : Int, z = ((1 + R.length * 4 : Nat) : Int) := ⟨_, rfl⟩
  rw [← hz]
  have dz : decide (z < 0) = false := decide_eq_false (by omega)
  have HZ := Lib.hid hz
  clear hz
  go_wp2_with fail
  refine (heldSteps_any _ R.length 1 w11 G.out.rd (by omega) (by omega) (by omega)).mono ?_
  rintro e w12 ⟨rfl, hb⟩
  rw [← HZ.out]
  have g12 : w11.heap.size ≤ w12.heap.size := hb.size
  replace B := Lib.hid (B.out.trans (hb.mono B.out.size))
  replace T := Lib.hid (T.out.below hb (Nat.le_refl _))
  replace G := Lib.hid (G.out.below hb (Nat.le_refl _))
  clear hb
  go_wp2_with fail
  refine (toSteps_any _ l0 w12 (H0.out.below B.out (Nat.le_refl _)) N0.out).mono ?_
  rintro e w13 ⟨v13, rfl, ho, hb⟩
  obtain ⟨a13, c13, rfl, -⟩ := id ho.2
  have g13 : w12.heap.size ≤ w13.heap.size := hb.size
  replace B := Lib.hid (B.out.trans (hb.mono B.out.size))
  replace T := Lib.hid (T.out.below hb (Nat.le_refl _))
  replace G := Lib.hid (G.out.below hb (Nat.le_refl _))
  have X0 := Lib.hid (Ob.new ho)
  clear ho hb
  go_wp2_with fail
  have hc := (implWrites _ l0 w13 X0.out.rd N0.out).mono fun _ _ h => h.row
  rw [← HV.out] at hc
  refine hc.mono ?_
  clear hc
  rintro e w14 ⟨v14, rfl, ho, hb⟩
  obtain ⟨a14, c14, rfl, -⟩ := id ho.2
  have g14 : w13.heap.size ≤ w14.heap.size := hb.size
  replace B := Lib.hid (B.out.trans (hb.mono B.out.size))
  replace T := Lib.hid (T.out.below hb (Nat.le_refl _))
  replace G := Lib.hid (G.out.below hb (Nat.le_refl _))
  replace X0 := Lib.hid (X0.out.below hb (Nat.le_refl _))
  have K := Lib.hid (Ob.new ho)
  clear ho hb
  go_wp2_with fail
  refine (eqSteps_any _ _ R w14 K.out.rd T.out.rd (by unfold maxLen; omega)).mono ?_
  rintro e w15 ⟨rfl, hb⟩
  have g15 : w14.heap.size ≤ w15.heap.size := hb.size
  replace B := Lib.hid (B.out.trans (hb.mono B.out.size))
  replace T := Lib.hid (T.out.below hb (Nat.le_refl _))
  replace G := Lib.hid (G.out.below hb (Nat.le_refl _))
  replace X0 := Lib.hid (X0.out.below hb (Nat.le_refl _))
  replace K := Lib.hid (K.out.below hb (Nat.le_refl _))
  clear hb
  go_wp2_with fail
  refine (heldSteps_any _ R.length 1 w15 G.out.rd (by omega) (by omega) (by omega)).mono ?_
  rintro e w16 ⟨rfl, hb⟩
  rw [← HZ.out]
  have g16 : w15.heap.size ≤ w16.heap.size := hb.size
  replace B := Lib.hid (B.out.trans (hb.mono B.out.size))
  replace T := Lib.hid (T.out.below hb (Nat.le_refl _))
  replace G := Lib.hid (G.out.below hb (Nat.le_refl _))
  replace X0 := Lib.hid (X0.out.below hb (Nat.le_refl _))
  replace K := Lib.hid (K.out.below hb (Nat.le_refl _))
  clear hb
  go_wp2_with fail
  go_ret
  exact ⟨rfl, B.out⟩
end Go.Proofs.Ytnjfbokomihecaa
