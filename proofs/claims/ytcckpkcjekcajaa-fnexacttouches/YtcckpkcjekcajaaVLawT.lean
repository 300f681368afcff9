/- The exact law of Touches. -/
import Derived.Test.YtcckpkcjekcajaaVWr
import Derived.Test.YtcckpkcjekcajaaBLaw2
import Derived.Test.YtcckpkcjekcajaaAOb
namespace Go.Proofs.Ytcckpkcjekcajaa
open Go.RowKit

set_option maxRecDepth 100000 in
set_option maxHeartbeats 4000000 in
theorem touchesLaw (v00 : Value) (l0 : List stpT) (y1 : Int) (w : World) (h0 : Rd w v00 l0.length 4 (stpCs l0)) (q0 : l0.length ≤ maxLen) (f0 : FitT l0) (hto : FitTo l0) (i0 : -9223372036854775808 ≤ y1) (i1 : y1 ≤ 9223372036854775807) :
    Calls Try.prog 5 #[v00, .int .i64 y1] w fun e w' => e = .returned (.bool true) ∧ Below w.heap.size w w' := by
  obtain ⟨a00, c00, rfl, -⟩ := id h0.2
  have H0 := Lib.hid h0
  clear h0
  have F0 := Lib.hid f0
  clear f0
  have TO := Lib.hid hto
  clear hto
  obtain ⟨R, hR⟩ : ∃ R, R = touchS l0 y1 := ⟨_, rfl⟩
  have HV := Lib.hid hR
  clear hR
  go_enter Try.func5, Try.ntmps5
  go_wp2_with fail
  refine (szSteps2 _ l0 1048576 w H0.out q0 F0.out (by decide) (by decide)).mono ?_
  rintro e w1 ⟨r0, rfl, hb, hq⟩
  have g1 : w.heap.size ≤ w1.heap.size := hb.size
  have B := Lib.hid hb
  clear hb
  rcases hq with rfl | ⟨p00, p01, p02⟩
  · go_wp2_with fail
    go_ret
    exact ⟨rfl, B.out⟩
  have d0 : decide (r0 < 0) = false := decide_eq_false (by omega)
  have n0 : l0.length ≤ 1048576 := by omega
  have N0 := Lib.hid n0
  clear n0
  go_wp2_with fail
  refine (toSteps_any _ l0 w1 (H0.out.below B.out (Nat.le_refl _)) N0.out).mono ?_
  rintro e w2 ⟨v2, rfl, ho, hb⟩
  obtain ⟨a2, c2, rfl, -⟩ := id ho.2
  have g2 : w1.heap.size ≤ w2.heap.size := hb.size
  replace B := Lib.hid (B.out.trans (hb.mono B.out.size))
  have X0 := Lib.hid (Ob.new ho)
  clear ho hb
  go_wp2_with fail
  have hc := specTouches _ l0 y1 w2 X0.out.rd N0.out
  rw [← HV.out] at hc
  refine hc.mono ?_
  clear hc
  rintro e w3 ⟨rfl, hb⟩
  have g3 : w2.heap.size ≤ w3.heap.size := hb.size
  replace B := Lib.hid (B.out.trans (hb.mono B.out.size))
  replace X0 := Lib.hid (X0.out.below hb (Nat.le_refl _))
  clear hb
  clear X0
  go_wp2_with fail
  refine (toSteps_any _ l0 w3 (H0.out.below B.out (Nat.le_refl _)) N0.out).mono ?_
  rintro e w4 ⟨v4, rfl, ho, hb⟩
  obtain ⟨a4, c4, rfl, -⟩ := id ho.2
  have g4 : w3.heap.size ≤ w4.heap.size := hb.size
  replace B := Lib.hid (B.out.trans (hb.mono B.out.size))
  have X0 := Lib.hid (Ob.new ho)
  clear ho hb
  go_wp2_with fail
  have hc := implTouches _ l0 y1 w4 X0.out.rd N0.out TO.out i0 i1
  rw [← HV.out] at hc
  refine hc.mono ?_
  clear hc
  rintro e w5 ⟨rfl, hb⟩
  have g5 : w4.heap.size ≤ w5.heap.size := hb.size
  replace B := Lib.hid (B.out.trans (hb.mono B.out.size))
  replace X0 := Lib.hid (X0.out.below hb (Nat.le_refl _))
  clear hb
  go_wp2_with fail
  have dq : (R != R) = false := by simp
  go_wp2_with fail
  refine (toSteps_any _ l0 w5 (H0.out.below B.out (Nat.le_refl _)) N0.out).mono ?_
  rintro e w6 ⟨v6, rfl, ho, hb⟩
  obtain ⟨a6, c6, rfl, -⟩ := id ho.2
  have g6 : w5.heap.size ≤ w6.heap.size := hb.size
  replace B := Lib.hid (B.out.trans (hb.mono B.out.size))
  replace X0 := Lib.hid (X0.out.below hb (Nat.le_refl _))
  have Y := Lib.hid (Ob.new ho)
  clear ho hb
  go_wp2_with fail
  refine (eqSteps_any _ _ l0 w6 X0.out.rd Y.out.rd (by have := N0.out; unfold maxLen; omega)).mono ?_
  rintro e w7 ⟨rfl, hb⟩
  have g7 : w6.heap.size ≤ w7.heap.size := hb.size
  replace B := Lib.hid (B.out.trans (hb.mono B.out.size))
  replace X0 := Lib.hid (X0.out.below hb (Nat.le_refl _))
  replace Y := Lib.hid (Y.out.below hb (Nat.le_refl _))
  clear hb
  clear Y
  go_wp2_with fail
  go_ret
  exact ⟨rfl, B.out⟩
end Go.Proofs.Ytcckpkcjekcajaa
