/- The exact law of ImageApply. -/
import Derived.Test.YtcckpkcjekcajaaCZ
import Derived.Test.YtcckpkcjekcajaaCOutL
import Derived.Test.YtcckpkcjekcajaaCSIa
import Derived.Test.YtcckpkcjekcajaaCIAp
import Derived.Test.YtcckpkcjekcajaaBLaw2
import Derived.Test.YtcckpkcjekcajaaAOb
namespace Go.Proofs.Ytcckpkcjekcajaa
open Go.RowKit

set_option maxRecDepth 100000 in
set_option maxHeartbeats 4000000 in
theorem imageApplyLaw (v00 : Value) (l0 : List ByteArray) (v10 : Value) (l1 : List stpT) (w : World) (h0 : Rd w v00 l0.length 1 (strs l0)) (q0 : l0.length ≤ maxLen) (f0 : FitZ l0) (h1 : Rd w v10 l1.length 4 (stpCs l1)) (q1 : l1.length ≤ maxLen) (f1 : FitT l1)  :
    Calls Try.prog 7 #[v00, v10] w fun e w' => e = .returned (.bool true) ∧ Below w.heap.size w w' := by
  obtain ⟨a00, c00, rfl, -⟩ := id h0.2
  have H0 := Lib.hid h0
  clear h0
  have F0 := Lib.hid f0
  clear f0
  obtain ⟨a10, c10, rfl, -⟩ := id h1.2
  have H1 := Lib.hid h1
  clear h1
  have F1 := Lib.hid f1
  clear f1
  obtain ⟨R, hR⟩ : ∃ R, R = applyR l0 l1 := ⟨_, rfl⟩
  have hRl : R.1.length ≤ 8 := by rw [hR]; exact applyR_len l0 l1
  have HV := Lib.hid hR
  clear hR
  go_enter Try.func7, Try.ntmps7
  go_wp2_with fail
  refine (szStrs2 _ l0 1048576 w H0.out q0 F0.out (by decide) (by decide)).mono ?_
  rintro e w1 ⟨r0, rfl, hb, hq⟩
  have g1 : w.heap.size ≤ w1.heap.size := hb.size
  have B := Lib.hid hb
  clear hb
  rcases hq with rfl | ⟨p00, p01, p02⟩
  · go_wp2_with fail
    go_ret
    exact ⟨rfl, B.out⟩
  have d0 : decide (r0 < 0) = false := decide_eq_false (by omega)
  have n0 : l0.length ≤ 1048576 := by omega
  have N0 := Lib.hid n0
  clear n0
  go_wp2_with fail
  refine (szSteps2 _ l1 r0 w1 (H1.out.below B.out (Nat.le_refl _)) q1 F1.out p00 (by omega)).mono ?_
  rintro e w2 ⟨r1, rfl, hb, hq⟩
  have g2 : w1.heap.size ≤ w2.heap.size := hb.size
  replace B := Lib.hid (B.out.trans (hb.mono B.out.size))
  clear hb
  rcases hq with rfl | ⟨p10, p11, p12⟩
  · go_wp2_with fail
    go_ret
    exact ⟨rfl, B.out⟩
  have d1 : decide (r1 < 0) = false := decide_eq_false (by omega)
  have n1 : l1.length ≤ 1048576 := by omega
  have N1 := Lib.hid n1
  clear n1
  go_wp2_with fail
  refine (toStrs_any _ l0 w2 (H0.out.below B.out (Nat.le_refl _)) N0.out).mono ?_
  rintro e w3 ⟨v3, rfl, ho, hb⟩
  obtain ⟨a3, c3, rfl, -⟩ := id ho.2
  have g3 : w2.heap.size ≤ w3.heap.size := hb.size
  replace B := Lib.hid (B.out.trans (hb.mono B.out.size))
  have X0 := Lib.hid (Ob.new ho)
  clear ho hb
  go_wp2_with fail
  refine (toSteps_any _ l1 w3 (H1.out.below B.out (Nat.le_refl _)) N1.out).mono ?_
  rintro e w4 ⟨v4, rfl, ho, hb⟩
  obtain ⟨a4, c4, rfl, -⟩ := id ho.2
  have g4 : w3.heap.size ≤ w4.heap.size := hb.size
  replace B := Lib.hid (B.out.trans (hb.mono B.out.size))
  replace X0 := Lib.hid (X0.out.below hb (Nat.le_refl _))
  have X1 := Lib.hid (Ob.new ho)
  clear ho hb
  go_wp2_with fail
  have hc := specImageApply _ _ l0 l1 w4 X0.out.rd X1.out.rd N0.out N1.out
  rw [← HV.out] at hc
  refine hc.mono ?_
  clear hc
  rintro e w5 ⟨v5, rfl, ho, hb⟩
  obtain ⟨a5, c5, rfl, -⟩ := id ho.2
  have g5 : w4.heap.size ≤ w5.heap.size := hb.size
  replace B := Lib.hid (B.out.trans (hb.mono B.out.size))
  replace X0 := Lib.hid (X0.out.below hb (Nat.le_refl _))
  replace X1 := Lib.hid (X1.out.below hb (Nat.le_refl _))
  have T := Lib.hid (Ob.new ho)
  clear ho hb
  have b5 := below_alloc1 w5 (.cells #[.slice a5 R.1.length c5, .int .i64 R.2] 37)
  have z5 := size_alloc1 w5 (.cells #[.slice a5 R.1.length c5, .int .i64 R.2] 37)
  have XT := Lib.hid (bx_new w5 37 #[.slice a5 R.1.length c5, .int .i64 R.2])
  clear X0
  clear X1
  go_wp2_with fail
  generalize w5.alloc (.cells #[.slice a5 R.1.length c5, .int .i64 R.2] 37) = W5 at *
  have g50 : w5.heap.size ≤ W5.heap.size := by omega
  replace B := Lib.hid (B.out.trans (b5.mono B.out.size))
  replace T := Lib.hid (T.out.below b5 (Nat.le_refl _))
  clear b5
  refine (toStrs_any _ l0 W5 (H0.out.below B.out (Nat.le_refl _)) N0.out).mono ?_
  rintro e w6 ⟨v6, rfl, ho, hb⟩
  obtain ⟨a6, c6, rfl, -⟩ := id ho.2
  have g6 : W5.heap.size ≤ w6.heap.size := hb.size
  replace B := Lib.hid (B.out.trans (hb.mono B.out.size))
  replace T := Lib.hid (T.out.below hb (Nat.le_refl _))
  replace XT := Lib.hid (XT.out.next hb)
  have X0 := Lib.hid (Ob.new ho)
  clear ho hb
  have cXT0 := XT.out.cell 0
  have cXT1 := XT.out.cell 1
  simp at cXT0 cXT1
  go_wp2_with fail
  clear cXT0 cXT1
  refine (toSteps_any _ l1 w6 (H1.out.below B.out (Nat.le_refl _)) N1.out).mono ?_
  rintro e w7 ⟨v7, rfl, ho, hb⟩
  obtain ⟨a7, c7, rfl, -⟩ := id ho.2
  have g7 : w6.heap.size ≤ w7.heap.size := hb.size
  replace B := Lib.hid (B.out.trans (hb.mono B.out.size))
  replace T := Lib.hid (T.out.below hb (Nat.le_refl _))
  replace X0 := Lib.hid (X0.out.below hb (Nat.le_refl _))
  replace XT := Lib.hid (XT.out.next hb)
  have X1 := Lib.hid (Ob.new ho)
  clear ho hb
  have cXT0 := XT.out.cell 0
  have cXT1 := XT.out.cell 1
  simp at cXT0 cXT1
  go_wp2_with fail
  clear cXT0 cXT1
  have hc := implImageApply _ _ l0 l1 w7 X0.out.rd X1.out.rd N0.out N1.out
  rw [← HV.out] at hc
  refine hc.mono ?_
  clear hc
  rintro e w8 ⟨v8, rfl, ho, hb⟩
  obtain ⟨a8, c8, rfl, -⟩ := id ho.2
  have g8 : w7.heap.size ≤ w8.heap.size := hb.size
  replace B := Lib.hid (B.out.trans (hb.mono B.out.size))
  replace T := Lib.hid (T.out.below hb (Nat.le_refl _))
  replace X0 := Lib.hid (X0.out.below hb (Nat.le_refl _))
  replace X1 := Lib.hid (X1.out.below hb (Nat.le_refl _))
  replace XT := Lib.hid (XT.out.next hb)
  have G := Lib.hid (Ob.new ho)
  clear ho hb
  have b8 := below_alloc1 w8 (.cells #[.slice a8 R.1.length c8, .int .i64 R.2] 37)
  have z8 := size_alloc1 w8 (.cells #[.slice a8 R.1.length c8, .int .i64 R.2] 37)
  have XG := Lib.hid (bx_new w8 37 #[.slice a8 R.1.length c8, .int .i64 R.2])
  have cXT0 := (XT.out.next b8).cell 0
  have cXT1 := (XT.out.next b8).cell 1
  simp at cXT0 cXT1
  have cXG0 := XG.out.cell 0
  have cXG1 := XG.out.cell 1
  simp at cXG0 cXG1
  go_wp2_with fail
  clear cXT0 cXT1
  clear cXG0 cXG1
  generalize w8.alloc (.cells #[.slice a8 R.1.length c8, .int .i64 R.2] 37) = W8 at *
  have g80 : w8.heap.size ≤ W8.heap.size := by omega
  replace B := Lib.hid (B.out.trans (b8.mono B.out.size))
  replace T := Lib.hid (T.out.below b8 (Nat.le_refl _))
  replace X0 := Lib.hid (X0.out.below b8 (Nat.le_refl _))
  replace X1 := Lib.hid (X1.out.below b8 (Nat.le_refl _))
  replace G := Lib.hid (G.out.below b8 (Nat.le_refl _))
  replace XT := Lib.hid (XT.out.next b8)
  clear b8
  refine (eqImageOut_any _ _ R W8 G.out.rd T.out.rd (by omega)).mono ?_
  rintro e w9 ⟨rfl, hb⟩
  have g9 : W8.heap.size ≤ w9.heap.size := hb.size
  replace B := Lib.hid (B.out.trans (hb.mono B.out.size))
  replace T := Lib.hid (T.out.below hb (Nat.le_refl _))
  replace X0 := Lib.hid (X0.out.below hb (Nat.le_refl _))
  replace X1 := Lib.hid (X1.out.below hb (Nat.le_refl _))
  replace G := Lib.hid (G.out.below hb (Nat.le_refl _))
  replace XT := Lib.hid (XT.out.next hb)
  replace XG := Lib.hid (XG.out.next hb)
  clear hb
  have cXT0 := XT.out.cell 0
  have cXT1 := XT.out.cell 1
  simp at cXT0 cXT1
  have cXG0 := XG.out.cell 0
  have cXG1 := XG.out.cell 1
  simp at cXG0 cXG1
  go_wp2_with fail
  clear cXT0 cXT1
  clear cXG0 cXG1
  refine (toStrs_any _ l0 w9 (H0.out.below B.out (Nat.le_refl _)) N0.out).mono ?_
  rintro e w10 ⟨v10, rfl, ho, hb⟩
  obtain ⟨a10, c10, rfl, -⟩ := id ho.2
  have g10 : w9.heap.size ≤ w10.heap.size := hb.size
  replace B := Lib.hid (B.out.trans (hb.mono B.out.size))
  replace T := Lib.hid (T.out.below hb (Nat.le_refl _))
  replace X0 := Lib.hid (X0.out.below hb (Nat.le_refl _))
  replace X1 := Lib.hid (X1.out.below hb (Nat.le_refl _))
  replace G := Lib.hid (G.out.below hb (Nat.le_refl _))
  replace XT := Lib.hid (XT.out.next hb)
  replace XG := Lib.hid (XG.out.next hb)
  have Y := Lib.hid (Ob.new ho)
  clear ho hb
  have cXT0 := XT.out.cell 0
  have cXT1 := XT.out.cell 1
  simp at cXT0 cXT1
  have cXG0 := XG.out.cell 0
  have cXG1 := XG.out.cell 1
  simp at cXG0 cXG1
  go_wp2_with fail
  clear cXT0 cXT1
  clear cXG0 cXG1
  refine (eqStrs_any _ _ l0 w10 X0.out.rd Y.out.rd (by have := N0.out; unfold maxLen; omega)).mono ?_
  rintro e w11 ⟨rfl, hst⟩
  have hb := hst.below w10.heap.size
  clear hst
  have g11 : w10.heap.size ≤ w11.heap.size := hb.size
  replace B := Lib.hid (B.out.trans (hb.mono B.out.size))
  replace T := Lib.hid (T.out.below hb (Nat.le_refl _))
  replace X0 := Lib.hid (X0.out.below hb (Nat.le_refl _))
  replace X1 := Lib.hid (X1.out.below hb (Nat.le_refl _))
  replace G := Lib.hid (G.out.below hb (Nat.le_refl _))
  replace Y := Lib.hid (Y.out.below hb (Nat.le_refl _))
  replace XT := Lib.hid (XT.out.next hb)
  replace XG := Lib.hid (XG.out.next hb)
  clear hb
  clear Y
  have cXT0 := XT.out.cell 0
  have cXT1 := XT.out.cell 1
  simp at cXT0 cXT1
  have cXG0 := XG.out.cell 0
  have cXG1 := XG.out.cell 1
  simp at cXG0 cXG1
  go_wp2_with fail
  clear cXT0 cXT1
  clear cXG0 cXG1
  refine (toSteps_any _ l1 w11 (H1.out.below B.out (Nat.le_refl _)) N1.out).mono ?_
  rintro e w12 ⟨v12, rfl, ho, hb⟩
  obtain ⟨a12, c12, rfl, -⟩ := id ho.2
  have g12 : w11.heap.size ≤ w12.heap.size := hb.size
  replace B := Lib.hid (B.out.trans (hb.mono B.out.size))
  replace T := Lib.hid (T.out.below hb (Nat.le_refl _))
  replace X0 := Lib.hid (X0.out.below hb (Nat.le_refl _))
  replace X1 := Lib.hid (X1.out.below hb (Nat.le_refl _))
  replace G := Lib.hid (G.out.below hb (Nat.le_refl _))
  replace XT := Lib.hid (XT.out.next hb)
  replace XG := Lib.hid (XG.out.next hb)
  have Y := Lib.hid (Ob.new ho)
  clear ho hb
  have cXT0 := XT.out.cell 0
  have cXT1 := XT.out.cell 1
  simp at cXT0 cXT1
  have cXG0 := XG.out.cell 0
  have cXG1 := XG.out.cell 1
  simp at cXG0 cXG1
  go_wp2_with fail
  clear cXT0 cXT1
  clear cXG0 cXG1
  refine (eqSteps_any _ _ l1 w12 X1.out.rd Y.out.rd (by have := N1.out; unfold maxLen; omega)).mono ?_
  rintro e w13 ⟨rfl, hb⟩
  have g13 : w12.heap.size ≤ w13.heap.size := hb.size
  replace B := Lib.hid (B.out.trans (hb.mono B.out.size))
  replace T := Lib.hid (T.out.below hb (Nat.le_refl _))
  replace X0 := Lib.hid (X0.out.below hb (Nat.le_refl _))
  replace X1 := Lib.hid (X1.out.below hb (Nat.le_refl _))
  replace G := Lib.hid (G.out.below hb (Nat.le_refl _))
  replace Y := Lib.hid (Y.out.below hb (Nat.le_refl _))
  replace XT := Lib.hid (XT.out.next hb)
  replace XG := Lib.hid (XG.out.next hb)
  clear hb
  clear Y
  have cXT0 := XT.out.cell 0
  have cXT1 := XT.out.cell 1
  simp at cXT0 cXT1
  have cXG0 := XG.out.cell 0
  have cXG1 := XG.out.cell 1
  simp at cXG0 cXG1
  go_wp2_with fail
  clear cXT0 cXT1
  clear cXG0 cXG1
  have nn0 := N0.out
  have nn1 := N1.out
  refine (markStrs_any W5.heap.size _ l0.length (1) _ w13 X0.out.own N0.out (by omega) (by have := N0.out; omega)).mono ?_
  clear nn0
  clear nn1
  rintro e w14 ⟨rfl, -, hg⟩
  have hu := X0.out.range
  have g14 : w13.heap.size ≤ w14.heap.size := hg.size
  replace B := Lib.hid (B.out.trans ((grown_below hg hu (by omega)).mono (by omega)))
  replace T := Lib.hid (T.out.grown hg hu (by omega))
  replace X1 := Lib.hid (X1.out.grown hg hu (by omega))
  replace G := Lib.hid (G.out.grown hg hu (by omega))
  replace XT := Lib.hid (XT.out.mark hg hu (by omega))
  replace XG := Lib.hid (XG.out.mark hg hu (by omega))
  clear hg hu
  clear X0
  have cXT0 := XT.out.cell 0
  have cXT1 := XT.out.cell 1
  simp at cXT0 cXT1
  have cXG0 := XG.out.cell 0
  have cXG1 := XG.out.cell 1
  simp at cXG0 cXG1
  go_wp2_with fail
  clear cXT0 cXT1
  clear cXG0 cXG1
  have nn0 := N0.out
  have nn1 := N1.out
  refine (markSteps_any w6.heap.size _ l1.length (1 + l0.length) _ w14 X1.out.own N1.out (by omega) (by have := N1.out; omega)).mono ?_
  clear nn0
  clear nn1
  rintro e w15 ⟨rfl, -, hg⟩
  have hu := X1.out.range
  have g15 : w14.heap.size ≤ w15.heap.size := hg.size
  replace B := Lib.hid (B.out.trans ((grown_below hg hu (by omega)).mono (by omega)))
  replace T := Lib.hid (T.out.grown hg hu (by omega))
  replace G := Lib.hid (G.out.grown hg hu (by omega))
  replace XT := Lib.hid (XT.out.mark hg hu (by omega))
  replace XG := Lib.hid (XG.out.mark hg hu (by omega))
  clear hg hu
  clear X1
  have cXT0 := XT.out.cell 0
  have cXT1 := XT.out.cell 1
  simp at cXT0 cXT1
  have cXG0 := XG.out.cell 0
  have cXG1 := XG.out.cell 1
  simp at cXG0 cXG1
  go_wp2_with fail
  clear cXT0 cXT1
  clear cXG0 cXG1
  refine (eqImageOut_any _ _ R w15 G.out.rd T.out.rd (by omega)).mono ?_
  rintro e w16 ⟨rfl, hb⟩
  have g16 : w15.heap.size ≤ w16.heap.size := hb.size
  replace B := Lib.hid (B.out.trans (hb.mono B.out.size))
  replace T := Lib.hid (T.out.below hb (Nat.le_refl _))
  replace G := Lib.hid (G.out.below hb (Nat.le_refl _))
  replace XT := Lib.hid (XT.out.next hb)
  replace XG := Lib.hid (XG.out.next hb)
  clear hb
  have cXT0 := XT.out.cell 0
  have cXT1 := XT.out.cell 1
  simp at cXT0 cXT1
  have cXG0 := XG.out.cell 0
  have cXG1 := XG.out.cell 1
  simp at cXG0 cXG1
  go_wp2_with fail
  clear cXT0 cXT1
  clear cXG0 cXG1
  refine (markImageOut_any w7.heap.size _ R 1 _ w16 G.out.own (by omega) (by omega) (by omega)).mono ?_
  rintro e w17 ⟨rfl, hm, hg⟩
  have G' := Lib.hid (G.out.marked hm)
  clear hm
  have hu := G.out.range
  have g17 : w16.heap.size ≤ w17.heap.size := hg.size
  replace B := Lib.hid (B.out.trans ((grown_below hg hu (by omega)).mono (by omega)))
  replace T := Lib.hid (T.out.grown hg hu (by omega))
  replace XT := Lib.hid (XT.out.mark hg hu (by omega))
  replace XG := Lib.hid (XG.out.mark hg hu (by omega))
  clear hg hu
  clear G
  have G := G'
  clear G'
  obtain ⟨z, hz⟩ : ∃ z : Int, z = ((1 + R.1.length : Nat) : Int) := ⟨_, rfl⟩
  rw [← hz]
  have dz : decide (z < 0) = false := decide_eq_false (by omega)
  have HZ := Lib.hid hz
  clear hz
  have cXT0 := XT.out.cell 0
  have cXT1 := XT.out.cell 1
  simp at cXT0 cXT1
  have cXG0 := XG.out.cell 0
  have cXG1 := XG.out.cell 1
  simp at cXG0 cXG1
  go_wp2_with fail
  clear cXT0 cXT1
  clear cXG0 cXG1
  refine (heldImageOut_any _ R 1 w17 G.out.rd (by omega) (by omega) (by omega)).mono ?_
  rintro e w18 ⟨rfl, hb⟩
  rw [← HZ.out]
  have g18 : w17.heap.size ≤ w18.heap.size := hb.size
  replace B := Lib.hid (B.out.trans (hb.mono B.out.size))
  replace T := Lib.hid (T.out.below hb (Nat.le_refl _))
  replace G := Lib.hid (G.out.below hb (Nat.le_refl _))
  replace XT := Lib.hid (XT.out.next hb)
  replace XG := Lib.hid (XG.out.next hb)
  clear hb
  have cXT0 := XT.out.cell 0
  have cXT1 := XT.out.cell 1
  simp at cXT0 cXT1
  have cXG0 := XG.out.cell 0
  have cXG1 := XG.out.cell 1
  simp at cXG0 cXG1
  go_wp2_with fail
  clear cXT0 cXT1
  clear cXG0 cXG1
  refine (toStrs_any _ l0 w18 (H0.out.below B.out (Nat.le_refl _)) N0.out).mono ?_
  rintro e w19 ⟨v19, rfl, ho, hb⟩
  obtain ⟨a19, c19, rfl, -⟩ := id ho.2
  have g19 : w18.heap.size ≤ w19.heap.size := hb.size
  replace B := Lib.hid (B.out.trans (hb.mono B.out.size))
  replace T := Lib.hid (T.out.below hb (Nat.le_refl _))
  replace G := Lib.hid (G.out.below hb (Nat.le_refl _))
  replace XT := Lib.hid (XT.out.next hb)
  replace XG := Lib.hid (XG.out.next hb)
  have X0 := Lib.hid (Ob.new ho)
  clear ho hb
  have cXT0 := XT.out.cell 0
  have cXT1 := XT.out.cell 1
  simp at cXT0 cXT1
  have cXG0 := XG.out.cell 0
  have cXG1 := XG.out.cell 1
  simp at cXG0 cXG1
  go_wp2_with fail
  clear cXT0 cXT1
  clear cXG0 cXG1
  refine (toSteps_any _ l1 w19 (H1.out.below B.out (Nat.le_refl _)) N1.out).mono ?_
  rintro e w20 ⟨v20, rfl, ho, hb⟩
  obtain ⟨a20, c20, rfl, -⟩ := id ho.2
  have g20 : w19.heap.size ≤ w20.heap.size := hb.size
  replace B := Lib.hid (B.out.trans (hb.mono B.out.size))
  replace T := Lib.hid (T.out.below hb (Nat.le_refl _))
  replace G := Lib.hid (G.out.below hb (Nat.le_refl _))
  replace X0 := Lib.hid (X0.out.below hb (Nat.le_refl _))
  replace XT := Lib.hid (XT.out.next hb)
  replace XG := Lib.hid (XG.out.next hb)
  have X1 := Lib.hid (Ob.new ho)
  clear ho hb
  have cXT0 := XT.out.cell 0
  have cXT1 := XT.out.cell 1
  simp at cXT0 cXT1
  have cXG0 := XG.out.cell 0
  have cXG1 := XG.out.cell 1
  simp at cXG0 cXG1
  go_wp2_with fail
  clear cXT0 cXT1
  clear cXG0 cXG1
  have hc := implImageApply _ _ l0 l1 w20 X0.out.rd X1.out.rd N0.out N1.out
  rw [← HV.out] at hc
  refine hc.mono ?_
  clear hc
  rintro e w21 ⟨v21, rfl, ho, hb⟩
  obtain ⟨a21, c21, rfl, -⟩ := id ho.2
  have g21 : w20.heap.size ≤ w21.heap.size := hb.size
  replace B := Lib.hid (B.out.trans (hb.mono B.out.size))
  replace T := Lib.hid (T.out.below hb (Nat.le_refl _))
  replace G := Lib.hid (G.out.below hb (Nat.le_refl _))
  replace X0 := Lib.hid (X0.out.below hb (Nat.le_refl _))
  replace X1 := Lib.hid (X1.out.below hb (Nat.le_refl _))
  replace XT := Lib.hid (XT.out.next hb)
  replace XG := Lib.hid (XG.out.next hb)
  have K := Lib.hid (Ob.new ho)
  clear ho hb
  have b21 := below_alloc1 w21 (.cells #[.slice a21 R.1.length c21, .int .i64 R.2] 37)
  have z21 := size_alloc1 w21 (.cells #[.slice a21 R.1.length c21, .int .i64 R.2] 37)
  have XK := Lib.hid (bx_new w21 37 #[.slice a21 R.1.length c21, .int .i64 R.2])
  have cXT0 := (XT.out.next b21).cell 0
  have cXT1 := (XT.out.next b21).cell 1
  simp at cXT0 cXT1
  have cXG0 := (XG.out.next b21).cell 0
  have cXG1 := (XG.out.next b21).cell 1
  simp at cXG0 cXG1
  have cXK0 := XK.out.cell 0
  have cXK1 := XK.out.cell 1
  simp at cXK0 cXK1
  go_wp2_with fail
  clear cXT0 cXT1
  clear cXG0 cXG1
  clear cXK0 cXK1
  generalize w21.alloc (.cells #[.slice a21 R.1.length c21, .int .i64 R.2] 37) = W21 at *
  have g210 : w21.heap.size ≤ W21.heap.size := by omega
  replace B := Lib.hid (B.out.trans (b21.mono B.out.size))
  replace T := Lib.hid (T.out.below b21 (Nat.le_refl _))
  replace G := Lib.hid (G.out.below b21 (Nat.le_refl _))
  replace X0 := Lib.hid (X0.out.below b21 (Nat.le_refl _))
  replace X1 := Lib.hid (X1.out.below b21 (Nat.le_refl _))
  replace K := Lib.hid (K.out.below b21 (Nat.le_refl _))
  replace XT := Lib.hid (XT.out.next b21)
  replace XG := Lib.hid (XG.out.next b21)
  clear b21
  refine (eqImageOut_any _ _ R W21 K.out.rd T.out.rd (by omega)).mono ?_
  rintro e w22 ⟨rfl, hb⟩
  have g22 : W21.heap.size ≤ w22.heap.size := hb.size
  replace B := Lib.hid (B.out.trans (hb.mono B.out.size))
  replace T := Lib.hid (T.out.below hb (Nat.le_refl _))
  replace G := Lib.hid (G.out.below hb (Nat.le_refl _))
  replace X0 := Lib.hid (X0.out.below hb (Nat.le_refl _))
  replace X1 := Lib.hid (X1.out.below hb (Nat.le_refl _))
  replace K := Lib.hid (K.out.below hb (Nat.le_refl _))
  replace XT := Lib.hid (XT.out.next hb)
  replace XG := Lib.hid (XG.out.next hb)
  replace XK := Lib.hid (XK.out.next hb)
  clear hb
  have cXT0 := XT.out.cell 0
  have cXT1 := XT.out.cell 1
  simp at cXT0 cXT1
  have cXG0 := XG.out.cell 0
  have cXG1 := XG.out.cell 1
  simp at cXG0 cXG1
  have cXK0 := XK.out.cell 0
  have cXK1 := XK.out.cell 1
  simp at cXK0 cXK1
  go_wp2_with fail
  clear cXT0 cXT1
  clear cXG0 cXG1
  clear cXK0 cXK1
  refine (heldImageOut_any _ R 1 w22 G.out.rd (by omega) (by omega) (by omega)).mono ?_
  rintro e w23 ⟨rfl, hb⟩
  rw [← HZ.out]
  have g23 : w22.heap.size ≤ w23.heap.size := hb.size
  replace B := Lib.hid (B.out.trans (hb.mono B.out.size))
  replace T := Lib.hid (T.out.below hb (Nat.le_refl _))
  replace G := Lib.hid (G.out.below hb (Nat.le_refl _))
  replace X0 := Lib.hid (X0.out.below hb (Nat.le_refl _))
  replace X1 := Lib.hid (X1.out.below hb (Nat.le_refl _))
  replace K := Lib.hid (K.out.below hb (Nat.le_refl _))
  replace XT := Lib.hid (XT.out.next hb)
  replace XG := Lib.hid (XG.out.next hb)
  replace XK := Lib.hid (XK.out.next hb)
  clear hb
  have cXT0 := XT.out.cell 0
  have cXT1 := XT.out.cell 1
  simp at cXT0 cXT1
  have cXG0 := XG.out.cell 0
  have cXG1 := XG.out.cell 1
  simp at cXG0 cXG1
  have cXK0 := XK.out.cell 0
  have cXK1 := XK.out.cell 1
  simp at cXK0 cXK1
  go_wp2_with fail
  clear cXT0 cXT1
  clear cXG0 cXG1
  clear cXK0 cXK1
  go_ret
  exact ⟨rfl, B.out⟩
end Go.Proofs.Ytcckpkcjekcajaa
