/- The exact law of Scan. -/
import Derived.Test.YthkbllkhomjmbaaDoorQScan
import Derived.Test.YthkbllkhomjmbaaDoorQOutL
import Derived.Test.YthkbllkhomjmbaaDoorCZ
import Derived.Test.YthkbllkhomjmbaaDoorAOb
namespace Go.Proofs.YthkbllkhomjmbaaDoor
open Go.RowKit

set_option maxRecDepth 100000 in
set_option maxHeartbeats 4000000 in
theorem scanLaw (v00 : Value) (l0 : List ByteArray) (w : World) (h0 : Rd w v00 l0.length 1 (strs l0)) (q0 : l0.length ≤ maxLen) (f0 : FitZ l0) (aE : Nat → Addr) (hL : Laid w) (hE : Sent w sealG aE) :
    Calls Tryd.prog 10 #[v00] w fun e w' => e = .returned (.bool true) ∧ Below w.heap.size w w' := by
  obtain ⟨a00, c00, rfl, -⟩ := id h0.2
  have HL := Lib.hid hL
  have HE := Lib.hid hE
  clear hL hE
  have H0 := Lib.hid h0
  clear h0
  have F0 := Lib.hid f0
  clear f0
  obtain ⟨R, hR⟩ : ∃ R, R = scanR l0 := ⟨_, rfl⟩
  have hRl : R.1.length ≤ 24 := by rw [hR]; exact scanR_len l0
  have HV := Lib.hid hR
  clear hR
  go_enter Tryd.func10, Tryd.ntmps10
  go_wp2_with fail
  refine (szStrs2 _ l0 1048576 w H0.out q0 F0.out (by decide) (by decide)).mono ?_
  rintro e w1 ⟨r0, rfl, hb, hq⟩
  have g1 : w.heap.size ≤ w1.heap.size := hb.size
  have B := Lib.hid hb
  clear hb
  rcases hq with rfl | ⟨p00, p01, p02⟩
  · go_wp2_with fail
    go_ret
    exact ⟨rfl, B.out⟩
  have d0 : decide (r0 < 0) = false := decide_eq_false (by omega)
  have n0 : l0.length ≤ 1048576 := by omega
  have N0 := Lib.hid n0
  clear n0
  go_wp2_with fail
  refine (toStrs_any _ l0 w1 (H0.out.below B.out (Nat.le_refl _)) N0.out).mono ?_
  rintro e w2 ⟨v2, rfl, ho, hb⟩
  obtain ⟨a2, c2, rfl, -⟩ := id ho.2
  have g2 : w1.heap.size ≤ w2.heap.size := hb.size
  replace B := Lib.hid (B.out.trans (hb.mono B.out.size))
  have X0 := Lib.hid (Ob.new ho)
  clear ho hb
  go_wp2_with fail
  have hc := specScan _ l0 w2 X0.out.rd N0.out F0.out
  rw [← HV.out] at hc
  refine hc.mono ?_
  clear hc
  rintro e w3 ⟨v3, rfl, ho, hb⟩
  obtain ⟨a3, c3, rfl, -⟩ := id ho.2
  have g3 : w2.heap.size ≤ w3.heap.size := hb.size
  replace B := Lib.hid (B.out.trans (hb.mono B.out.size))
  replace X0 := Lib.hid (X0.out.below hb (Nat.le_refl _))
  have T := Lib.hid (Ob.new ho)
  clear ho hb
  have b3 := below_alloc1 w3 (.cells #[.slice a3 R.1.length c3, .int .i64 R.2] 66)
  have z3 := size_alloc1 w3 (.cells #[.slice a3 R.1.length c3, .int .i64 R.2] 66)
  have XT := Lib.hid (bx_new w3 66 #[.slice a3 R.1.length c3, .int .i64 R.2])
  clear X0
  go_wp2_with fail
  generalize w3.alloc (.cells #[.slice a3 R.1.length c3, .int .i64 R.2] 66) = W3 at *
  have g30 : w3.heap.size ≤ W3.heap.size := by omega
  replace B := Lib.hid (B.out.trans (b3.mono B.out.size))
  replace T := Lib.hid (T.out.below b3 (Nat.le_refl _))
  clear b3
  refine (toStrs_any _ l0 W3 (H0.out.below B.out (Nat.le_refl _)) N0.out).mono ?_
  rintro e w4 ⟨v4, rfl, ho, hb⟩
  obtain ⟨a4, c4, rfl, -⟩ := id ho.2
  have g4 : W3.heap.size ≤ w4.heap.size := hb.size
  replace B := Lib.hid (B.out.trans (hb.mono B.out.size))
  replace T := Lib.hid (T.out.below hb (Nat.le_refl _))
  replace XT := Lib.hid (XT.out.next hb)
  have X0 := Lib.hid (Ob.new ho)
  clear ho hb
  have cXT0 := XT.out.cell 0
  have cXT1 := XT.out.cell 1
  simp at cXT0 cXT1
  go_wp2_with fail
  clear cXT0 cXT1
  have hc := implScan _ l0 aE w4 X0.out.rd N0.out F0.out (HL.out.below B.out) (HE.out.next B.out)
  rw [← HV.out] at hc
  refine hc.mono ?_
  clear hc
  rintro e w5 ⟨v5, rfl, ho, hb⟩
  obtain ⟨a5, c5, rfl, -⟩ := id ho.2
  have g5 : w4.heap.size ≤ w5.heap.size := hb.size
  replace B := Lib.hid (B.out.trans (hb.mono B.out.size))
  replace T := Lib.hid (T.out.below hb (Nat.le_refl _))
  replace X0 := Lib.hid (X0.out.below hb (Nat.le_refl _))
  replace XT := Lib.hid (XT.out.next hb)
  have G := Lib.hid (Ob.new ho)
  clear ho hb
  have b5 := below_alloc1 w5 (.cells #[.slice a5 R.1.length c5, .int .i64 R.2] 66)
  have z5 := size_alloc1 w5 (.cells #[.slice a5 R.1.length c5, .int .i64 R.2] 66)
  have XG := Lib.hid (bx_new w5 66 #[.slice a5 R.1.length c5, .int .i64 R.2])
  have cXT0 := (XT.out.next b5).cell 0
  have cXT1 := (XT.out.next b5).cell 1
  simp at cXT0 cXT1
  have cXG0 := XG.out.cell 0
  have cXG1 := XG.out.cell 1
  simp at cXG0 cXG1
  go_wp2_with fail
  clear cXT0 cXT1
  clear cXG0 cXG1
  generalize w5.alloc (.cells #[.slice a5 R.1.length c5, .int .i64 R.2] 66) = W5 at *
  have g50 : w5.heap.size ≤ W5.heap.size := by omega
  replace B := Lib.hid (B.out.trans (b5.mono B.out.size))
  replace T := Lib.hid (T.out.below b5 (Nat.le_refl _))
  replace X0 := Lib.hid (X0.out.below b5 (Nat.le_refl _))
  replace G := Lib.hid (G.out.below b5 (Nat.le_refl _))
  replace XT := Lib.hid (XT.out.next b5)
  clear b5
  refine (eqScanOut_any _ _ R W5 G.out.rd T.out.rd (by omega)).mono ?_
  rintro e w6 ⟨rfl, hb⟩
  have g6 : W5.heap.size ≤ w6.heap.size := hb.size
  replace B := Lib.hid (B.out.trans (hb.mono B.out.size))
  replace T := Lib.hid (T.out.below hb (Nat.le_refl _))
  replace X0 := Lib.hid (X0.out.below hb (Nat.le_refl _))
  replace G := Lib.hid (G.out.below hb (Nat.le_refl _))
  replace XT := Lib.hid (XT.out.next hb)
  replace XG := Lib.hid (XG.out.next hb)
  clear hb
  have cXT0 := XT.out.cell 0
  have cXT1 := XT.out.cell 1
  simp at cXT0 cXT1
  have cXG0 := XG.out.cell 0
  have cXG1 := XG.out.cell 1
  simp at cXG0 cXG1
  go_wp2_with fail
  clear cXT0 cXT1
  clear cXG0 cXG1
  refine (toStrs_any _ l0 w6 (H0.out.below B.out (Nat.le_refl _)) N0.out).mono ?_
  rintro e w7 ⟨v7, rfl, ho, hb⟩
  obtain ⟨a7, c7, rfl, -⟩ := id ho.2
  have g7 : w6.heap.size ≤ w7.heap.size := hb.size
  replace B := Lib.hid (B.out.trans (hb.mono B.out.size))
  replace T := Lib.hid (T.out.below hb (Nat.le_refl _))
  replace X0 := Lib.hid (X0.out.below hb (Nat.le_refl _))
  replace G := Lib.hid (G.out.below hb (Nat.le_refl _))
  replace XT := Lib.hid (XT.out.next hb)
  replace XG := Lib.hid (XG.out.next hb)
  have Y := Lib.hid (Ob.new ho)
  clear ho hb
  have cXT0 := XT.out.cell 0
  have cXT1 := XT.out.cell 1
  simp at cXT0 cXT1
  have cXG0 := XG.out.cell 0
  have cXG1 := XG.out.cell 1
  simp at cXG0 cXG1
  go_wp2_with fail
  clear cXT0 cXT1
  clear cXG0 cXG1
  refine (eqStrs_any _ _ l0 w7 X0.out.rd Y.out.rd (by have := N0.out; unfold maxLen; omega)).mono ?_
  rintro e w8 ⟨rfl, hst⟩
  have hb := hst.below w7.heap.size
  clear hst
  have g8 : w7.heap.size ≤ w8.heap.size := hb.size
  replace B := Lib.hid (B.out.trans (hb.mono B.out.size))
  replace T := Lib.hid (T.out.below hb (Nat.le_refl _))
  replace X0 := Lib.hid (X0.out.below hb (Nat.le_refl _))
  replace G := Lib.hid (G.out.below hb (Nat.le_refl _))
  replace Y := Lib.hid (Y.out.below hb (Nat.le_refl _))
  replace XT := Lib.hid (XT.out.next hb)
  replace XG := Lib.hid (XG.out.next hb)
  clear hb
  clear Y
  have cXT0 := XT.out.cell 0
  have cXT1 := XT.out.cell 1
  simp at cXT0 cXT1
  have cXG0 := XG.out.cell 0
  have cXG1 := XG.out.cell 1
  simp at cXG0 cXG1
  go_wp2_with fail
  clear cXT0 cXT1
  clear cXG0 cXG1
  have nn0 := N0.out
  refine (markStrs_any W3.heap.size _ l0.length (1) _ w8 X0.out.own N0.out (by omega) (by have := N0.out; omega)).mono ?_
  clear nn0
  rintro e w9 ⟨rfl, -, hg⟩
  have hu := X0.out.range
  have g9 : w8.heap.size ≤ w9.heap.size := hg.size
  replace B := Lib.hid (B.out.trans ((grown_below hg hu (by omega)).mono (by omega)))
  replace T := Lib.hid (T.out.grown hg hu (by omega))
  replace G := Lib.hid (G.out.grown hg hu (by omega))
  replace XT := Lib.hid (XT.out.mark hg hu (by omega))
  replace XG := Lib.hid (XG.out.mark hg hu (by omega))
  clear hg hu
  clear X0
  have cXT0 := XT.out.cell 0
  have cXT1 := XT.out.cell 1
  simp at cXT0 cXT1
  have cXG0 := XG.out.cell 0
  have cXG1 := XG.out.cell 1
  simp at cXG0 cXG1
  go_wp2_with fail
  clear cXT0 cXT1
  clear cXG0 cXG1
  refine (eqScanOut_any _ _ R w9 G.out.rd T.out.rd (by omega)).mono ?_
  rintro e w10 ⟨rfl, hb⟩
  have g10 : w9.heap.size ≤ w10.heap.size := hb.size
  replace B := Lib.hid (B.out.trans (hb.mono B.out.size))
  replace T := Lib.hid (T.out.below hb (Nat.le_refl _))
  replace G := Lib.hid (G.out.below hb (Nat.le_refl _))
  replace XT := Lib.hid (XT.out.next hb)
  replace XG := Lib.hid (XG.out.next hb)
  clear hb
  have cXT0 := XT.out.cell 0
  have cXT1 := XT.out.cell 1
  simp at cXT0 cXT1
  have cXG0 := XG.out.cell 0
  have cXG1 := XG.out.cell 1
  simp at cXG0 cXG1
  go_wp2_with fail
  clear cXT0 cXT1
  clear cXG0 cXG1
  refine (markScanOut_any w4.heap.size _ R 1 _ w10 G.out.own (by omega) (by omega) (by omega)).mono ?_
  rintro e w11 ⟨rfl, hm, hg⟩
  have G' := Lib.hid (G.out.marked hm)
  clear hm
  have hu := G.out.range
  have g11 : w10.heap.size ≤ w11.heap.size := hg.size
  replace B := Lib.hid (B.out.trans ((grown_below hg hu (by omega)).mono (by omega)))
  replace T := Lib.hid (T.out.grown hg hu (by omega))
  replace XT := Lib.hid (XT.out.mark hg hu (by omega))
  replace XG := Lib.hid (XG.out.mark hg hu (by omega))
  clear hg hu
  clear G
  have G := G'
  clear G'
  obtain ⟨z, hz⟩ : ∃ z : Int, z = ((1 + R.1.length * 4 : Nat) : Int) := ⟨_, rfl⟩
  rw [← hz]
  have dz : decide (z < 0) = false := decide_eq_false (by omega)
  have HZ := Lib.hid hz
  clear hz
  have cXT0 := XT.out.cell 0
  have cXT1 := XT.out.cell 1
  simp at cXT0 cXT1
  have cXG0 := XG.out.cell 0
  have cXG1 := XG.out.cell 1
  simp at cXG0 cXG1
  go_wp2_with fail
  clear cXT0 cXT1
  clear cXG0 cXG1
  refine (heldScanOut_any _ R 1 w11 G.out.rd (by omega) (by omega) (by omega)).mono ?_
  rintro e w12 ⟨rfl, hb⟩
  rw [← HZ.out]
  have g12 : w11.heap.size ≤ w12.heap.size := hb.size
  replace B := Lib.hid (B.out.trans (hb.mono B.out.size))
  replace T := Lib.hid (T.out.below hb (Nat.le_refl _))
  replace G := Lib.hid (G.out.below hb (Nat.le_refl _))
  replace XT := Lib.hid (XT.out.next hb)
  replace XG := Lib.hid (XG.out.next hb)
  clear hb
  have cXT0 := XT.out.cell 0
  have cXT1 := XT.out.cell 1
  simp at cXT0 cXT1
  have cXG0 := XG.out.cell 0
  have cXG1 := XG.out.cell 1
  simp at cXG0 cXG1
  go_wp2_with fail
  clear cXT0 cXT1
  clear cXG0 cXG1
  refine (toStrs_any _ l0 w12 (H0.out.below B.out (Nat.le_refl _)) N0.out).mono ?_
  rintro e w13 ⟨v13, rfl, ho, hb⟩
  obtain ⟨a13, c13, rfl, -⟩ := id ho.2
  have g13 : w12.heap.size ≤ w13.heap.size := hb.size
  replace B := Lib.hid (B.out.trans (hb.mono B.out.size))
  replace T := Lib.hid (T.out.below hb (Nat.le_refl _))
  replace G := Lib.hid (G.out.below hb (Nat.le_refl _))
  replace XT := Lib.hid (XT.out.next hb)
  replace XG := Lib.hid (XG.out.next hb)
  have X0 := Lib.hid (Ob.new ho)
  clear ho hb
  have cXT0 := XT.out.cell 0
  have cXT1 := XT.out.cell 1
  simp at cXT0 cXT1
  have cXG0 := XG.out.cell 0
  have cXG1 := XG.out.cell 1
  simp at cXG0 cXG1
  go_wp2_with fail
  clear cXT0 cXT1
  clear cXG0 cXG1
  have hc := implScan _ l0 aE w13 X0.out.rd N0.out F0.out (HL.out.below B.out) (HE.out.next B.out)
  rw [← HV.out] at hc
  refine hc.mono ?_
  clear hc
  rintro e w14 ⟨v14, rfl, ho, hb⟩
  obtain ⟨a14, c14, rfl, -⟩ := id ho.2
  have g14 : w13.heap.size ≤ w14.heap.size := hb.size
  replace B := Lib.hid (B.out.trans (hb.mono B.out.size))
  replace T := Lib.hid (T.out.below hb (Nat.le_refl _))
  replace G := Lib.hid (G.out.below hb (Nat.le_refl _))
  replace X0 := Lib.hid (X0.out.below hb (Nat.le_refl _))
  replace XT := Lib.hid (XT.out.next hb)
  replace XG := Lib.hid (XG.out.next hb)
  have K := Lib.hid (Ob.new ho)
  clear ho hb
  have b14 := below_alloc1 w14 (.cells #[.slice a14 R.1.length c14, .int .i64 R.2] 66)
  have z14 := size_alloc1 w14 (.cells #[.slice a14 R.1.length c14, .int .i64 R.2] 66)
  have XK := Lib.hid (bx_new w14 66 #[.slice a14 R.1.length c14, .int .i64 R.2])
  have cXT0 := (XT.out.next b14).cell 0
  have cXT1 := (XT.out.next b14).cell 1
  simp at cXT0 cXT1
  have cXG0 := (XG.out.next b14).cell 0
  have cXG1 := (XG.out.next b14).cell 1
  simp at cXG0 cXG1
  have cXK0 := XK.out.cell 0
  have cXK1 := XK.out.cell 1
  simp at cXK0 cXK1
  go_wp2_with fail
  clear cXT0 cXT1
  clear cXG0 cXG1
  clear cXK0 cXK1
  generalize w14.alloc (.cells #[.slice a14 R.1.length c14, .int .i64 R.2] 66) = W14 at *
  have g140 : w14.heap.size ≤ W14.heap.size := by omega
  replace B := Lib.hid (B.out.trans (b14.mono B.out.size))
  replace T := Lib.hid (T.out.below b14 (Nat.le_refl _))
  replace G := Lib.hid (G.out.below b14 (Nat.le_refl _))
  replace X0 := Lib.hid (X0.out.below b14 (Nat.le_refl _))
  replace K := Lib.hid (K.out.below b14 (Nat.le_refl _))
  replace XT := Lib.hid (XT.out.next b14)
  replace XG := Lib.hid (XG.out.next b14)
  clear b14
  refine (eqScanOut_any _ _ R W14 K.out.rd T.out.rd (by omega)).mono ?_
  rintro e w15 ⟨rfl, hb⟩
  have g15 : W14.heap.size ≤ w15.heap.size := hb.size
  replace B := Lib.hid (B.out.trans (hb.mono B.out.size))
  replace T := Lib.hid (T.out.below hb (Nat.le_refl _))
  replace G := Lib.hid (G.out.below hb (Nat.le_refl _))
  replace X0 := Lib.hid (X0.out.below hb (Nat.le_refl _))
  replace K := Lib.hid (K.out.below hb (Nat.le_refl _))
  replace XT := Lib.hid (XT.out.next hb)
  replace XG := Lib.hid (XG.out.next hb)
  replace XK := Lib.hid (XK.out.next hb)
  clear hb
  have cXT0 := XT.out.cell 0
  have cXT1 := XT.out.cell 1
  simp at cXT0 cXT1
  have cXG0 := XG.out.cell 0
  have cXG1 := XG.out.cell 1
  simp at cXG0 cXG1
  have cXK0 := XK.out.cell 0
  have cXK1 := XK.out.cell 1
  simp at cXK0 cXK1
  go_wp2_with fail
  clear cXT0 cXT1
  clear cXG0 cXG1
  clear cXK0 cXK1
  refine (heldScanOut_any _ R 1 w15 G.out.rd (by omega) (by omega) (by omega)).mono ?_
  rintro e w16 ⟨rfl, hb⟩
  rw [← HZ.out]
  have g16 : w15.heap.size ≤ w16.heap.size := hb.size
  replace B := Lib.hid (B.out.trans (hb.mono B.out.size))
  replace T := Lib.hid (T.out.below hb (Nat.le_refl _))
  replace G := Lib.hid (G.out.below hb (Nat.le_refl _))
  replace X0 := Lib.hid (X0.out.below hb (Nat.le_refl _))
  replace K := Lib.hid (K.out.below hb (Nat.le_refl _))
  replace XT := Lib.hid (XT.out.next hb)
  replace XG := Lib.hid (XG.out.next hb)
  replace XK := Lib.hid (XK.out.next hb)
  clear hb
  have cXT0 := XT.out.cell 0
  have cXT1 := XT.out.cell 1
  simp at cXT0 cXT1
  have cXG0 := XG.out.cell 0
  have cXG1 := XG.out.cell 1
  simp at cXG0 cXG1
  have cXK0 := XK.out.cell 0
  have cXK1 := XK.out.cell 1
  simp at cXK0 cXK1
  go_wp2_with fail
  clear cXT0 cXT1
  clear cXG0 cXG1
  clear cXK0 cXK1
  go_ret
  exact ⟨rfl, B.out⟩
end Go.Proofs.YthkbllkhomjmbaaDoor
