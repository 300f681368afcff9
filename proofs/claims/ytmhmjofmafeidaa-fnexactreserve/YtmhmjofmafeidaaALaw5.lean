/- The exact law of Reserve. -/
import Derived.Test.YtmhmjofmafeidaaAIres
import Derived.Test.YtmhmjofmafeidaaASres2
import Derived.Test.YtmhmjofmafeidaaAOb
namespace Go.Proofs.Ytmhmjofmafeidaa
open Go.RowKit

set_option maxRecDepth 100000 in
set_option maxHeartbeats 4000000 in
theorem reserveLaw (v00 : Value) (l0 : List Int) (v10 : Value) (l1 : List Int) (y2 : Int) (w : World) (h0 : Rd w v00 l0.length 1 (ints l0)) (q0 : l0.length ≤ maxLen) (h1 : Rd w v10 l1.length 1 (ints l1)) (q1 : l1.length ≤ maxLen) (i0 : -9223372036854775808 ≤ y2) (i1 : y2 ≤ 9223372036854775807) :
    Calls Try.prog 11 #[v00, v10, .int .i64 y2] w fun e w' => e = .returned (.bool true) ∧ Below w.heap.size w w' := by
  unfold maxLen at q0
  obtain ⟨a00, c00, rfl, -⟩ := id h0.2
  have H0 := Lib.hid h0
  clear h0
  unfold maxLen at q1
  obtain ⟨a10, c10, rfl, -⟩ := id h1.2
  have H1 := Lib.hid h1
  clear h1
  by_cases big0 : 1048576 < l0.length
  · have d0 : (1048576 : Int) < (l0.length : Int) := by omega
    go_enter Try.func11, Try.ntmps11
    go_wp2_with fail
    go_ret
    exact ⟨rfl, Below.refl _ _⟩
  have d0 : decide ((1048576 : Int) < (l0.length : Int)) = false := decide_eq_false (by omega)
  have n0 : l0.length ≤ 1048576 := by omega
  have N0 := Lib.hid n0
  clear n0
  by_cases big1 : 1048576 < l1.length
  · have d1 : (1048576 : Int) < (l1.length : Int) := by omega
    go_enter Try.func11, Try.ntmps11
    go_wp2_with fail
    go_ret
    exact ⟨rfl, Below.refl _ _⟩
  have d1 : decide ((1048576 : Int) < (l1.length : Int)) = false := decide_eq_false (by omega)
  have n1 : l1.length ≤ 1048576 := by omega
  have N1 := Lib.hid n1
  clear n1
  obtain ⟨R, hR⟩ : ∃ R, R = resO l0 l1 y2 := ⟨_, rfl⟩
  have hRl : R.1.length ≤ 24 := by rw [hR]; exact resO_len l0 l1 y2
  have HV := Lib.hid hR
  clear hR
  go_enter Try.func11, Try.ntmps11
  go_wp2_with fail
  refine (toInts_any _ l0 w H0.out N0.out).mono ?_
  rintro e w1 ⟨v1, rfl, ho, hb⟩
  obtain ⟨a1, c1, rfl, -⟩ := id ho.2
  have g1 : w.heap.size ≤ w1.heap.size := hb.size
  have B := Lib.hid hb
  have X0 := Lib.hid (Ob.new ho)
  clear ho hb
  go_wp2_with fail
  refine (toInts_any _ l1 w1 (H1.out.below B.out (Nat.le_refl _)) N1.out).mono ?_
  rintro e w2 ⟨v2, rfl, ho, hb⟩
  obtain ⟨a2, c2, rfl, -⟩ := id ho.2
  have g2 : w1.heap.size ≤ w2.heap.size := hb.size
  replace B := Lib.hid (B.out.trans (hb.mono B.out.size))
  replace X0 := Lib.hid (X0.out.below hb (Nat.le_refl _))
  have X1 := Lib.hid (Ob.new ho)
  clear ho hb
  go_wp2_with fail
  have hc := specReserve _ _ l0 l1 y2 w2 X0.out.rd X1.out.rd N0.out N1.out i0 i1
  rw [← HV.out] at hc
  refine hc.mono ?_
  clear hc
  rintro e w3 ⟨v3, rfl, ho, hb⟩
  obtain ⟨a3, c3, rfl, -⟩ := id ho.2
  have g3 : w2.heap.size ≤ w3.heap.size := hb.size
  replace B := Lib.hid (B.out.trans (hb.mono B.out.size))
  replace X0 := Lib.hid (X0.out.below hb (Nat.le_refl _))
  replace X1 := Lib.hid (X1.out.below hb (Nat.le_refl _))
  have T := Lib.hid (Ob.new ho)
  clear ho hb
  have b3 := below_alloc1 w3 (.cells #[.slice a3 R.1.length c3, .int .i64 R.2] 30)
  have z3 := size_alloc1 w3 (.cells #[.slice a3 R.1.length c3, .int .i64 R.2] 30)
  have XT := Lib.hid (bx_new w3 30 #[.slice a3 R.1.length c3, .int .i64 R.2])
  clear X0
  clear X1
  go_wp2_with fail
  generalize w3.alloc (.cells #[.slice a3 R.1.length c3, .int .i64 R.2] 30) = W3 at *
  have g30 : w3.heap.size ≤ W3.heap.size := by omega
  replace B := Lib.hid (B.out.trans (b3.mono B.out.size))
  replace T := Lib.hid (T.out.below b3 (Nat.le_refl _))
  clear b3
  refine (toInts_any _ l0 W3 (H0.out.below B.out (Nat.le_refl _)) N0.out).mono ?_
  rintro e w4 ⟨v4, rfl, ho, hb⟩
  obtain ⟨a4, c4, rfl, -⟩ := id ho.2
  have g4 : W3.heap.size ≤ w4.heap.size := hb.size
  replace B := Lib.hid (B.out.trans (hb.mono B.out.size))
  replace T := Lib.hid (T.out.below hb (Nat.le_refl _))
  replace XT := Lib.hid (XT.out.next hb)
  have X0 := Lib.hid (Ob.new ho)
  clear ho hb
  have cXT0 := XT.out.cell 0
  have cXT1 := XT.out.cell 1
  simp at cXT0 cXT1
  go_wp2_with fail
  clear cXT0 cXT1
  refine (toInts_any _ l1 w4 (H1.out.below B.out (Nat.le_refl _)) N1.out).mono ?_
  rintro e w5 ⟨v5, rfl, ho, hb⟩
  obtain ⟨a5, c5, rfl, -⟩ := id ho.2
  have g5 : w4.heap.size ≤ w5.heap.size := hb.size
  replace B := Lib.hid (B.out.trans (hb.mono B.out.size))
  replace T := Lib.hid (T.out.below hb (Nat.le_refl _))
  replace X0 := Lib.hid (X0.out.below hb (Nat.le_refl _))
  replace XT := Lib.hid (XT.out.next hb)
  have X1 := Lib.hid (Ob.new ho)
  clear ho hb
  have cXT0 := XT.out.cell 0
  have cXT1 := XT.out.cell 1
  simp at cXT0 cXT1
  go_wp2_with fail
  clear cXT0 cXT1
  have hc := implReserve _ _ l0 l1 y2 w5 X0.out.rd X1.out.rd N0.out N1.out i0 i1
  rw [← HV.out] at hc
  refine hc.mono ?_
  clear hc
  rintro e w6 ⟨v6, rfl, ho, hb⟩
  obtain ⟨a6, c6, rfl, -⟩ := id ho.2
  have g6 : w5.heap.size ≤ w6.heap.size := hb.size
  replace B := Lib.hid (B.out.trans (hb.mono B.out.size))
  replace T := Lib.hid (T.out.below hb (Nat.le_refl _))
  replace X0 := Lib.hid (X0.out.below hb (Nat.le_refl _))
  replace X1 := Lib.hid (X1.out.below hb (Nat.le_refl _))
  replace XT := Lib.hid (XT.out.next hb)
  have G := Lib.hid (Ob.new ho)
  clear ho hb
  have b6 := below_alloc1 w6 (.cells #[.slice a6 R.1.length c6, .int .i64 R.2] 30)
  have z6 := size_alloc1 w6 (.cells #[.slice a6 R.1.length c6, .int .i64 R.2] 30)
  have XG := Lib.hid (bx_new w6 30 #[.slice a6 R.1.length c6, .int .i64 R.2])
  have cXT0 := (XT.out.next b6).cell 0
  have cXT1 := (XT.out.next b6).cell 1
  simp at cXT0 cXT1
  have cXG0 := XG.out.cell 0
  have cXG1 := XG.out.cell 1
  simp at cXG0 cXG1
  go_wp2_with fail
  clear cXT0 cXT1
  clear cXG0 cXG1
  generalize w6.alloc (.cells #[.slice a6 R.1.length c6, .int .i64 R.2] 30) = W6 at *
  have g60 : w6.heap.size ≤ W6.heap.size := by omega
  replace B := Lib.hid (B.out.trans (b6.mono B.out.size))
  replace T := Lib.hid (T.out.below b6 (Nat.le_refl _))
  replace X0 := Lib.hid (X0.out.below b6 (Nat.le_refl _))
  replace X1 := Lib.hid (X1.out.below b6 (Nat.le_refl _))
  replace G := Lib.hid (G.out.below b6 (Nat.le_refl _))
  replace XT := Lib.hid (XT.out.next b6)
  clear b6
  refine (eqListOut_any _ _ R W6 G.out.rd T.out.rd (by omega)).mono ?_
  rintro e w7 ⟨rfl, hb⟩
  have g7 : W6.heap.size ≤ w7.heap.size := hb.size
  replace B := Lib.hid (B.out.trans (hb.mono B.out.size))
  replace T := Lib.hid (T.out.below hb (Nat.le_refl _))
  replace X0 := Lib.hid (X0.out.below hb (Nat.le_refl _))
  replace X1 := Lib.hid (X1.out.below hb (Nat.le_refl _))
  replace G := Lib.hid (G.out.below hb (Nat.le_refl _))
  replace XT := Lib.hid (XT.out.next hb)
  replace XG := Lib.hid (XG.out.next hb)
  clear hb
  have cXT0 := XT.out.cell 0
  have cXT1 := XT.out.cell 1
  simp at cXT0 cXT1
  have cXG0 := XG.out.cell 0
  have cXG1 := XG.out.cell 1
  simp at cXG0 cXG1
  go_wp2_with fail
  clear cXT0 cXT1
  clear cXG0 cXG1
  refine (toInts_any _ l0 w7 (H0.out.below B.out (Nat.le_refl _)) N0.out).mono ?_
  rintro e w8 ⟨v8, rfl, ho, hb⟩
  obtain ⟨a8, c8, rfl, -⟩ := id ho.2
  have g8 : w7.heap.size ≤ w8.heap.size := hb.size
  replace B := Lib.hid (B.out.trans (hb.mono B.out.size))
  replace T := Lib.hid (T.out.below hb (Nat.le_refl _))
  replace X0 := Lib.hid (X0.out.below hb (Nat.le_refl _))
  replace X1 := Lib.hid (X1.out.below hb (Nat.le_refl _))
  replace G := Lib.hid (G.out.below hb (Nat.le_refl _))
  replace XT := Lib.hid (XT.out.next hb)
  replace XG := Lib.hid (XG.out.next hb)
  have Y := Lib.hid (Ob.new ho)
  clear ho hb
  have cXT0 := XT.out.cell 0
  have cXT1 := XT.out.cell 1
  simp at cXT0 cXT1
  have cXG0 := XG.out.cell 0
  have cXG1 := XG.out.cell 1
  simp at cXG0 cXG1
  go_wp2_with fail
  clear cXT0 cXT1
  clear cXG0 cXG1
  refine (eqInts_any _ _ l0 w8 X0.out.rd Y.out.rd (by have := N0.out; unfold maxLen; omega)).mono ?_
  rintro e w9 ⟨rfl, hst⟩
  have hb := hst.below w8.heap.size
  clear hst
  have g9 : w8.heap.size ≤ w9.heap.size := hb.size
  replace B := Lib.hid (B.out.trans (hb.mono B.out.size))
  replace T := Lib.hid (T.out.below hb (Nat.le_refl _))
  replace X0 := Lib.hid (X0.out.below hb (Nat.le_refl _))
  replace X1 := Lib.hid (X1.out.below hb (Nat.le_refl _))
  replace G := Lib.hid (G.out.below hb (Nat.le_refl _))
  replace Y := Lib.hid (Y.out.below hb (Nat.le_refl _))
  replace XT := Lib.hid (XT.out.next hb)
  replace XG := Lib.hid (XG.out.next hb)
  clear hb
  clear Y
  have cXT0 := XT.out.cell 0
  have cXT1 := XT.out.cell 1
  simp at cXT0 cXT1
  have cXG0 := XG.out.cell 0
  have cXG1 := XG.out.cell 1
  simp at cXG0 cXG1
  go_wp2_with fail
  clear cXT0 cXT1
  clear cXG0 cXG1
  refine (toInts_any _ l1 w9 (H1.out.below B.out (Nat.le_refl _)) N1.out).mono ?_
  rintro e w10 ⟨v10, rfl, ho, hb⟩
  obtain ⟨a10, c10, rfl, -⟩ := id ho.2
  have g10 : w9.heap.size ≤ w10.heap.size := hb.size
  replace B := Lib.hid (B.out.trans (hb.mono B.out.size))
  replace T := Lib.hid (T.out.below hb (Nat.le_refl _))
  replace X0 := Lib.hid (X0.out.below hb (Nat.le_refl _))
  replace X1 := Lib.hid (X1.out.below hb (Nat.le_refl _))
  replace G := Lib.hid (G.out.below hb (Nat.le_refl _))
  replace XT := Lib.hid (XT.out.next hb)
  replace XG := Lib.hid (XG.out.next hb)
  have Y := Lib.hid (Ob.new ho)
  clear ho hb
  have cXT0 := XT.out.cell 0
  have cXT1 := XT.out.cell 1
  simp at cXT0 cXT1
  have cXG0 := XG.out.cell 0
  have cXG1 := XG.out.cell 1
  simp at cXG0 cXG1
  go_wp2_with fail
  clear cXT0 cXT1
  clear cXG0 cXG1
  refine (eqInts_any _ _ l1 w10 X1.out.rd Y.out.rd (by have := N1.out; unfold maxLen; omega)).mono ?_
  rintro e w11 ⟨rfl, hst⟩
  have hb := hst.below w10.heap.size
  clear hst
  have g11 : w10.heap.size ≤ w11.heap.size := hb.size
  replace B := Lib.hid (B.out.trans (hb.mono B.out.size))
  replace T := Lib.hid (T.out.below hb (Nat.le_refl _))
  replace X0 := Lib.hid (X0.out.below hb (Nat.le_refl _))
  replace X1 := Lib.hid (X1.out.below hb (Nat.le_refl _))
  replace G := Lib.hid (G.out.below hb (Nat.le_refl _))
  replace Y := Lib.hid (Y.out.below hb (Nat.le_refl _))
  replace XT := Lib.hid (XT.out.next hb)
  replace XG := Lib.hid (XG.out.next hb)
  clear hb
  clear Y
  have cXT0 := XT.out.cell 0
  have cXT1 := XT.out.cell 1
  simp at cXT0 cXT1
  have cXG0 := XG.out.cell 0
  have cXG1 := XG.out.cell 1
  simp at cXG0 cXG1
  go_wp2_with fail
  clear cXT0 cXT1
  clear cXG0 cXG1
  have nn0 := N0.out
  have nn1 := N1.out
  refine (markIs_any W3.heap.size _ l0.length (1) _ w11 X0.out.own N0.out (by omega) (by have := N0.out; omega)).mono ?_
  clear nn0
  clear nn1
  rintro e w12 ⟨rfl, -, hg⟩
  have hu := X0.out.range
  have g12 : w11.heap.size ≤ w12.heap.size := hg.size
  replace B := Lib.hid (B.out.trans ((grown_below hg hu (by omega)).mono (by omega)))
  replace T := Lib.hid (T.out.grown hg hu (by omega))
  replace X1 := Lib.hid (X1.out.grown hg hu (by omega))
  replace G := Lib.hid (G.out.grown hg hu (by omega))
  replace XT := Lib.hid (XT.out.mark hg hu (by omega))
  replace XG := Lib.hid (XG.out.mark hg hu (by omega))
  clear hg hu
  clear X0
  have cXT0 := XT.out.cell 0
  have cXT1 := XT.out.cell 1
  simp at cXT0 cXT1
  have cXG0 := XG.out.cell 0
  have cXG1 := XG.out.cell 1
  simp at cXG0 cXG1
  go_wp2_with fail
  clear cXT0 cXT1
  clear cXG0 cXG1
  have nn0 := N0.out
  have nn1 := N1.out
  refine (markIs_any w4.heap.size _ l1.length (1 + l0.length) _ w12 X1.out.own N1.out (by omega) (by have := N1.out; omega)).mono ?_
  clear nn0
  clear nn1
  rintro e w13 ⟨rfl, -, hg⟩
  have hu := X1.out.range
  have g13 : w12.heap.size ≤ w13.heap.size := hg.size
  replace B := Lib.hid (B.out.trans ((grown_below hg hu (by omega)).mono (by omega)))
  replace T := Lib.hid (T.out.grown hg hu (by omega))
  replace G := Lib.hid (G.out.grown hg hu (by omega))
  replace XT := Lib.hid (XT.out.mark hg hu (by omega))
  replace XG := Lib.hid (XG.out.mark hg hu (by omega))
  clear hg hu
  clear X1
  have cXT0 := XT.out.cell 0
  have cXT1 := XT.out.cell 1
  simp at cXT0 cXT1
  have cXG0 := XG.out.cell 0
  have cXG1 := XG.out.cell 1
  simp at cXG0 cXG1
  go_wp2_with fail
  clear cXT0 cXT1
  clear cXG0 cXG1
  refine (eqListOut_any _ _ R w13 G.out.rd T.out.rd (by omega)).mono ?_
  rintro e w14 ⟨rfl, hb⟩
  have g14 : w13.heap.size ≤ w14.heap.size := hb.size
  replace B := Lib.hid (B.out.trans (hb.mono B.out.size))
  replace T := Lib.hid (T.out.below hb (Nat.le_refl _))
  replace G := Lib.hid (G.out.below hb (Nat.le_refl _))
  replace XT := Lib.hid (XT.out.next hb)
  replace XG := Lib.hid (XG.out.next hb)
  clear hb
  have cXT0 := XT.out.cell 0
  have cXT1 := XT.out.cell 1
  simp at cXT0 cXT1
  have cXG0 := XG.out.cell 0
  have cXG1 := XG.out.cell 1
  simp at cXG0 cXG1
  go_wp2_with fail
  clear cXT0 cXT1
  clear cXG0 cXG1
  refine (markListOut_any w5.heap.size _ R 1 _ w14 G.out.own (by omega) (by omega) (by omega)).mono ?_
  rintro e w15 ⟨rfl, hm, hg⟩
  have G' := Lib.hid (G.out.marked hm)
  clear hm
  have hu := G.out.range
  have g15 : w14.heap.size ≤ w15.heap.size := hg.size
  replace B := Lib.hid (B.out.trans ((grown_below hg hu (by omega)).mono (by omega)))
  replace T := Lib.hid (T.out.grown hg hu (by omega))
  replace XT := Lib.hid (XT.out.mark hg hu (by omega))
  replace XG := Lib.hid (XG.out.mark hg hu (by omega))
  clear hg hu
  clear G
  have G := G'
  clear G'
  obtain ⟨z, hz⟩ : ∃ z : Int, z = ((1 + R.1.length : Nat) : Int) := ⟨_, rfl⟩
  rw [← hz]
  have dz : decide (z < 0) = false := decide_eq_false (by omega)
  have HZ := Lib.hid hz
  clear hz
  have cXT0 := XT.out.cell 0
  have cXT1 := XT.out.cell 1
  simp at cXT0 cXT1
  have cXG0 := XG.out.cell 0
  have cXG1 := XG.out.cell 1
  simp at cXG0 cXG1
  go_wp2_with fail
  clear cXT0 cXT1
  clear cXG0 cXG1
  refine (heldListOut_any _ R 1 w15 G.out.rd (by omega) (by omega) (by omega)).mono ?_
  rintro e w16 ⟨rfl, hb⟩
  rw [← HZ.out]
  have g16 : w15.heap.size ≤ w16.heap.size := hb.size
  replace B := Lib.hid (B.out.trans (hb.mono B.out.size))
  replace T := Lib.hid (T.out.below hb (Nat.le_refl _))
  replace G := Lib.hid (G.out.below hb (Nat.le_refl _))
  replace XT := Lib.hid (XT.out.next hb)
  replace XG := Lib.hid (XG.out.next hb)
  clear hb
  have cXT0 := XT.out.cell 0
  have cXT1 := XT.out.cell 1
  simp at cXT0 cXT1
  have cXG0 := XG.out.cell 0
  have cXG1 := XG.out.cell 1
  simp at cXG0 cXG1
  go_wp2_with fail
  clear cXT0 cXT1
  clear cXG0 cXG1
  refine (toInts_any _ l0 w16 (H0.out.below B.out (Nat.le_refl _)) N0.out).mono ?_
  rintro e w17 ⟨v17, rfl, ho, hb⟩
  obtain ⟨a17, c17, rfl, -⟩ := id ho.2
  have g17 : w16.heap.size ≤ w17.heap.size := hb.size
  replace B := Lib.hid (B.out.trans (hb.mono B.out.size))
  replace T := Lib.hid (T.out.below hb (Nat.le_refl _))
  replace G := Lib.hid (G.out.below hb (Nat.le_refl _))
  replace XT := Lib.hid (XT.out.next hb)
  replace XG := Lib.hid (XG.out.next hb)
  have X0 := Lib.hid (Ob.new ho)
  clear ho hb
  have cXT0 := XT.out.cell 0
  have cXT1 := XT.out.cell 1
  simp at cXT0 cXT1
  have cXG0 := XG.out.cell 0
  have cXG1 := XG.out.cell 1
  simp at cXG0 cXG1
  go_wp2_with fail
  clear cXT0 cXT1
  clear cXG0 cXG1
  refine (toInts_any _ l1 w17 (H1.out.below B.out (Nat.le_refl _)) N1.out).mono ?_
  rintro e w18 ⟨v18, rfl, ho, hb⟩
  obtain ⟨a18, c18, rfl, -⟩ := id ho.2
  have g18 : w17.heap.size ≤ w18.heap.size := hb.size
  replace B := Lib.hid (B.out.trans (hb.mono B.out.size))
  replace T := Lib.hid (T.out.below hb (Nat.le_refl _))
  replace G := Lib.hid (G.out.below hb (Nat.le_refl _))
  replace X0 := Lib.hid (X0.out.below hb (Nat.le_refl _))
  replace XT := Lib.hid (XT.out.next hb)
  replace XG := Lib.hid (XG.out.next hb)
  have X1 := Lib.hid (Ob.new ho)
  clear ho hb
  have cXT0 := XT.out.cell 0
  have cXT1 := XT.out.cell 1
  simp at cXT0 cXT1
  have cXG0 := XG.out.cell 0
  have cXG1 := XG.out.cell 1
  simp at cXG0 cXG1
  go_wp2_with fail
  clear cXT0 cXT1
  clear cXG0 cXG1
  have hc := implReserve _ _ l0 l1 y2 w18 X0.out.rd X1.out.rd N0.out N1.out i0 i1
  rw [← HV.out] at hc
  refine hc.mono ?_
  clear hc
  rintro e w19 ⟨v19, rfl, ho, hb⟩
  obtain ⟨a19, c19, rfl, -⟩ := id ho.2
  have g19 : w18.heap.size ≤ w19.heap.size := hb.size
  replace B := Lib.hid (B.out.trans (hb.mono B.out.size))
  replace T := Lib.hid (T.out.below hb (Nat.le_refl _))
  replace G := Lib.hid (G.out.below hb (Nat.le_refl _))
  replace X0 := Lib.hid (X0.out.below hb (Nat.le_refl _))
  replace X1 := Lib.hid (X1.out.below hb (Nat.le_refl _))
  replace XT := Lib.hid (XT.out.next hb)
  replace XG := Lib.hid (XG.out.next hb)
  have K := Lib.hid (Ob.new ho)
  clear ho hb
  have b19 := below_alloc1 w19 (.cells #[.slice a19 R.1.length c19, .int .i64 R.2] 30)
  have z19 := size_alloc1 w19 (.cells #[.slice a19 R.1.length c19, .int .i64 R.2] 30)
  have XK := Lib.hid (bx_new w19 30 #[.slice a19 R.1.length c19, .int .i64 R.2])
  have cXT0 := (XT.out.next b19).cell 0
  have cXT1 := (XT.out.next b19).cell 1
  simp at cXT0 cXT1
  have cXG0 := (XG.out.next b19).cell 0
  have cXG1 := (XG.out.next b19).cell 1
  simp at cXG0 cXG1
  have cXK0 := XK.out.cell 0
  have cXK1 := XK.out.cell 1
  simp at cXK0 cXK1
  go_wp2_with fail
  clear cXT0 cXT1
  clear cXG0 cXG1
  clear cXK0 cXK1
  generalize w19.alloc (.cells #[.slice a19 R.1.length c19, .int .i64 R.2] 30) = W19 at *
  have g190 : w19.heap.size ≤ W19.heap.size := by omega
  replace B := Lib.hid (B.out.trans (b19.mono B.out.size))
  replace T := Lib.hid (T.out.below b19 (Nat.le_refl _))
  replace G := Lib.hid (G.out.below b19 (Nat.le_refl _))
  replace X0 := Lib.hid (X0.out.below b19 (Nat.le_refl _))
  replace X1 := Lib.hid (X1.out.below b19 (Nat.le_refl _))
  replace K := Lib.hid (K.out.below b19 (Nat.le_refl _))
  replace XT := Lib.hid (XT.out.next b19)
  replace XG := Lib.hid (XG.out.next b19)
  clear b19
  refine (eqListOut_any _ _ R W19 K.out.rd T.out.rd (by omega)).mono ?_
  rintro e w20 ⟨rfl, hb⟩
  have g20 : W19.heap.size ≤ w20.heap.size := hb.size
  replace B := Lib.hid (B.out.trans (hb.mono B.out.size))
  replace T := Lib.hid (T.out.below hb (Nat.le_refl _))
  replace G := Lib.hid (G.out.below hb (Nat.le_refl _))
  replace X0 := Lib.hid (X0.out.below hb (Nat.le_refl _))
  replace X1 := Lib.hid (X1.out.below hb (Nat.le_refl _))
  replace K := Lib.hid (K.out.below hb (Nat.le_refl _))
  replace XT := Lib.hid (XT.out.next hb)
  replace XG := Lib.hid (XG.out.next hb)
  replace XK := Lib.hid (XK.out.next hb)
  clear hb
  have cXT0 := XT.out.cell 0
  have cXT1 := XT.out.cell 1
  simp at cXT0 cXT1
  have cXG0 := XG.out.cell 0
  have cXG1 := XG.out.cell 1
  simp at cXG0 cXG1
  have cXK0 := XK.out.cell 0
  have cXK1 := XK.out.cell 1
  simp at cXK0 cXK1
  go_wp2_with fail
  clear cXT0 cXT1
  clear cXG0 cXG1
  clear cXK0 cXK1
  refine (heldListOut_any _ R 1 w20 G.out.rd (by omega) (by omega) (by omega)).mono ?_
  rintro e w21 ⟨rfl, hb⟩
  rw [← HZ.out]
  have g21 : w20.heap.size ≤ w21.heap.size := hb.size
  replace B := Lib.hid (B.out.trans (hb.mono B.out.size))
  replace T := Lib.hid (T.out.below hb (Nat.le_refl _))
  replace G := Lib.hid (G.out.below hb (Nat.le_refl _))
  replace X0 := Lib.hid (X0.out.below hb (Nat.le_refl _))
  replace X1 := Lib.hid (X1.out.below hb (Nat.le_refl _))
  replace K := Lib.hid (K.out.below hb (Nat.le_refl _))
  replace XT := Lib.hid (XT.out.next hb)
  replace XG := Lib.hid (XG.out.next hb)
  replace XK := Lib.hid (XK.out.next hb)
  clear hb
  have cXT0 := XT.out.cell 0
  have cXT1 := XT.out.cell 1
  simp at cXT0 cXT1
  have cXG0 := XG.out.cell 0
  have cXG1 := XG.out.cell 1
  simp at cXG0 cXG1
  have cXK0 := XK.out.cell 0
  have cXK1 := XK.out.cell 1
  simp at cXK0 cXK1
  go_wp2_with fail
  clear cXT0 cXT1
  clear cXG0 cXG1
  clear cXK0 cXK1
  go_ret
  exact ⟨rfl, B.out⟩
end Go.Proofs.Ytmhmjofmafeidaa
