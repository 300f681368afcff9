/- The exact law of PackageRead. -/
import Derived.Test.YtcpblmpapkhppaaGreatDoorLPkO
import Derived.Test.YtcpblmpapkhppaaGreatDoorKSRead
import Derived.Test.YtcpblmpapkhppaaGreatDoorAOb
namespace Go.Proofs.YtcpblmpapkhppaaGreatDoor
open Go.RowKit

set_option maxRecDepth 100000 in
set_option maxHeartbeats 4000000 in
theorem pkReadLaw (s : ByteArray) (aE : Nat → Addr) (w : World) (hs : s.size ≤ maxLen) (hL : Laid w) (hE : Sent w pkG aE) :
    Calls Tryz.prog 3 #[.string s] w fun e w' => e = .returned (.bool true) ∧ Below w.heap.size w w' := by
  have HS := Lib.hid hs
  have HL := Lib.hid hL
  have HE := Lib.hid hE
  clear hL hE
  unfold maxLen at hs
  by_cases big : 1048576 < s.size
  · have d0 : (1048576 : Int) < (s.size : Int) := by omega
    go_enter Tryz.func3, Tryz.ntmps3
    go_wp2_with fail
    go_ret
    exact ⟨rfl, Below.refl _ _⟩
  have d0 : decide ((1048576 : Int) < (s.size : Int)) = false := decide_eq_false (by omega)
  obtain ⟨R, hR⟩ : ∃ R, R = pkR s := ⟨_, rfl⟩
  have hRl : R.1.2.2.length ≤ 20 := by rw [hR]; exact pkR_len s
  have HV := Lib.hid hR
  clear hR
  go_enter Tryz.func3, Tryz.ntmps3
  go_wp2_with fail
  have hc := calls_own (specPkRead s w HS.out)
  rw [← HV.out] at hc
  unfold OwnPk pkOutV at hc
  refine hc.mono ?_
  clear hc
  rintro e w1 ⟨v1, rfl, ho, hb⟩
  obtain ⟨a1, c1, rfl, -⟩ := id ho.2
  have g1 : w.heap.size ≤ w1.heap.size := hb.size
  have B := Lib.hid hb
  have T := Lib.hid (Ob.new ho)
  clear ho hb
  have b1 := below_alloc1 w1 (.cells #[.int .i64 R.1.1, .string R.1.2.1, .slice a1 R.1.2.2.length c1, .int .i64 R.2] 26)
  have z1 := size_alloc1 w1 (.cells #[.int .i64 R.1.1, .string R.1.2.1, .slice a1 R.1.2.2.length c1, .int .i64 R.2] 26)
  have XT := Lib.hid (bx_new w1 26 #[.int .i64 R.1.1, .string R.1.2.1, .slice a1 R.1.2.2.length c1, .int .i64 R.2])
  go_wp2_with fail
  generalize w1.alloc (.cells #[.int .i64 R.1.1, .string R.1.2.1, .slice a1 R.1.2.2.length c1, .int .i64 R.2] 26) = W1 at *
  have g10 : w1.heap.size ≤ W1.heap.size := by omega
  replace B := Lib.hid (B.out.trans (b1.mono B.out.size))
  replace T := Lib.hid (T.out.below b1 (Nat.le_refl _))
  clear b1
  have hc := calls_own (implPkRead s aE W1 HS.out (HL.out.below B.out) (HE.out.next B.out))
  rw [← HV.out] at hc
  unfold OwnPk pkOutV at hc
  refine hc.mono ?_
  clear hc
  rintro e w2 ⟨v2, rfl, ho, hb⟩
  obtain ⟨a2, c2, rfl, -⟩ := id ho.2
  have g2 : W1.heap.size ≤ w2.heap.size := hb.size
  replace B := Lib.hid (B.out.trans (hb.mono B.out.size))
  replace T := Lib.hid (T.out.below hb (Nat.le_refl _))
  replace XT := Lib.hid (XT.out.next hb)
  have G := Lib.hid (Ob.new ho)
  clear ho hb
  have b2 := below_alloc1 w2 (.cells #[.int .i64 R.1.1, .string R.1.2.1, .slice a2 R.1.2.2.length c2, .int .i64 R.2] 26)
  have z2 := size_alloc1 w2 (.cells #[.int .i64 R.1.1, .string R.1.2.1, .slice a2 R.1.2.2.length c2, .int .i64 R.2] 26)
  have XG := Lib.hid (bx_new w2 26 #[.int .i64 R.1.1, .string R.1.2.1, .slice a2 R.1.2.2.length c2, .int .i64 R.2])
  have cXT0 := (XT.out.next b2).cell 0
  have cXT1 := (XT.out.next b2).cell 1
  have cXT2 := (XT.out.next b2).cell 2
  have cXT3 := (XT.out.next b2).cell 3
  simp at cXT0 cXT1 cXT2 cXT3
  have cXG0 := XG.out.cell 0
  have cXG1 := XG.out.cell 1
  have cXG2 := XG.out.cell 2
  have cXG3 := XG.out.cell 3
  simp at cXG0 cXG1 cXG2 cXG3
  go_wp2_with fail
  clear cXT0 cXT1 cXT2 cXT3
  clear cXG0 cXG1 cXG2 cXG3
  generalize w2.alloc (.cells #[.int .i64 R.1.1, .string R.1.2.1, .slice a2 R.1.2.2.length c2, .int .i64 R.2] 26) = W2 at *
  have g20 : w2.heap.size ≤ W2.heap.size := by omega
  replace B := Lib.hid (B.out.trans (b2.mono B.out.size))
  replace T := Lib.hid (T.out.below b2 (Nat.le_refl _))
  replace G := Lib.hid (G.out.below b2 (Nat.le_refl _))
  replace XT := Lib.hid (XT.out.next b2)
  clear b2
  refine (eqPkO_any R _ _ W2 G.out.rd T.out.rd (by omega)).mono ?_
  rintro e w3 ⟨rfl, hb⟩
  have g3 : W2.heap.size ≤ w3.heap.size := hb.size
  replace B := Lib.hid (B.out.trans (hb.mono B.out.size))
  replace T := Lib.hid (T.out.below hb (Nat.le_refl _))
  replace G := Lib.hid (G.out.below hb (Nat.le_refl _))
  replace XT := Lib.hid (XT.out.next hb)
  replace XG := Lib.hid (XG.out.next hb)
  clear hb
  have cXT0 := XT.out.cell 0
  have cXT1 := XT.out.cell 1
  have cXT2 := XT.out.cell 2
  have cXT3 := XT.out.cell 3
  simp at cXT0 cXT1 cXT2 cXT3
  have cXG0 := XG.out.cell 0
  have cXG1 := XG.out.cell 1
  have cXG2 := XG.out.cell 2
  have cXG3 := XG.out.cell 3
  simp at cXG0 cXG1 cXG2 cXG3
  go_wp2_with fail
  clear cXT0 cXT1 cXT2 cXT3
  clear cXG0 cXG1 cXG2 cXG3
  refine (markPkO_any W1.heap.size R _ 1 _ w3 G.out.own (by omega) (by omega) (by omega)).mono ?_
  rintro e w4 ⟨rfl, hm, hg⟩
  have G' := Lib.hid (G.out.marked hm)
  clear hm
  have hu := G.out.range
  have g4 : w3.heap.size ≤ w4.heap.size := hg.size
  replace B := Lib.hid (B.out.trans ((grown_below hg hu (by omega)).mono (by omega)))
  replace T := Lib.hid (T.out.grown hg hu (by omega))
  replace XT := Lib.hid (XT.out.mark hg hu (by omega))
  replace XG := Lib.hid (XG.out.mark hg hu (by omega))
  clear hg hu
  clear G
  have G := G'
  clear G'
  obtain ⟨z, hz⟩ : ∃ z : Int, z = ((1 + R.1.2.2.length * 4 : Nat) : Int) := ⟨_, rfl⟩
  rw [← hz]
  have dz : decide (z < 0) = false := decide_eq_false (by omega)
  have HZ := Lib.hid hz
  clear hz
  have cXT0 := XT.out.cell 0
  have cXT1 := XT.out.cell 1
  have cXT2 := XT.out.cell 2
  have cXT3 := XT.out.cell 3
  simp at cXT0 cXT1 cXT2 cXT3
  have cXG0 := XG.out.cell 0
  have cXG1 := XG.out.cell 1
  have cXG2 := XG.out.cell 2
  have cXG3 := XG.out.cell 3
  simp at cXG0 cXG1 cXG2 cXG3
  go_wp2_with fail
  clear cXT0 cXT1 cXT2 cXT3
  clear cXG0 cXG1 cXG2 cXG3
  refine (heldPkO_any R _ 1 w4 G.out.rd (by omega) (by omega) (by omega)).mono ?_
  rintro e w5 ⟨rfl, hb⟩
  rw [← HZ.out]
  have g5 : w4.heap.size ≤ w5.heap.size := hb.size
  replace B := Lib.hid (B.out.trans (hb.mono B.out.size))
  replace T := Lib.hid (T.out.below hb (Nat.le_refl _))
  replace G := Lib.hid (G.out.below hb (Nat.le_refl _))
  replace XT := Lib.hid (XT.out.next hb)
  replace XG := Lib.hid (XG.out.next hb)
  clear hb
  have cXT0 := XT.out.cell 0
  have cXT1 := XT.out.cell 1
  have cXT2 := XT.out.cell 2
  have cXT3 := XT.out.cell 3
  simp at cXT0 cXT1 cXT2 cXT3
  have cXG0 := XG.out.cell 0
  have cXG1 := XG.out.cell 1
  have cXG2 := XG.out.cell 2
  have cXG3 := XG.out.cell 3
  simp at cXG0 cXG1 cXG2 cXG3
  go_wp2_with fail
  clear cXT0 cXT1 cXT2 cXT3
  clear cXG0 cXG1 cXG2 cXG3
  have hc := calls_own (implPkRead s aE w5 HS.out (HL.out.below B.out) (HE.out.next B.out))
  rw [← HV.out] at hc
  unfold OwnPk pkOutV at hc
  refine hc.mono ?_
  clear hc
  rintro e w6 ⟨v6, rfl, ho, hb⟩
  obtain ⟨a6, c6, rfl, -⟩ := id ho.2
  have g6 : w5.heap.size ≤ w6.heap.size := hb.size
  replace B := Lib.hid (B.out.trans (hb.mono B.out.size))
  replace T := Lib.hid (T.out.below hb (Nat.le_refl _))
  replace G := Lib.hid (G.out.below hb (Nat.le_refl _))
  replace XT := Lib.hid (XT.out.next hb)
  replace XG := Lib.hid (XG.out.next hb)
  have K := Lib.hid (Ob.new ho)
  clear ho hb
  have b6 := below_alloc1 w6 (.cells #[.int .i64 R.1.1, .string R.1.2.1, .slice a6 R.1.2.2.length c6, .int .i64 R.2] 26)
  have z6 := size_alloc1 w6 (.cells #[.int .i64 R.1.1, .string R.1.2.1, .slice a6 R.1.2.2.length c6, .int .i64 R.2] 26)
  have XK := Lib.hid (bx_new w6 26 #[.int .i64 R.1.1, .string R.1.2.1, .slice a6 R.1.2.2.length c6, .int .i64 R.2])
  have cXT0 := (XT.out.next b6).cell 0
  have cXT1 := (XT.out.next b6).cell 1
  have cXT2 := (XT.out.next b6).cell 2
  have cXT3 := (XT.out.next b6).cell 3
  simp at cXT0 cXT1 cXT2 cXT3
  have cXG0 := (XG.out.next b6).cell 0
  have cXG1 := (XG.out.next b6).cell 1
  have cXG2 := (XG.out.next b6).cell 2
  have cXG3 := (XG.out.next b6).cell 3
  simp at cXG0 cXG1 cXG2 cXG3
  have cXK0 := XK.out.cell 0
  have cXK1 := XK.out.cell 1
  have cXK2 := XK.out.cell 2
  have cXK3 := XK.out.cell 3
  simp at cXK0 cXK1 cXK2 cXK3
  go_wp2_with fail
  clear cXT0 cXT1 cXT2 cXT3
  clear cXG0 cXG1 cXG2 cXG3
  clear cXK0 cXK1 cXK2 cXK3
  generalize w6.alloc (.cells #[.int .i64 R.1.1, .string R.1.2.1, .slice a6 R.1.2.2.length c6, .int .i64 R.2] 26) = W6 at *
  have g60 : w6.heap.size ≤ W6.heap.size := by omega
  replace B := Lib.hid (B.out.trans (b6.mono B.out.size))
  replace T := Lib.hid (T.out.below b6 (Nat.le_refl _))
  replace G := Lib.hid (G.out.below b6 (Nat.le_refl _))
  replace K := Lib.hid (K.out.below b6 (Nat.le_refl _))
  replace XT := Lib.hid (XT.out.next b6)
  replace XG := Lib.hid (XG.out.next b6)
  clear b6
  refine (eqPkO_any R _ _ W6 K.out.rd T.out.rd (by omega)).mono ?_
  rintro e w7 ⟨rfl, hb⟩
  have g7 : W6.heap.size ≤ w7.heap.size := hb.size
  replace B := Lib.hid (B.out.trans (hb.mono B.out.size))
  replace T := Lib.hid (T.out.below hb (Nat.le_refl _))
  replace G := Lib.hid (G.out.below hb (Nat.le_refl _))
  replace K := Lib.hid (K.out.below hb (Nat.le_refl _))
  replace XT := Lib.hid (XT.out.next hb)
  replace XG := Lib.hid (XG.out.next hb)
  replace XK := Lib.hid (XK.out.next hb)
  clear hb
  have cXT0 := XT.out.cell 0
  have cXT1 := XT.out.cell 1
  have cXT2 := XT.out.cell 2
  have cXT3 := XT.out.cell 3
  simp at cXT0 cXT1 cXT2 cXT3
  have cXG0 := XG.out.cell 0
  have cXG1 := XG.out.cell 1
  have cXG2 := XG.out.cell 2
  have cXG3 := XG.out.cell 3
  simp at cXG0 cXG1 cXG2 cXG3
  have cXK0 := XK.out.cell 0
  have cXK1 := XK.out.cell 1
  have cXK2 := XK.out.cell 2
  have cXK3 := XK.out.cell 3
  simp at cXK0 cXK1 cXK2 cXK3
  go_wp2_with fail
  clear cXT0 cXT1 cXT2 cXT3
  clear cXG0 cXG1 cXG2 cXG3
  clear cXK0 cXK1 cXK2 cXK3
  refine (heldPkO_any R _ 1 w7 G.out.rd (by omega) (by omega) (by omega)).mono ?_
  rintro e w8 ⟨rfl, hb⟩
  rw [← HZ.out]
  have g8 : w7.heap.size ≤ w8.heap.size := hb.size
  replace B := Lib.hid (B.out.trans (hb.mono B.out.size))
  replace T := Lib.hid (T.out.below hb (Nat.le_refl _))
  replace G := Lib.hid (G.out.below hb (Nat.le_refl _))
  replace K := Lib.hid (K.out.below hb (Nat.le_refl _))
  replace XT := Lib.hid (XT.out.next hb)
  replace XG := Lib.hid (XG.out.next hb)
  replace XK := Lib.hid (XK.out.next hb)
  clear hb
  have cXT0 := XT.out.cell 0
  have cXT1 := XT.out.cell 1
  have cXT2 := XT.out.cell 2
  have cXT3 := XT.out.cell 3
  simp at cXT0 cXT1 cXT2 cXT3
  have cXG0 := XG.out.cell 0
  have cXG1 := XG.out.cell 1
  have cXG2 := XG.out.cell 2
  have cXG3 := XG.out.cell 3
  simp at cXG0 cXG1 cXG2 cXG3
  have cXK0 := XK.out.cell 0
  have cXK1 := XK.out.cell 1
  have cXK2 := XK.out.cell 2
  have cXK3 := XK.out.cell 3
  simp at cXK0 cXK1 cXK2 cXK3
  go_wp2_with fail
  clear cXT0 cXT1 cXT2 cXT3
  clear cXG0 cXG1 cXG2 cXG3
  clear cXK0 cXK1 cXK2 cXK3
  go_ret
  exact ⟨rfl, B.out⟩
end Go.Proofs.YtcpblmpapkhppaaGreatDoor
