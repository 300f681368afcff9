/- The exact law of PackageFits. -/
import Derived.Test.YtcckpkcjekcajaaDoorLPk
import Derived.Test.YtcckpkcjekcajaaDoorKFits
import Derived.Test.YtcckpkcjekcajaaDoorBLaw2
import Derived.Test.YtcckpkcjekcajaaDoorCZ
namespace Go.Proofs.YtcckpkcjekcajaaDoor
open Go.RowKit

set_option maxRecDepth 100000 in
set_option maxHeartbeats 4000000 in
theorem pkFitsLaw (p : pkT) (v0 : Value) (v1 : Value) (l1 : List ByteArray) (w : World) (h0 : Rd w v0 p.2.2.length 4 (stpCs p.2.2)) (q0 : p.2.2.length ≤ maxLen) (d0 : p.2.1.size ≤ maxLen) (f0 : ∀ x ∈ p.2.2, x.2.2.2.size ≤ maxLen) (h1 : Rd w v1 l1.length 1 (strs l1)) (q1 : l1.length ≤ maxLen) (f1 : FitZ l1) (hl : LaidT w) :
    Calls Tryd.prog 4 #[pkV p.1 p.2.1 v0, v1] w fun e w' => e = .returned (.bool true) ∧ Below w.heap.size w w' := by
  obtain ⟨a0, c0, rfl, -⟩ := id h0.2
  have H0 := Lib.hid h0
  clear h0
  obtain ⟨a1, c1, rfl, -⟩ := id h1.2
  have H1 := Lib.hid h1
  clear h1
  have HL := Lib.hid hl
  clear hl
  obtain ⟨R, hR⟩ : ∃ R, R = fitS p l1 := ⟨_, rfl⟩
  have HV := Lib.hid hR
  clear hR
  have B := Lib.hid (below_alloc1 w (.cells #[.int .i64 p.1, .string p.2.1, .slice a0 p.2.2.length c0] 45))
  have XP := Lib.hid (bx_new w 45 #[.int .i64 p.1, .string p.2.1, .slice a0 p.2.2.length c0])
  have SZ := Lib.hid (fun left w h g0 g1 => szPk_any p (.slice a0 p.2.2.length c0) left w h q0 d0 f0 g0 g1)
  have TO := Lib.hid (fun hn w h => toPk_any p (.slice a0 p.2.2.length c0) w h hn)
  have EQ := Lib.hid (fun v u w h k hn => eqPk_any p v u w h k hn)
  unfold pkV at SZ TO EQ
  unfold OwnP pkV at TO
  unfold pkV
  clear f0
  have x0 := XP.out.t0
  have x1 := XP.out.t1
  have x2 := XP.out.t2
  go_enter Tryd.func4, Tryd.ntmps4
  go_wp2_with fail
  generalize w.alloc (.cells #[.int .i64 p.1, .string p.2.1, .slice a0 p.2.2.length c0] 45) = W at *
  clear x0 x1 x2
  refine (SZ.out 1048576 W (H0.out.below B.out (Nat.le_refl _)) (by decide) (by decide)).mono ?_
  rintro e w1 ⟨r0, rfl, hb, hq⟩
  replace B := Lib.hid (B.out.trans (hb.mono B.out.size))
  replace XP := Lib.hid (XP.out.next hb)
  clear hb
  rcases hq with rfl | ⟨p00, p01, p02, p03⟩
  · go_wp2_with fail
    go_ret
    exact ⟨rfl, B.out⟩
  have e0 : decide (r0 < 0) = false := decide_eq_false (by omega)
  have n0 : p.2.2.length ≤ 1048576 := by omega
  have N0 := Lib.hid n0
  clear n0
  have cXP0 := XP.out.t0
  have cXP1 := XP.out.t1
  have cXP2 := XP.out.t2
  go_wp2_with fail
  clear cXP0 cXP1 cXP2
  refine (szStrs2 _ l1 r0 _ (H1.out.below B.out (Nat.le_refl _)) q1 f1 p00 (by omega)).mono ?_
  rintro e w2 ⟨r1, rfl, hb, hq⟩
  replace B := Lib.hid (B.out.trans (hb.mono B.out.size))
  replace XP := Lib.hid (XP.out.next hb)
  clear hb
  rcases hq with rfl | ⟨p10, p11, p12⟩
  · go_wp2_with fail
    go_ret
    exact ⟨rfl, B.out⟩
  have e1 : decide (r1 < 0) = false := decide_eq_false (by omega)
  have n1 : l1.length ≤ 1048576 := by omega
  have N1 := Lib.hid n1
  clear n1
  have cXP0 := XP.out.t0
  have cXP1 := XP.out.t1
  have cXP2 := XP.out.t2
  go_wp2_with fail
  clear cXP0 cXP1 cXP2
  refine (TO.out N0.out _ (H0.out.below B.out (Nat.le_refl _))).mono ?_
  rintro e w3 ⟨v3, rfl, ho, hb⟩
  obtain ⟨a3, c3, rfl, -⟩ := id ho.2
  replace B := Lib.hid (B.out.trans (hb.mono B.out.size))
  replace XP := Lib.hid (XP.out.next hb)
  have T1 := Lib.hid ho
  clear ho hb
  have cXP0 := XP.out.t0
  have cXP1 := XP.out.t1
  have cXP2 := XP.out.t2
  go_wp2_with fail
  clear cXP0 cXP1 cXP2
  refine (toStrs_any _ l1 _ (H1.out.below B.out (Nat.le_refl _)) N1.out).mono ?_
  rintro e w4 ⟨v4, rfl, ho, hb⟩
  obtain ⟨a4, c4, rfl, -⟩ := id ho.2
  replace B := Lib.hid (B.out.trans (hb.mono B.out.size))
  replace XP := Lib.hid (XP.out.next hb)
  replace T1 := Lib.hid (T1.out.below hb (Nat.le_refl _))
  have T2 := Lib.hid ho
  clear ho hb
  have cXP0 := XP.out.t0
  have cXP1 := XP.out.t1
  have cXP2 := XP.out.t2
  go_wp2_with fail
  clear cXP0 cXP1 cXP2
  have hc := specFits p _ _ l1 w4 T1.out.rd T2.out.rd N0.out N1.out
  rw [← HV.out] at hc
  unfold pkV at hc
  refine hc.mono ?_
  clear hc
  rintro e w5 ⟨rfl, hb⟩
  replace B := Lib.hid (B.out.trans (hb.mono B.out.size))
  replace XP := Lib.hid (XP.out.next hb)
  replace T1 := Lib.hid (T1.out.below hb (Nat.le_refl _))
  replace T2 := Lib.hid (T2.out.below hb (Nat.le_refl _))
  clear hb
  clear T1
  clear T2
  have cXP0 := XP.out.t0
  have cXP1 := XP.out.t1
  have cXP2 := XP.out.t2
  go_wp2_with fail
  clear cXP0 cXP1 cXP2
  refine (TO.out N0.out _ (H0.out.below B.out (Nat.le_refl _))).mono ?_
  rintro e w6 ⟨v6, rfl, ho, hb⟩
  obtain ⟨a6, c6, rfl, -⟩ := id ho.2
  replace B := Lib.hid (B.out.trans (hb.mono B.out.size))
  replace XP := Lib.hid (XP.out.next hb)
  have X2 := Lib.hid ho
  clear ho hb
  have bz := below_alloc1 w6 (.cells #[.int .i64 p.1, .string p.2.1, .slice a6 p.2.2.length c6] 50)
  have XB := Lib.hid (bx_new w6 50 #[.int .i64 p.1, .string p.2.1, .slice a6 p.2.2.length c6])
  replace B := Lib.hid (B.out.trans (bz.mono B.out.size))
  replace XP := Lib.hid (XP.out.next bz)
  replace X2 := Lib.hid (X2.out.below bz (Nat.le_refl _))
  clear bz
  have cXP0 := XP.out.t0
  have cXP1 := XP.out.t1
  have cXP2 := XP.out.t2
  have cXB0 := XB.out.t0
  have cXB1 := XB.out.t1
  have cXB2 := XB.out.t2
  go_wp2_with fail
  clear cXP0 cXP1 cXP2
  clear cXB0 cXB1 cXB2
  generalize w6.alloc (.cells #[.int .i64 p.1, .string p.2.1, .slice a6 p.2.2.length c6] 50) = WB at *
  generalize w6.heap.size = nB at *
  refine (toStrs_any _ l1 _ (H1.out.below B.out (Nat.le_refl _)) N1.out).mono ?_
  rintro e w7 ⟨v7, rfl, ho, hb⟩
  obtain ⟨a7, c7, rfl, -⟩ := id ho.2
  replace B := Lib.hid (B.out.trans (hb.mono B.out.size))
  replace XP := Lib.hid (XP.out.next hb)
  replace XB := Lib.hid (XB.out.next hb)
  replace X2 := Lib.hid (X2.out.below hb (Nat.le_refl _))
  have X3 := Lib.hid ho
  clear ho hb
  have cXP0 := XP.out.t0
  have cXP1 := XP.out.t1
  have cXP2 := XP.out.t2
  have cXB0 := XB.out.t0
  have cXB1 := XB.out.t1
  have cXB2 := XB.out.t2
  go_wp2_with fail
  clear cXP0 cXP1 cXP2
  clear cXB0 cXB1 cXB2
  have hc := implFits p _ _ l1 w7 X2.out.rd X3.out.rd N0.out N1.out (HL.out.below B.out HL.out.two)
  rw [← HV.out] at hc
  unfold pkV at hc
  refine hc.mono ?_
  clear hc
  rintro e w8 ⟨rfl, hb⟩
  replace B := Lib.hid (B.out.trans (hb.mono B.out.size))
  replace XP := Lib.hid (XP.out.next hb)
  replace XB := Lib.hid (XB.out.next hb)
  replace X2 := Lib.hid (X2.out.below hb (Nat.le_refl _))
  replace X3 := Lib.hid (X3.out.below hb (Nat.le_refl _))
  clear hb
  have dq : (R != R) = false := by simp
  have cXP0 := XP.out.t0
  have cXP1 := XP.out.t1
  have cXP2 := XP.out.t2
  have cXB0 := XB.out.t0
  have cXB1 := XB.out.t1
  have cXB2 := XB.out.t2
  go_wp2_with fail
  clear cXP0 cXP1 cXP2
  clear cXB0 cXB1 cXB2
  have KP := Lib.hid (show ∀ w', Below w8.heap.size w8 w' → w'.cell? ⟨w.heap.size, 0, none⟩ = some (.int .i64 p.1) ∧ w'.cell? ⟨w.heap.size, 1, none⟩ = some (.string p.2.1) ∧ w'.cell? ⟨w.heap.size, 2, none⟩ = some (.slice a0 p.2.2.length c0) ∧ w'.cell? ⟨nB, 0, none⟩ = some (.int .i64 p.1) ∧ w'.cell? ⟨nB, 1, none⟩ = some (.string p.2.1) ∧ w'.cell? ⟨nB, 2, none⟩ = some (.slice a6 p.2.2.length c6) ∧ Below w8.heap.size w8 w' from fun w' hb' => have hx := XP.out.next hb'; have hy := XB.out.next hb'; ⟨hx.t0, hx.t1, hx.t2, hy.t0, hy.t1, hy.t2, hb'⟩)
  have TB := Lib.hid (show ∀ w', Below w8.heap.size w8 w' → Rd w' (.slice a0 p.2.2.length c0) p.2.2.length 4 (stpCs p.2.2) from fun w' hb' => H0.out.below (B.out.trans (hb'.mono B.out.size)) (Nat.le_refl _))
  obtain ⟨y0, y1, y2, z0, z1, z2, -⟩ := KP.out _ (Below.refl _ _)
  go_region_held3 (fun w' => w'.cell? ⟨w.heap.size, 0, none⟩ = some (.int .i64 p.1) ∧ w'.cell? ⟨w.heap.size, 1, none⟩ = some (.string p.2.1) ∧ w'.cell? ⟨w.heap.size, 2, none⟩ = some (.slice a0 p.2.2.length c0) ∧ w'.cell? ⟨nB, 0, none⟩ = some (.int .i64 p.1) ∧ w'.cell? ⟨nB, 1, none⟩ = some (.string p.2.1) ∧ w'.cell? ⟨nB, 2, none⟩ = some (.slice a6 p.2.2.length c6) ∧ Below w8.heap.size w8 w')
    (first | (with_reducible exact KP.out _ (Below.refl _ _).drew) | (go_split_ands; first | exact KP.out _ (below_more (by assumption) hbE) | exact KP.out _ (below_more (by assumption) hbT)))
    ((first | (go_at_call 23; go_split_ands; refine (TO.out N0.out _ (TB.out _ (by assumption))).mono ?_; rintro e wT ⟨vT, rfl, hoT, hbT⟩; obtain ⟨aT, cT, rfl, -⟩ := id hoT.2; have HOT := Lib.hid hoT; have HXT := Lib.hid (X2.out.below (below_more (by assumption) hbT) (Nat.le_refl _)); clear hoT) | (go_at_call 26; refine (EQ.out _ _ _ HXT.out.rd HOT.out.rd N0.out).mono ?_; rintro e wE ⟨rfl, hbE⟩)))
  all_goals (
    go_split_ands
    have hbz : Below w8.heap.size w8 wE := by assumption
    replace B := Lib.hid (B.out.trans (hbz.mono B.out.size))
    replace XP := Lib.hid (XP.out.next hbz)
    replace XB := Lib.hid (XB.out.next hbz)
    replace X2 := Lib.hid (X2.out.below hbz (Nat.le_refl _))
    replace X3 := Lib.hid (X3.out.below hbz (Nat.le_refl _))
    clear hbz
    have cXP0 := XP.out.t0
    have cXP1 := XP.out.t1
    have cXP2 := XP.out.t2
    have cXB0 := XB.out.t0
    have cXB1 := XB.out.t1
    have cXB2 := XB.out.t2
    go_wp2_with fail
    clear cXP0 cXP1 cXP2
    clear cXB0 cXB1 cXB2
    refine (toStrs_any _ l1 _ (H1.out.below B.out (Nat.le_refl _)) N1.out).mono ?_
    rintro e wY ⟨vY, rfl, ho, hb⟩
    obtain ⟨aY, cY, rfl, -⟩ := id ho.2
    replace B := Lib.hid (B.out.trans (hb.mono B.out.size))
    replace XP := Lib.hid (XP.out.next hb)
    replace XB := Lib.hid (XB.out.next hb)
    replace X2 := Lib.hid (X2.out.below hb (Nat.le_refl _))
    replace X3 := Lib.hid (X3.out.below hb (Nat.le_refl _))
    have Y := Lib.hid ho
    clear ho hb
    have cXP0 := XP.out.t0
    have cXP1 := XP.out.t1
    have cXP2 := XP.out.t2
    have cXB0 := XB.out.t0
    have cXB1 := XB.out.t1
    have cXB2 := XB.out.t2
    go_wp2_with fail
    clear cXP0 cXP1 cXP2
    clear cXB0 cXB1 cXB2
    refine (eqStrs_any _ _ l1 wY X3.out.rd Y.out.rd (by have := N1.out; unfold maxLen; omega)).mono ?_
    rintro e wZ ⟨rfl, hst⟩
    have hb := hst.below wY.heap.size
    clear hst Y
    replace B := Lib.hid (B.out.trans (hb.mono B.out.size))
    replace XP := Lib.hid (XP.out.next hb)
    replace XB := Lib.hid (XB.out.next hb)
    replace X2 := Lib.hid (X2.out.below hb (Nat.le_refl _))
    replace X3 := Lib.hid (X3.out.below hb (Nat.le_refl _))
    clear hb
    have cXP0 := XP.out.t0
    have cXP1 := XP.out.t1
    have cXP2 := XP.out.t2
    have cXB0 := XB.out.t0
    have cXB1 := XB.out.t1
    have cXB2 := XB.out.t2
    go_wp2_with fail
    clear cXP0 cXP1 cXP2
    clear cXB0 cXB1 cXB2
    go_ret
    exact ⟨rfl, B.out⟩)
end Go.Proofs.YtcckpkcjekcajaaDoor
