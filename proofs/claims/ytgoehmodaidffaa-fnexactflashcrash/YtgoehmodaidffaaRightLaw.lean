/- The exact law of FlashRight. -/
import Derived.Test.YtgoehmodaidffaaIRight
import Derived.Test.YtgoehmodaidffaaSCopy
namespace Go.Proofs.Ytgoehmodaidffaa
open Go.RowKit

theorem keepFour {W w' : World} {m n : Nat} {a b c d : Value} (h0 : W.cell? ⟨m, 0, none⟩ = some a) (h1 : W.cell? ⟨m, 1, none⟩ = some b) (h2 : W.cell? ⟨n, 0, none⟩ = some c) (h3 : W.cell? ⟨n, 1, none⟩ = some d) (hm : m < W.heap.size) (hn : n < W.heap.size) (hb : Below W.heap.size W w') :
    w'.cell? ⟨m, 0, none⟩ = some a ∧ w'.cell? ⟨m, 1, none⟩ = some b ∧ w'.cell? ⟨n, 0, none⟩ = some c ∧ w'.cell? ⟨n, 1, none⟩ = some d ∧ Below W.heap.size W w' :=
  ⟨(hb.cell (p := ⟨m, 0, none⟩) hm).trans h0, (hb.cell (p := ⟨m, 1, none⟩) hm).trans h1, (hb.cell (p := ⟨n, 0, none⟩) hn).trans h2, (hb.cell (p := ⟨n, 1, none⟩) hn).trans h3, hb⟩

set_option maxHeartbeats 2000000 in
set_option maxRecDepth 100000 in
theorem rightLaw (sv dv : Value) (F : FM) (w : World) (h : FRd w sv dv F) (hr : FReach F) :
    Calls Try.prog 4 #[.agg #[sv, dv]] w fun e w' => e = .returned (.bool true) ∧ Below w.heap.size w w' := by
  obtain ⟨a, c, rfl, -⟩ := id h.1.2
  obtain ⟨a', c', rfl, -⟩ := id h.2.2
  have HR := Lib.hid h
  have HH := Lib.hid hr
  clear h hr
  go_enter Try.func4, Try.ntmps4
  go_wp2_with fail
  have X0 := Lib.hid (bx_new w 51 #[.slice a F.sec.length c, .slice a' F.dir.length c'])
  have b0 := below_alloc1 w (.cells #[.slice a F.sec.length c, .slice a' F.dir.length c'] 51)
  have z0 := size_alloc1 w (.cells #[.slice a F.sec.length c, .slice a' F.dir.length c'] 51)
  generalize w.alloc (.cells #[.slice a F.sec.length c, .slice a' F.dir.length c'] 51) = W0 at *
  have R0 := Lib.hid (HR.out.below b0 (Nat.le_refl _))
  have B0 := Lib.hid b0
  clear b0 HR
  refine (szFlash_any _ _ F 1048576 W0 R0.out HH.out (by decide) (by decide)).mono ?_
  rintro e w1 ⟨r, rfl, hb1, hq⟩
  have B1 := Lib.hid (B0.out.trans (hb1.mono (by omega)))
  rcases hq with rfl | ⟨hq0, hq1, hq2, hq3, hq4⟩
  · clear hb1
    go_wp2_with fail
    go_ret
    exact ⟨rfl, B1.out⟩
  have d0 : decide (r < 0) = false := decide_eq_false (by omega)
  have Q := Lib.hid hq2
  have QS := Lib.hid hq3
  have QD := Lib.hid hq4
  have g1 : W0.heap.size ≤ w1.heap.size := hb1.size
  have x0 := X0.out.next hb1
  have c00 := x0.c0
  have c01 := x0.c1
  have R1 := Lib.hid (R0.out.below hb1 (Nat.le_refl _))
  have X1 := Lib.hid x0
  clear hq2 hq3 hq4 hb1 R0 X0 x0 HH B0
  go_wp2_with fail
  refine (toFlash_any _ _ F w1 R1.out Q.out).mono ?_
  rintro e w2 ⟨s2, t2, rfl, ho2, hb2⟩
  obtain ⟨a1, p1, rfl, -⟩ := id ho2.1.2
  obtain ⟨a2, p2, rfl, -⟩ := id ho2.2.1.2
  have g2 : w1.heap.size ≤ w2.heap.size := hb2.size
  have x0 := X1.out.next hb2
  have B2 := Lib.hid (B1.out.trans (hb2.mono (by omega)))
  have R2 := Lib.hid (R1.out.below hb2 (Nat.le_refl _))
  have X2 := Lib.hid x0
  have O2 := Lib.hid ho2
  clear ho2 hb2 x0 X1 R1 B1 c00 c01
  go_wp2_with fail
  refine (specRight _ _ F w2 O2.out.rd Q.out QS.out QD.out).mono ?_
  rintro e w3 ⟨bb, rfl, hiff, hb3⟩
  have g3 : w2.heap.size ≤ w3.heap.size := hb3.size
  have x0 := X2.out.next hb3
  have c00 := x0.c0
  have c01 := x0.c1
  have B3 := Lib.hid (B2.out.trans (hb3.mono (by omega)))
  have R3 := Lib.hid (R2.out.below hb3 (Nat.le_refl _))
  have X3 := Lib.hid x0
  have IFF := Lib.hid hiff
  clear hiff hb3 x0 X2 R2 B2 O2
  go_wp2_with fail
  refine (toFlash_any _ _ F w3 R3.out Q.out).mono ?_
  rintro e w4 ⟨s4, t4, rfl, ho4, hb4⟩
  obtain ⟨a3, p3, rfl, -⟩ := id ho4.1.2
  obtain ⟨a4, p4, rfl, -⟩ := id ho4.2.1.2
  have O4 := Lib.hid ho4
  have B4 := Lib.hid hb4
  clear ho4 hb4 c00 c01
  go_wp2_with fail
  have y1 := bx_new w4 26 #[.slice a3 F.sec.length p3, .slice a4 F.dir.length p4]
  have b4 := below_alloc1 w4 (.cells #[.slice a3 F.sec.length p3, .slice a4 F.dir.length p4] 26)
  have z4 := size_alloc1 w4 (.cells #[.slice a3 F.sec.length p3, .slice a4 F.dir.length p4] 26)
  generalize w4.alloc (.cells #[.slice a3 F.sec.length p3, .slice a4 F.dir.length p4] 26) = W4 at *
  have g4 : w3.heap.size ≤ w4.heap.size := B4.out.size
  have b34 : Below w3.heap.size w3 W4 := B4.out.trans (b4.mono g4)
  have O4' := Lib.hid (O4.out.below b4 (Nat.le_refl _))
  have X4 := Lib.hid (X3.out.next b34)
  have R4 := Lib.hid (R3.out.below b34 (Nat.le_refl _))
  have B4' := Lib.hid (B3.out.trans (b34.mono (by omega)))
  have Y4 := Lib.hid y1
  clear y1 b4 b34 O4 B4 X3 R3 B3
  generalize w4.heap.size = n4 at *
  clear w4
  refine (implRight _ _ F W4 O4'.out.rd Q.out QS.out QD.out).mono ?_
  rintro e w5 ⟨bc, rfl, hiff, hb5⟩
  obtain rfl : bc = bb := by
    cases bc <;> cases bb
    · rfl
    · exact absurd (hiff.2 (IFF.out.1 rfl)) (by decide)
    · exact absurd (IFF.out.2 (hiff.1 rfl)) (by decide)
    · rfl
  have g5 : W4.heap.size ≤ w5.heap.size := hb5.size
  have x0 := X4.out.next hb5
  have y0 := Y4.out.next hb5
  have k0 := x0.c0
  have k1 := x0.c1
  have l0 := y0.c0
  have l1 := y0.c1
  have B5 := Lib.hid (B4'.out.trans (hb5.mono (by omega)))
  have R5 := Lib.hid (R4.out.below hb5 (Nat.le_refl _))
  have O5 := Lib.hid (O4'.out.below hb5 (Nat.le_refl _))
  have hm : w.heap.size < w5.heap.size := by omega
  have hn : n4 < w5.heap.size := by omega
  clear hiff hb5 x0 y0 X4 Y4 B4' R4 O4' IFF
  go_wp2_with fail
  go_region_held3 (fun w' => w'.cell? ⟨w.heap.size, 0, none⟩ = some (.slice a F.sec.length c) ∧ w'.cell? ⟨w.heap.size, 1, none⟩ = some (.slice a' F.dir.length c') ∧ w'.cell? ⟨n4, 0, none⟩ = some (.slice a3 F.sec.length p3) ∧ w'.cell? ⟨n4, 1, none⟩ = some (.slice a4 F.dir.length p4) ∧ Below w5.heap.size w5 w')
    (first | (exact keepFour k0 k1 l0 l1 hm hn (drew_below w5)) | (go_split_ands; first | (exact keepFour k0 k1 l0 l1 hm hn (keep_next (by assumption) hbn)) | (exact keepFour k0 k1 l0 l1 hm hn (keep_next (by assumption) hbm))))
    (first | (go_at_call 33; go_split_ands; refine (toFlash_any _ _ F _ (R5.out.below (B := w5.heap.size) (by assumption) (Nat.le_refl _)) Q.out).mono ?_; rintro e w6 ⟨s6, t6, rfl, ho6, hbn⟩; obtain ⟨a5, p5, rfl, -⟩ := id ho6.1.2; obtain ⟨a6, p6, rfl, -⟩ := id ho6.2.1.2; have O6 := Lib.hid ho6; clear ho6) | (go_at_call 34; go_split_ands; refine (eqFlash_any _ _ _ _ F _ (O5.out.below (B := w5.heap.size) (by assumption) (Nat.le_refl _)).rd O6.out.rd Q.out).mono ?_; rintro e w7 ⟨rfl, hbm⟩))
  all_goals (
    go_split_ands
    have BF := Lib.hid (show Below w.heap.size w w7 from B5.out.trans (Below.mono (B := w5.heap.size) (by assumption) (by omega)))
    go_wp2_with fail
    go_ret
    exact ⟨rfl, BF.out⟩)
end Go.Proofs.Ytgoehmodaidffaa
