/- The exact law of MadeBy. -/
import Derived.Test.YtgiiclkjffdjgaaM1
import Derived.Test.YtgiiclkjffdjgaaCSMk
import Derived.Test.YtgiiclkjffdjgaaCIAp
import Derived.Test.YtgiiclkjffdjgaaAOb
namespace Go.Proofs.Ytgiiclkjffdjgaa
open Go.RowKit

set_option maxRecDepth 100000 in
set_option maxHeartbeats 4000000 in
theorem madeByLaw (v00 : Value) (l0 : List ByteArray) (k t f : Int) (d : ByteArray) (w : World) (h0 : Rd w v00 l0.length 1 (strs l0)) (q0 : l0.length ≤ maxLen) (f0 : FitZ l0) (hd : d.size ≤ maxLen) :
    Calls Try.prog 6 #[v00, .agg #[.int .i64 k, .int .i64 t, .int .i64 f, .string d]] w fun e w' => e = .returned (.bool true) ∧ Below w.heap.size w w' := by
  obtain ⟨a00, c00, rfl, -⟩ := id h0.2
  have H0 := Lib.hid h0
  clear h0
  have F0 := Lib.hid f0
  clear f0
  obtain ⟨R, hR⟩ : ∃ R, R = madeS l0 (k, t, f, d) := ⟨_, rfl⟩
  have HV := Lib.hid hR
  clear hR
  have B := Lib.hid (below_alloc1 w (.cells #[.int .i64 k, .int .i64 t, .int .i64 f, .string d] 41))
  have XS := Lib.hid (bx_new w 41 #[.int .i64 k, .int .i64 t, .int .i64 f, .string d])
  go_enter Try.func6, Try.ntmps6
  go_wp2_with fail
  generalize (w.alloc (.cells #[.int .i64 k, .int .i64 t, .int .i64 f, .string d] 41)) = W at *
  refine (szStrs2 _ l0 1048576 W (H0.out.below B.out (Nat.le_refl _)) q0 F0.out (by decide) (by decide)).mono ?_
  rintro e w1 ⟨r0, rfl, hb, hq⟩
  have g1 : W.heap.size ≤ w1.heap.size := hb.size
  replace B := Lib.hid (B.out.trans (hb.mono B.out.size))
  replace XS := Lib.hid (XS.out.next hb)
  clear hb
  rcases hq with rfl | ⟨p00, p01, p02⟩
  · go_wp2_with fail
    go_ret
    exact ⟨rfl, B.out⟩
  have d0 : decide (r0 < 0) = false := decide_eq_false (by omega)
  have n0 : l0.length ≤ 1048576 := by omega
  have N0 := Lib.hid n0
  clear n0
  have cXS0 := XS.out.cell 0
  have cXS1 := XS.out.cell 1
  have cXS2 := XS.out.cell 2
  have cXS3 := XS.out.cell 3
  simp at cXS0 cXS1 cXS2 cXS3
  go_wp2_with fail
  clear cXS0 cXS1 cXS2 cXS3
  refine (szStep_any _ _ _ _ r0 _ hd p00 (by omega)).mono ?_
  rintro e w2 ⟨r1, rfl, hb, hq⟩
  have g2 : w1.heap.size ≤ w2.heap.size := hb.size
  replace B := Lib.hid (B.out.trans (hb.mono B.out.size))
  replace XS := Lib.hid (XS.out.next hb)
  clear hb
  rcases hq with rfl | ⟨p10, p11, -⟩
  · go_wp2_with fail
    go_ret
    exact ⟨rfl, B.out⟩
  have d1 : decide (r1 < 0) = false := decide_eq_false (by omega)
  have cXS0 := XS.out.cell 0
  have cXS1 := XS.out.cell 1
  have cXS2 := XS.out.cell 2
  have cXS3 := XS.out.cell 3
  simp at cXS0 cXS1 cXS2 cXS3
  go_wp2_with fail
  have KP := Lib.hid (show ∀ w', Below w2.heap.size w2 w' → w'.cell? ⟨w.heap.size, 0, none⟩ = some (.int .i64 k) ∧ w'.cell? ⟨w.heap.size, 1, none⟩ = some (.int .i64 t) ∧ w'.cell? ⟨w.heap.size, 2, none⟩ = some (.int .i64 f) ∧ w'.cell? ⟨w.heap.size, 3, none⟩ = some (.string d) ∧ Below w2.heap.size w2 w' from fun w' hb' => have hx := XS.out.next hb'; ⟨hx.q0, hx.q1, hx.q2, hx.q3, hb'⟩)
  have MB := Lib.hid (show ∀ v' w', Rd w' v' l0.length 1 (strs l0) → Calls Try.prog 22 #[v', .agg #[.int .i64 k, .int .i64 t, .int .i64 f, .string d]] w' fun e w'' => e = .returned (.string R) ∧ Below w'.heap.size w' w'' from fun v' w' hr => by rw [HV.out]; exact specMadeBy v' l0 k t f d w' hr N0.out F0.out hd)
  go_region_held3 (fun w' => w'.cell? ⟨w.heap.size, 0, none⟩ = some (.int .i64 k) ∧ w'.cell? ⟨w.heap.size, 1, none⟩ = some (.int .i64 t) ∧ w'.cell? ⟨w.heap.size, 2, none⟩ = some (.int .i64 f) ∧ w'.cell? ⟨w.heap.size, 3, none⟩ = some (.string d) ∧ Below w2.heap.size w2 w')
    (first | (with_reducible exact KP.out _ (Below.refl _ _).drew) | (go_split_ands; first | exact KP.out _ (below_more (by assumption) hbM) | exact KP.out _ (below_more (by assumption) hbS) | exact KP.out _ (below_more (by assumption) hbT)))
    ((first | (go_at_call 16; go_split_ands; refine (toStrs_any _ l0 _ (H0.out.below (B.out.trans (Below.mono (B := w2.heap.size) (by assumption) B.out.size)) (Nat.le_refl _)) N0.out).mono ?_; rintro e wT ⟨vT, rfl, hoT, hbT⟩; obtain ⟨aT, cT, rfl, -⟩ := id hoT.2; have HOT := Lib.hid hoT; clear hoT) | (go_at_call 23; refine (toStep_any k t f d _).mono ?_; rintro e wS ⟨rfl, hbS⟩) | (go_at_call 22; first | refine (MB.out _ _ HOT.out.rd).mono ?_ | refine (MB.out _ _ (HOT.out.rd.below hbS (Nat.le_refl _))).mono ?_; rintro e wM ⟨rfl, hbM⟩)))
  all_goals (
    go_split_ands
    have hbz : Below w2.heap.size w2 wM := by assumption
    have g2 : w2.heap.size ≤ wM.heap.size := hbz.size
    replace B := Lib.hid (B.out.trans (hbz.mono B.out.size))
    replace XS := Lib.hid (XS.out.next hbz)
    clear hbz
    have cXS0 := XS.out.cell 0
    have cXS1 := XS.out.cell 1
    have cXS2 := XS.out.cell 2
    have cXS3 := XS.out.cell 3
    simp at cXS0 cXS1 cXS2 cXS3
    go_wp2_with fail
    clear cXS0 cXS1 cXS2 cXS3
    refine (toStrs_any _ l0 wM (H0.out.below B.out (Nat.le_refl _)) N0.out).mono ?_
    rintro e w3 ⟨v3, rfl, ho, hb⟩
    obtain ⟨a3, c3, rfl, -⟩ := id ho.2
    have g3 : wM.heap.size ≤ w3.heap.size := hb.size
    replace B := Lib.hid (B.out.trans (hb.mono B.out.size))
    replace XS := Lib.hid (XS.out.next hb)
    have X0 := Lib.hid (Ob.new ho)
    clear ho hb
    have cXS0 := XS.out.cell 0
    have cXS1 := XS.out.cell 1
    have cXS2 := XS.out.cell 2
    have cXS3 := XS.out.cell 3
    simp at cXS0 cXS1 cXS2 cXS3
    go_wp2_with fail
    clear cXS0 cXS1 cXS2 cXS3
    refine (toStep_any k t f d _).mono ?_
    rintro e w4 ⟨rfl, hb⟩
    have g4 : w3.heap.size ≤ w4.heap.size := hb.size
    replace B := Lib.hid (B.out.trans (hb.mono B.out.size))
    replace X0 := Lib.hid (X0.out.below hb (Nat.le_refl _))
    replace XS := Lib.hid (XS.out.next hb)
    clear hb
    have cXS0 := XS.out.cell 0
    have cXS1 := XS.out.cell 1
    have cXS2 := XS.out.cell 2
    have cXS3 := XS.out.cell 3
    simp at cXS0 cXS1 cXS2 cXS3
    go_wp2_with fail
    clear cXS0 cXS1 cXS2 cXS3
    have hc := implMadeBy _ l0 k t f d w4 X0.out.rd N0.out
    rw [← HV.out] at hc
    refine hc.mono ?_
    clear hc
    rintro e w5 ⟨rfl, hb⟩
    have g5 : w4.heap.size ≤ w5.heap.size := hb.size
    replace B := Lib.hid (B.out.trans (hb.mono B.out.size))
    replace X0 := Lib.hid (X0.out.below hb (Nat.le_refl _))
    replace XS := Lib.hid (XS.out.next hb)
    clear hb
    have cXS0 := XS.out.cell 0
    have cXS1 := XS.out.cell 1
    have cXS2 := XS.out.cell 2
    have cXS3 := XS.out.cell 3
    simp at cXS0 cXS1 cXS2 cXS3
    go_wp2_with fail
    clear cXS0 cXS1 cXS2 cXS3
    have dq : (R.toList == R.toList) = true := by simp
    have cXS0 := XS.out.cell 0
    have cXS1 := XS.out.cell 1
    have cXS2 := XS.out.cell 2
    have cXS3 := XS.out.cell 3
    simp at cXS0 cXS1 cXS2 cXS3
    go_wp2_with fail
    clear cXS0 cXS1 cXS2 cXS3
    refine (toStrs_any _ l0 w5 (H0.out.below B.out (Nat.le_refl _)) N0.out).mono ?_
    rintro e w6 ⟨v6, rfl, ho, hb⟩
    obtain ⟨a6, c6, rfl, -⟩ := id ho.2
    have g6 : w5.heap.size ≤ w6.heap.size := hb.size
    replace B := Lib.hid (B.out.trans (hb.mono B.out.size))
    replace X0 := Lib.hid (X0.out.below hb (Nat.le_refl _))
    replace XS := Lib.hid (XS.out.next hb)
    have Y := Lib.hid (Ob.new ho)
    clear ho hb
    have cXS0 := XS.out.cell 0
    have cXS1 := XS.out.cell 1
    have cXS2 := XS.out.cell 2
    have cXS3 := XS.out.cell 3
    simp at cXS0 cXS1 cXS2 cXS3
    go_wp2_with fail
    clear cXS0 cXS1 cXS2 cXS3
    refine (eqStrs_any _ _ l0 w6 X0.out.rd Y.out.rd (by have := N0.out; unfold maxLen; omega)).mono ?_
    rintro e w7 ⟨rfl, hst⟩
    have hb := hst.below w6.heap.size
    clear hst
    have g7 : w6.heap.size ≤ w7.heap.size := hb.size
    replace B := Lib.hid (B.out.trans (hb.mono B.out.size))
    replace X0 := Lib.hid (X0.out.below hb (Nat.le_refl _))
    replace Y := Lib.hid (Y.out.below hb (Nat.le_refl _))
    replace XS := Lib.hid (XS.out.next hb)
    clear hb
    clear Y
    have cXS0 := XS.out.cell 0
    have cXS1 := XS.out.cell 1
    have cXS2 := XS.out.cell 2
    have cXS3 := XS.out.cell 3
    simp at cXS0 cXS1 cXS2 cXS3
    go_wp2_with fail
    clear cXS0 cXS1 cXS2 cXS3
    go_ret
    exact ⟨rfl, B.out⟩)
end Go.Proofs.Ytgiiclkjffdjgaa
