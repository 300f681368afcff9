/- The law FnArea, walked. -/
import Derived.Test.YtmhmjofmafeidaaADraw4
import Derived.Test.YtmhmjofmafeidaaADraw3
import Derived.Test.YtmhmjofmafeidaaAFnA
import Derived.Test.YtmhmjofmafeidaaASlo
import Derived.Test.YtmhmjofmafeidaaAFree
namespace Go.Proofs.Ytmhmjofmafeidaa
open Go.RowKit
/-- What a loop that looks a number up keeps. -/
def HasIn (l : List Int) (n : Int) (v0 : Bool) (W : World) (x i : Value) (wr : World) : Prop :=
  ∃ q : Nat, q ≤ l.length ∧ x = .bool (v0 || hasL (l.take q) n) ∧ i = .int .i64 (q : Int) ∧ wr = W
def KRel (W : World) (i : Value) (wr : World) : Prop := ∃ k : Nat, k ≤ 24 ∧ i = .int .i64 (k : Int) ∧ wr = W
def SepRel (E : List extT) (W : World) (i : Value) (wr : World) : Prop :=
  ∃ k : Nat, 1 ≤ k ∧ (k ≤ E.length ∨ k = 1) ∧ i = .int .i64 (k : Int) ∧ Still W wr
theorem field_out (v : Value) (c : Int) (w : World) : (Instr.field 30 (.agg #[v, .int .i64 c]) 0).run Try.prog w = .ok v w := by
  simp [Instr.field, go_sem, asAgg]
theorem sep_at {E : List extT} (h : sepE E) (k : Nat) (h1 : 1 ≤ k) (h2 : k < E.length) : E[k - 1].1 + E[k - 1].2 < E[k].1 := by
  refine h (k - 1) _ _ (List.getElem?_eq_getElem (by omega)) ?_
  simp only [show k - 1 + 1 = k by omega]
  exact List.getElem?_eq_getElem h2
theorem fit_good (E : List extT) (h : ∀ e ∈ E, goodE e = true) : FitE E := fun j hj => by
  have := (goodE_iff _).1 (h E[j] (List.getElem_mem hj))
  omega
set_option maxHeartbeats 8000000 in
set_option maxRecDepth 100000 in
theorem areaFn (a0 : Option Addr) (len0 cap0 : Nat) (a1 : Option Addr) (len1 cap1 : Nat) (w : World) (hB0 : Bytes w a0 len0) (hB1 : Bytes w a1 len1) (hl0 : len0 ≤ maxLen) (hl1 : len1 ≤ maxLen) :
    Calls Try.prog 3 #[.slice a0 len0 cap0, .slice a1 len1 cap1] w fun e w' => e = .returned (.bool true) ∧ Below w.heap.size w w' := by
  unfold maxLen at hl0 hl1
  have HB0 := Lib.hid hB0
  have HB1 := Lib.hid hB1
  clear hB0 hB1
  by_cases big0 : 1048576 < len0
  · have d0 : decide ((1048576 : Int) < (len0 : Int)) = true := decide_eq_true (by omega)
    go_enter Try.func3, Try.ntmps3
    go_wp2_with fail
    go_ret
    exact ⟨rfl, Below.refl _ _⟩
  by_cases big1 : 1048576 < len1
  · have d0 : decide ((1048576 : Int) < (len0 : Int)) = false := decide_eq_false (by omega)
    have d1 : decide ((1048576 : Int) < (len1 : Int)) = true := decide_eq_true (by omega)
    go_enter Try.func3, Try.ntmps3
    go_wp2_with fail
    go_ret
    exact ⟨rfl, Below.refl _ _⟩
  have d0 : decide ((1048576 : Int) < (len0 : Int)) = false := decide_eq_false (by omega)
  have d1 : decide ((1048576 : Int) < (len1 : Int)) = false := decide_eq_false (by omega)
  clear hl0 hl1
  go_enter Try.func3, Try.ntmps3
  go_wp2_with fail
  refine (drawFree_any a0 len0 cap0 w HB0.out (by omega)).mono ?_
  rintro e w1 ⟨la, lb, va, vb, hla, hlb, rfl, ha, hb, hw1⟩
  obtain ⟨xa, ca, rfl, -⟩ := id ha.2
  obtain ⟨xb, cb, rfl, -⟩ := id hb.2
  have RA := Lib.hid ha.rd
  have RB := Lib.hid hb.rd
  have B := Lib.hid hw1
  clear ha hb hw1 HB0
  have hel := extO_len la
  obtain ⟨E, hE⟩ : ∃ E, E = extO la := ⟨_, rfl⟩
  have HE := Lib.hid hE
  rw [← hE] at hel
  clear hE
  go_wp2_with fail
  have hc := implExt _ la w1 RA.out (by omega)
  rw [← HE.out] at hc
  refine (hc).mono ?_
  rintro e w2 ⟨v, rfl, ho, hb⟩
  obtain ⟨ra, rc, rfl, -⟩ := id ho.2
  have g2 : w1.heap.size ≤ w2.heap.size := hb.size
  replace B := Lib.hid (B.out.trans (hb.mono B.out.size))
  replace RA := Lib.hid (RA.out.below hb (Nat.le_refl _))
  replace RB := Lib.hid (RB.out.below hb (Nat.le_refl _))
  have RR := Lib.hid ho.rd
  clear ho hc
  clear hb
  go_wp2_with fail
  have hby : Bytes w2 a1 len1 := HB1.out.below B.out
  refine (drawList_any a1 len1 cap1 w2 hby (by omega)).mono ?_
  rintro e w3 ⟨ll, v, hfit, hll, rfl, ho, hb⟩
  obtain ⟨xl, cl, rfl, -⟩ := id ho.2
  have HFIT := Lib.hid hfit
  clear hby hfit
  have g3 : w2.heap.size ≤ w3.heap.size := hb.size
  replace B := Lib.hid (B.out.trans (hb.mono B.out.size))
  replace RA := Lib.hid (RA.out.below hb (Nat.le_refl _))
  replace RB := Lib.hid (RB.out.below hb (Nat.le_refl _))
  replace RR := Lib.hid (RR.out.below hb (Nat.le_refl _))
  have RL := Lib.hid ho.rd
  clear ho
  clear hb
  obtain ⟨Q, hQ⟩ : ∃ Q, Q = listO ll := ⟨_, rfl⟩
  have hql : Q.1.length ≤ 24 := by rw [hQ]; exact listO_len ll
  have HQ := Lib.hid hQ
  clear hQ
  go_wp2_with fail
  have hc := implListOf _ ll w3 RL.out (by omega) HFIT.out
  rw [← HQ.out] at hc
  refine (hc).mono ?_
  rintro e w4 ⟨v, rfl, ho, hb⟩
  obtain ⟨ax, cx, rfl⟩ := ho.form
  have g4 : w3.heap.size ≤ w4.heap.size := hb.size
  replace B := Lib.hid (B.out.trans (hb.mono B.out.size))
  replace RA := Lib.hid (RA.out.below hb (Nat.le_refl _))
  replace RB := Lib.hid (RB.out.below hb (Nat.le_refl _))
  replace RR := Lib.hid (RR.out.below hb (Nat.le_refl _))
  replace RL := Lib.hid (RL.out.below hb (Nat.le_refl _))
  have RX := Lib.hid ho.own.rd
  clear ho hc
  clear hb
  go_wp2_with fail
  have hc := specListOf _ ll w4 RL.out (by omega) HFIT.out
  rw [← HQ.out] at hc
  refine (hc).mono ?_
  rintro e w5 ⟨v, rfl, ho, hb⟩
  obtain ⟨ay, cy, rfl⟩ := ho.form
  have g5 : w4.heap.size ≤ w5.heap.size := hb.size
  replace B := Lib.hid (B.out.trans (hb.mono B.out.size))
  replace RA := Lib.hid (RA.out.below hb (Nat.le_refl _))
  replace RB := Lib.hid (RB.out.below hb (Nat.le_refl _))
  replace RR := Lib.hid (RR.out.below hb (Nat.le_refl _))
  replace RL := Lib.hid (RL.out.below hb (Nat.le_refl _))
  replace RX := Lib.hid (RX.out.below hb (Nat.le_refl _))
  have RY := Lib.hid ho.own.rd
  clear ho hc
  clear hb
  clear RL HFIT HQ
  have b4 := below_alloc1 w5 (.cells #[.slice ax Q.1.length cx, .int .i64 Q.2] 30)
  have b5 := below_alloc1 (w5.alloc (.cells #[.slice ax Q.1.length cx, .int .i64 Q.2] 30)) (.cells #[.slice ay Q.1.length cy, .int .i64 Q.2] 30)
  have z4 := size_alloc1 w5 (.cells #[.slice ax Q.1.length cx, .int .i64 Q.2] 30)
  have X := Lib.hid ((bx_new w5 30 #[.slice ax Q.1.length cx, .int .i64 Q.2]).next b5)
  have Y := Lib.hid (bx_new (w5.alloc (.cells #[.slice ax Q.1.length cx, .int .i64 Q.2] 30)) 30 #[.slice ay Q.1.length cy, .int .i64 Q.2])
  rw [z4] at Y
  go_wp2_with fail
  have hb := b4.trans (b5.mono b4.size)
  generalize ((w5.alloc (.cells #[.slice ax Q.1.length cx, .int .i64 Q.2] 30)).alloc (.cells #[.slice ay Q.1.length cy, .int .i64 Q.2] 30)) = W0 at *
  have g6 : w5.heap.size ≤ W0.heap.size := hb.size
  replace B := Lib.hid (B.out.trans (hb.mono B.out.size))
  replace RA := Lib.hid (RA.out.below hb (Nat.le_refl _))
  replace RB := Lib.hid (RB.out.below hb (Nat.le_refl _))
  replace RR := Lib.hid (RR.out.below hb (Nat.le_refl _))
  replace RX := Lib.hid (RX.out.below hb (Nat.le_refl _))
  replace RY := Lib.hid (RY.out.below hb (Nat.le_refl _))
  clear hb b4 b5 z4
  generalize w5.heap.size = nx at *
  have hby : Bytes W0 a1 len1 := HB1.out.below B.out
  refine (drawBits_any a1 len1 cap1 W0 hby (by omega)).mono ?_
  rintro e w7 ⟨n, ⟨hn0, hn1⟩, rfl, hb⟩
  clear hby
  have g7 : W0.heap.size ≤ w7.heap.size := hb.size
  replace B := Lib.hid (B.out.trans (hb.mono B.out.size))
  replace RA := Lib.hid (RA.out.below hb (Nat.le_refl _))
  replace RB := Lib.hid (RB.out.below hb (Nat.le_refl _))
  replace RR := Lib.hid (RR.out.below hb (Nat.le_refl _))
  replace RX := Lib.hid (RX.out.below hb (Nat.le_refl _))
  replace RY := Lib.hid (RY.out.below hb (Nat.le_refl _))
  replace X := Lib.hid (X.out.next hb)
  replace Y := Lib.hid (Y.out.next hb)
  clear hb
  have cX0 := X.out.cell 0
  have cX1 := X.out.cell 1
  simp at cX0 cX1
  have cY0 := Y.out.cell 0
  have cY1 := Y.out.cell 1
  simp at cY0 cY1
  go_wp2_with fail
  clear cX0 cX1
  clear cY0 cY1
  have hfl := freeL_len la lb
  obtain ⟨F, hF⟩ : ∃ F, F = freeL la lb := ⟨_, rfl⟩
  have HF := Lib.hid hF
  rw [← hF] at hfl
  clear hF
  have hc := implFree _ _ la lb w7 RA.out RB.out (by omega) (by omega)
  rw [← HF.out] at hc
  refine (hc).mono ?_
  rintro e w8 ⟨v, rfl, ho, hb⟩
  obtain ⟨fa, fc, rfl⟩ := ho.form
  have g8 : w7.heap.size ≤ w8.heap.size := hb.size
  replace B := Lib.hid (B.out.trans (hb.mono B.out.size))
  replace RA := Lib.hid (RA.out.below hb (Nat.le_refl _))
  replace RB := Lib.hid (RB.out.below hb (Nat.le_refl _))
  replace RR := Lib.hid (RR.out.below hb (Nat.le_refl _))
  replace RX := Lib.hid (RX.out.below hb (Nat.le_refl _))
  replace RY := Lib.hid (RY.out.below hb (Nat.le_refl _))
  replace X := Lib.hid (X.out.next hb)
  replace Y := Lib.hid (Y.out.next hb)
  have RF := Lib.hid ho.own.rd
  clear ho hc
  clear hb
  have cX0 := X.out.cell 0
  have cX1 := X.out.cell 1
  simp at cX0 cX1
  have cY0 := Y.out.cell 0
  have cY1 := Y.out.cell 1
  simp at cY0 cY1
  go_wp2_with fail
  clear cX0 cX1
  clear cY0 cY1
  have hc := specExt _ la w8 RA.out (by omega)
  rw [← HE.out] at hc
  refine (hc).mono ?_
  rintro e w9 ⟨v, rfl, ho, hb⟩
  obtain ⟨sa, sc, rfl⟩ := ho.form
  have g9 : w8.heap.size ≤ w9.heap.size := hb.size
  replace B := Lib.hid (B.out.trans (hb.mono B.out.size))
  replace RA := Lib.hid (RA.out.below hb (Nat.le_refl _))
  replace RB := Lib.hid (RB.out.below hb (Nat.le_refl _))
  replace RR := Lib.hid (RR.out.below hb (Nat.le_refl _))
  replace RX := Lib.hid (RX.out.below hb (Nat.le_refl _))
  replace RY := Lib.hid (RY.out.below hb (Nat.le_refl _))
  replace RF := Lib.hid (RF.out.below hb (Nat.le_refl _))
  replace X := Lib.hid (X.out.next hb)
  replace Y := Lib.hid (Y.out.next hb)
  have RS := Lib.hid ho.own.rd
  clear ho hc
  clear hb
  have cX0 := X.out.cell 0
  have cX1 := X.out.cell 1
  simp at cX0 cX1
  have cY0 := Y.out.cell 0
  have cY1 := Y.out.cell 1
  simp at cY0 cY1
  go_wp2_with fail
  clear cX0 cX1
  clear cY0 cY1
  refine (lwRuns_any _ _ E w9 RR.out RS.out (by omega)).mono ?_
  rintro e w10 ⟨rfl, hst⟩
  have hb := hst.below w9.heap.size
  clear hst
  have g10 : w9.heap.size ≤ w10.heap.size := hb.size
  replace B := Lib.hid (B.out.trans (hb.mono B.out.size))
  replace RA := Lib.hid (RA.out.below hb (Nat.le_refl _))
  replace RB := Lib.hid (RB.out.below hb (Nat.le_refl _))
  replace RR := Lib.hid (RR.out.below hb (Nat.le_refl _))
  replace RX := Lib.hid (RX.out.below hb (Nat.le_refl _))
  replace RY := Lib.hid (RY.out.below hb (Nat.le_refl _))
  replace RF := Lib.hid (RF.out.below hb (Nat.le_refl _))
  replace RS := Lib.hid (RS.out.below hb (Nat.le_refl _))
  replace X := Lib.hid (X.out.next hb)
  replace Y := Lib.hid (Y.out.next hb)
  clear hb
  clear RS
  have dQ : (Q.2 != Q.2) = false := by simp
  have cX0 := X.out.cell 0
  have cX1 := X.out.cell 1
  simp at cX0 cX1
  have cY0 := Y.out.cell 0
  have cY1 := Y.out.cell 1
  simp at cY0 cY1
  go_wp2_with fail
  clear cX0 cX1
  clear cY0 cY1
  refine (lwNums_any _ _ Q.1 w10 RX.out RY.out (by omega)).mono ?_
  rintro e w11 ⟨rfl, hst⟩
  have hb := hst.below w10.heap.size
  clear hst
  have g11 : w10.heap.size ≤ w11.heap.size := hb.size
  replace B := Lib.hid (B.out.trans (hb.mono B.out.size))
  replace RA := Lib.hid (RA.out.below hb (Nat.le_refl _))
  replace RB := Lib.hid (RB.out.below hb (Nat.le_refl _))
  replace RR := Lib.hid (RR.out.below hb (Nat.le_refl _))
  replace RX := Lib.hid (RX.out.below hb (Nat.le_refl _))
  replace RY := Lib.hid (RY.out.below hb (Nat.le_refl _))
  replace RF := Lib.hid (RF.out.below hb (Nat.le_refl _))
  replace X := Lib.hid (X.out.next hb)
  replace Y := Lib.hid (Y.out.next hb)
  clear hb
  clear RX RY dQ
  clear X Y
  have hfb := fromB_len n
  go_wp2_with fail
  refine (implFromB n w11 hn0 hn1).mono ?_
  rintro e w12 ⟨v, rfl, ho, hb⟩
  obtain ⟨p1, q1, rfl⟩ := ho.form
  have g12 : w11.heap.size ≤ w12.heap.size := hb.size
  replace B := Lib.hid (B.out.trans (hb.mono B.out.size))
  replace RA := Lib.hid (RA.out.below hb (Nat.le_refl _))
  replace RB := Lib.hid (RB.out.below hb (Nat.le_refl _))
  replace RR := Lib.hid (RR.out.below hb (Nat.le_refl _))
  replace RF := Lib.hid (RF.out.below hb (Nat.le_refl _))
  have R1 := Lib.hid ho.own.rd
  clear ho
  clear hb
  go_wp2_with fail
  refine (specFromB n w12 hn0 hn1).mono ?_
  rintro e w13 ⟨v, rfl, ho, hb⟩
  obtain ⟨p2, q2, rfl⟩ := ho.form
  have g13 : w12.heap.size ≤ w13.heap.size := hb.size
  replace B := Lib.hid (B.out.trans (hb.mono B.out.size))
  replace RA := Lib.hid (RA.out.below hb (Nat.le_refl _))
  replace RB := Lib.hid (RB.out.below hb (Nat.le_refl _))
  replace RR := Lib.hid (RR.out.below hb (Nat.le_refl _))
  replace RF := Lib.hid (RF.out.below hb (Nat.le_refl _))
  replace R1 := Lib.hid (R1.out.below hb (Nat.le_refl _))
  have R2 := Lib.hid ho.own.rd
  clear ho
  clear hb
  go_wp2_with fail
  refine (lwNums_any _ _ (fromB n) w13 R1.out R2.out (by omega)).mono ?_
  rintro e w14 ⟨rfl, hst⟩
  have hb := hst.below w13.heap.size
  clear hst
  have g14 : w13.heap.size ≤ w14.heap.size := hb.size
  replace B := Lib.hid (B.out.trans (hb.mono B.out.size))
  replace RA := Lib.hid (RA.out.below hb (Nat.le_refl _))
  replace RB := Lib.hid (RB.out.below hb (Nat.le_refl _))
  replace RR := Lib.hid (RR.out.below hb (Nat.le_refl _))
  replace RF := Lib.hid (RF.out.below hb (Nat.le_refl _))
  replace R1 := Lib.hid (R1.out.below hb (Nat.le_refl _))
  replace R2 := Lib.hid (R2.out.below hb (Nat.le_refl _))
  clear hb
  clear R1 R2
  go_wp2_with fail
  refine (implBitsOf _ la w14 RA.out (by omega)).mono ?_
  rintro e w15 ⟨rfl, hw⟩
  rw [hw]
  clear hw w15
  go_wp2_with fail
  refine (specBitsOf _ la w14 RA.out (by omega)).mono ?_
  rintro e w16 ⟨rfl, hst⟩
  have hb := hst.below w14.heap.size
  clear hst
  have g16 : w14.heap.size ≤ w16.heap.size := hb.size
  replace B := Lib.hid (B.out.trans (hb.mono B.out.size))
  replace RA := Lib.hid (RA.out.below hb (Nat.le_refl _))
  replace RB := Lib.hid (RB.out.below hb (Nat.le_refl _))
  replace RR := Lib.hid (RR.out.below hb (Nat.le_refl _))
  replace RF := Lib.hid (RF.out.below hb (Nat.le_refl _))
  clear hb
  have dM : (maskL la != maskL la) = false := by simp
  go_wp2_with fail
  clear dM
  have hc := specFree _ _ la lb w16 RA.out RB.out (by omega) (by omega)
  rw [← HF.out] at hc
  refine (hc).mono ?_
  rintro e w17 ⟨v, rfl, ho, hb⟩
  obtain ⟨p3, q3, rfl⟩ := ho.form
  have g17 : w16.heap.size ≤ w17.heap.size := hb.size
  replace B := Lib.hid (B.out.trans (hb.mono B.out.size))
  replace RA := Lib.hid (RA.out.below hb (Nat.le_refl _))
  replace RB := Lib.hid (RB.out.below hb (Nat.le_refl _))
  replace RR := Lib.hid (RR.out.below hb (Nat.le_refl _))
  replace RF := Lib.hid (RF.out.below hb (Nat.le_refl _))
  have R3 := Lib.hid ho.own.rd
  clear ho hc
  clear hb
  go_wp2_with fail
  refine (lwNums_any _ _ F w17 RF.out R3.out (by omega)).mono ?_
  rintro e w18 ⟨rfl, hst⟩
  have hb := hst.below w17.heap.size
  clear hst
  have g18 : w17.heap.size ≤ w18.heap.size := hb.size
  replace B := Lib.hid (B.out.trans (hb.mono B.out.size))
  replace RA := Lib.hid (RA.out.below hb (Nat.le_refl _))
  replace RB := Lib.hid (RB.out.below hb (Nat.le_refl _))
  replace RR := Lib.hid (RR.out.below hb (Nat.le_refl _))
  replace RF := Lib.hid (RF.out.below hb (Nat.le_refl _))
  replace R3 := Lib.hid (R3.out.below hb (Nat.le_refl _))
  clear hb
  clear R3
  go_wp2_with fail
  refine (implRightL _ la w18 RA.out (by omega)).mono ?_
  rintro e w19 ⟨rfl, hw⟩
  rw [hw]
  clear hw w19
  go_wp2_with fail
  refine (specRightL _ la w18 RA.out (by omega)).mono ?_
  rintro e w20 ⟨rfl, hst⟩
  have hb := hst.below w18.heap.size
  clear hst
  have g20 : w18.heap.size ≤ w20.heap.size := hb.size
  replace B := Lib.hid (B.out.trans (hb.mono B.out.size))
  replace RA := Lib.hid (RA.out.below hb (Nat.le_refl _))
  replace RB := Lib.hid (RB.out.below hb (Nat.le_refl _))
  replace RR := Lib.hid (RR.out.below hb (Nat.le_refl _))
  replace RF := Lib.hid (RF.out.below hb (Nat.le_refl _))
  clear hb
  have dO : (okL la != okL la) = false := by simp
  have HMF := Lib.hid (mask_from n)
  by_cases hn2 : n < 0
  · have d5 : decide ((0 : Int) ≤ n) = false := decide_eq_false (by omega)
    go_wp2_with fail
    refine (specRightL _ la w20 RA.out (by omega)).mono ?_
    rintro e w21 ⟨rfl, hst⟩
    have hb := hst.below w20.heap.size
    clear hst
    have g21 : w20.heap.size ≤ w21.heap.size := hb.size
    replace B := Lib.hid (B.out.trans (hb.mono B.out.size))
    replace RA := Lib.hid (RA.out.below hb (Nat.le_refl _))
    replace RB := Lib.hid (RB.out.below hb (Nat.le_refl _))
    replace RR := Lib.hid (RR.out.below hb (Nat.le_refl _))
    replace RF := Lib.hid (RF.out.below hb (Nat.le_refl _))
    clear hb
    cases oa : okL la with
    | false =>
      have hFz : F.length = 0 := by rw [HF.out]; unfold freeL; rw [oa]; rfl
      rw [hFz]
      go_wp2_with fail
      go_ret
      exact ⟨rfl, B.out⟩
    | true =>
    go_wp2_with fail
    refine (specRightL _ lb w21 RB.out (by omega)).mono ?_
    rintro e w22 ⟨rfl, hst⟩
    have hb := hst.below w21.heap.size
    clear hst
    have g22 : w21.heap.size ≤ w22.heap.size := hb.size
    replace B := Lib.hid (B.out.trans (hb.mono B.out.size))
    replace RA := Lib.hid (RA.out.below hb (Nat.le_refl _))
    replace RB := Lib.hid (RB.out.below hb (Nat.le_refl _))
    replace RR := Lib.hid (RR.out.below hb (Nat.le_refl _))
    replace RF := Lib.hid (RF.out.below hb (Nat.le_refl _))
    clear hb
    cases ob : okL lb with
    | false =>
      have hFz : F.length = 0 := by rw [HF.out]; unfold freeL; rw [oa, ob]; rfl
      rw [hFz]
      go_wp2_with fail
      go_ret
      exact ⟨rfl, B.out⟩
    | true =>
    have hEE : E = runsL la := by rw [HE.out]; exact extO_yes la oa
    have hFF : F = freeT la lb 24 := by rw [HF.out]; unfold freeL; rw [oa, ob]; rfl
    have HSEP := Lib.hid (show sepE (runsL la) from rT_sep la oa la.length (Nat.le_refl _))
    have HLR := Lib.hid (list_runs la oa)
    have HFM := Lib.hid (from_mask la oa)
    have HHF := Lib.hid (has_free la lb 24)
    have HGD := Lib.hid (runsL_good la oa)
    rw [← hEE] at HSEP HLR HGD
    rw [← hFF] at HHF
    clear hEE hFF HE HF
    go_wp2_with fail
    go_loopw [13] (fun i wi => SepRel E w22 i wi) (fun i _ => E.length - (intOf i).toNat)
    case atStart => exact ⟨1, by omega, .inr rfl, rfl, Still.refl _⟩
    case round =>
      obtain ⟨k, hk1, hk2, rfl, hst⟩ := hrel
      have hb := hst.below w22.heap.size
      have HST := Lib.hid hst
      clear hst
      have RA := Lib.hid (RA.out.below hb (Nat.le_refl _))
      have RB := Lib.hid (RB.out.below hb (Nat.le_refl _))
      have RR := Lib.hid (RR.out.below hb (Nat.le_refl _))
      have RF := Lib.hid (RF.out.below hb (Nat.le_refl _))
      have B := Lib.hid (B.out.trans (hb.mono B.out.size))
      clear hb
      by_cases hkE : k < E.length
      · obtain ⟨b7, o7, rfl, hl7, hc7⟩ := RR.out.get (by omega)
        have r0 := hc7 ((k - 1) * 2) (by omega)
        have r1 := hc7 ((k - 1) * 2 + 1) (by omega)
        have r2 := hc7 (k * 2) (by omega)
        rw [extCs_0 E (k - 1) (by omega)] at r0
        rw [extCs_1 E (k - 1) (by omega), ← Nat.add_assoc] at r1
        rw [extCs_0 E k hkE] at r2
        clear hc7
        have hsep := sep_at HSEP.out k hk1 hkE
        have hgd := (goodE_iff _).1 (HGD.out E[k - 1] (List.getElem_mem (by omega)))
        generalize E[k - 1].1 = f1 at *
        generalize E[k - 1].2 = c1 at *
        generalize E[k].1 = f2 at *
        have e0 : (k : Int) < (E.length : Int) := by omega
        have e1 : (0 : Int) ≤ (k : Int) := by omega
        have e2 : (0 : Int) ≤ (k : Int) - 1 := by omega
        have e3 : (k : Int) - 1 < (E.length : Int) := by omega
        have e4 : ((k : Int) - 1).toNat = k - 1 := by omega
        have d7 : decide (f2 ≤ f1 + c1) = false := decide_eq_false (by omega)
        have hw1 : wrap64 (f1 + c1) = f1 + c1 := IntWalk.wrap64_in _ (by omega)
        clear hsep hgd
        go_wp2_with fail
        go_quiet (fail)
        go_wp2_with fail
        go_roundw
        case rel => exact ⟨k + 1, by omega, .inl (by omega), by go_num, HST.out.trans ⟨_, rfl⟩⟩
        case measure => simp [intOf]; omega
      · clear HST hk1 hk2
        have e0 : decide ((k : Int) < (E.length : Int)) = false := decide_eq_false (by omega)
        go_wp2_with fail
        obtain ⟨wz, hwz⟩ : ∃ wz, wz = wr := ⟨_, rfl⟩
        rw [← hwz]
        rw [← hwz] at RA
        rw [← hwz] at RB
        rw [← hwz] at RR
        rw [← hwz] at RF
        rw [← hwz] at B
        clear hwz
        clear hkE e0
        generalize k = k9 at *
        go_loopw [14] (fun i wi => KRel wz i wi) (fun i _ => 24 - (intOf i).toNat)
        case atStart => exact ⟨0, by omega, rfl, rfl⟩
        case round =>
          obtain ⟨k, hk, rfl, hwz⟩ := hrel
          rw [hwz]
          clear hwz
          by_cases hk24 : k < 24
          · have e5 : (k : Int) < 24 := by omega
            have hhf := HHF.out k
            rw [decide_eq_true hk24, Bool.true_and] at hhf
            have HH := Lib.hid hhf
            clear hhf
            go_wp2_with fail
            go_loopw [15, 16] (fun x i wi => HasIn la (k : Int) (false) wz x i wi) (fun _ i _ => la.length - (intOf i).toNat)
            case atStart => exact ⟨0, by omega, by simp [hasL], rfl, rfl⟩
            case round =>
              obtain ⟨q, hq, rfl, rfl, hww⟩ := hrel
              rw [hww]
              clear hww
              by_cases hlta : q < la.length
              · obtain ⟨b9, o9, rfl, hl9, hc9⟩ := RA.out.get (by omega)
                have r9 := hc9 q (by omega)
                rw [ints_at la q hlta] at r9
                clear hc9
                have HT := Lib.hid (hasL_take' la (k : Int) q hlta)
                have e7 : (q : Int) < (la.length : Int) := by omega
                have e8 : (0 : Int) ≤ (q : Int) := by omega
                generalize la[q] = y at *
                cases hv : ((false) || hasL (la.take q) (k : Int)) with
                | true =>
                  go_wp2_with fail
                  go_roundw
                  case rel => exact ⟨q + 1, by omega, by rw [HT.out, ← Bool.or_assoc, hv]; rfl, by go_num, rfl⟩
                  case measure => simp [intOf]; omega
                | false =>
                  by_cases hyk : y = (k : Int)
                  · subst hyk
                    go_wp2_with fail
                    go_roundw
                    case rel => exact ⟨q + 1, by omega, by rw [HT.out, ← Bool.or_assoc, hv]; simp, by go_num, rfl⟩
                    case measure => simp [intOf]; omega
                  · have d7 : decide (y = (k : Int)) = false := decide_eq_false hyk
                    have d8 : (y == (k : Int)) = false := by simp; exact hyk
                    go_wp2_with fail
                    go_roundw
                    case rel => exact ⟨q + 1, by omega, by rw [HT.out, ← Bool.or_assoc, hv, d8]; rfl, by go_num, rfl⟩
                    case measure => simp [intOf]; omega
              · obtain rfl : q = la.length := by omega
                rw [List.take_length]
                rw [Bool.false_or]
                go_wp2_with fail
                go_loopw [15, 17] (fun x i wi => HasIn lb (k : Int) (hasL la (k : Int)) wz x i wi) (fun _ i _ => lb.length - (intOf i).toNat)
                case atStart => exact ⟨0, by omega, by simp [hasL], rfl, rfl⟩
                case round =>
                  obtain ⟨q, hq, rfl, rfl, hww⟩ := hrel
                  rw [hww]
                  clear hww
                  by_cases hltb : q < lb.length
                  · obtain ⟨b9, o9, rfl, hl9, hc9⟩ := RB.out.get (by omega)
                    have r9 := hc9 q (by omega)
                    rw [ints_at lb q hltb] at r9
                    clear hc9
                    have HT := Lib.hid (hasL_take' lb (k : Int) q hltb)
                    have e7 : (q : Int) < (lb.length : Int) := by omega
                    have e8 : (0 : Int) ≤ (q : Int) := by omega
                    generalize lb[q] = y at *
                    cases hv : ((hasL la (k : Int)) || hasL (lb.take q) (k : Int)) with
                    | true =>
                      go_wp2_with fail
                      go_roundw
                      case rel => exact ⟨q + 1, by omega, by rw [HT.out, ← Bool.or_assoc, hv]; rfl, by go_num, rfl⟩
                      case measure => simp [intOf]; omega
                    | false =>
                      by_cases hyk : y = (k : Int)
                      · subst hyk
                        go_wp2_with fail
                        go_roundw
                        case rel => exact ⟨q + 1, by omega, by rw [HT.out, ← Bool.or_assoc, hv]; simp, by go_num, rfl⟩
                        case measure => simp [intOf]; omega
                      · have d7 : decide (y = (k : Int)) = false := decide_eq_false hyk
                        have d8 : (y == (k : Int)) = false := by simp; exact hyk
                        go_wp2_with fail
                        go_roundw
                        case rel => exact ⟨q + 1, by omega, by rw [HT.out, ← Bool.or_assoc, hv, d8]; rfl, by go_num, rfl⟩
                        case measure => simp [intOf]; omega
                  · obtain rfl : q = lb.length := by omega
                    rw [List.take_length]
                    go_wp2_with fail
                    go_loopw [18, 19] (fun x i wi => HasIn F (k : Int) (false) wz x i wi) (fun _ i _ => F.length - (intOf i).toNat)
                    case atStart => exact ⟨0, by omega, by simp [hasL], rfl, rfl⟩
                    case round =>
                      obtain ⟨q, hq, rfl, rfl, hww⟩ := hrel
                      rw [hww]
                      clear hww
                      by_cases hltf : q < F.length
                      · obtain ⟨b9, o9, rfl, hl9, hc9⟩ := RF.out.get (by omega)
                        have r9 := hc9 q (by omega)
                        rw [ints_at F q hltf] at r9
                        clear hc9
                        have HT := Lib.hid (hasL_take' F (k : Int) q hltf)
                        have e7 : (q : Int) < (F.length : Int) := by omega
                        have e8 : (0 : Int) ≤ (q : Int) := by omega
                        generalize F[q] = y at *
                        cases hv : ((false) || hasL (F.take q) (k : Int)) with
                        | true =>
                          go_wp2_with fail
                          go_roundw
                          case rel => exact ⟨q + 1, by omega, by rw [HT.out, ← Bool.or_assoc, hv]; rfl, by go_num, rfl⟩
                          case measure => simp [intOf]; omega
                        | false =>
                          by_cases hyk : y = (k : Int)
                          · subst hyk
                            go_wp2_with fail
                            go_roundw
                            case rel => exact ⟨q + 1, by omega, by rw [HT.out, ← Bool.or_assoc, hv]; simp, by go_num, rfl⟩
                            case measure => simp [intOf]; omega
                          · have d7 : decide (y = (k : Int)) = false := decide_eq_false hyk
                            have d8 : (y == (k : Int)) = false := by simp; exact hyk
                            go_wp2_with fail
                            go_roundw
                            case rel => exact ⟨q + 1, by omega, by rw [HT.out, ← Bool.or_assoc, hv, d8]; rfl, by go_num, rfl⟩
                            case measure => simp [intOf]; omega
                      · obtain rfl : q = F.length := by omega
                        rw [List.take_length]
                        rw [Bool.false_or, HH.out]
                        generalize (hasL la (k : Int) || hasL lb (k : Int)) = vv at *
                        cases vv with
                        | true =>
                          go_wp2_with fail
                          go_roundw
                          case rel => exact ⟨k + 1, by omega, by go_num, rfl⟩
                          case measure => simp [intOf]; omega
                        | false =>
                          go_wp2_with fail
                          go_roundw
                          case rel => exact ⟨k + 1, by omega, by go_num, rfl⟩
                          case measure => simp [intOf]; omega
          · obtain rfl : k = 24 := by omega
            go_wp2_with fail
            have hc := implListOf _ E wz RR.out (by omega) (fit_good E HGD.out)
            rw [HLR.out] at hc
            refine (hc).mono ?_
            rintro e w81 ⟨v, rfl, ho, hb⟩
            simp only at ho
            obtain ⟨p5, q5, rfl⟩ := ho.form
            have g81 : wz.heap.size ≤ w81.heap.size := hb.size
            replace B := Lib.hid (B.out.trans (hb.mono B.out.size))
            replace RA := Lib.hid (RA.out.below hb (Nat.le_refl _))
            replace RB := Lib.hid (RB.out.below hb (Nat.le_refl _))
            replace RR := Lib.hid (RR.out.below hb (Nat.le_refl _))
            replace RF := Lib.hid (RF.out.below hb (Nat.le_refl _))
            have R5 := Lib.hid ho.own.rd
            clear ho hc
            have ff := field_out (.slice p5 la.length q5) 0 w81
            clear hb
            go_wp2_with fail
            clear ff
            refine (lwNums_any _ _ la w81 R5.out RA.out (by omega)).mono ?_
            rintro e w82 ⟨rfl, hst⟩
            have hb := hst.below w81.heap.size
            clear hst
            have g82 : w81.heap.size ≤ w82.heap.size := hb.size
            replace B := Lib.hid (B.out.trans (hb.mono B.out.size))
            replace RA := Lib.hid (RA.out.below hb (Nat.le_refl _))
            replace RB := Lib.hid (RB.out.below hb (Nat.le_refl _))
            replace RR := Lib.hid (RR.out.below hb (Nat.le_refl _))
            replace RF := Lib.hid (RF.out.below hb (Nat.le_refl _))
            replace R5 := Lib.hid (R5.out.below hb (Nat.le_refl _))
            clear hb
            clear R5
            go_wp2_with fail
            refine (implBitsOf _ la w82 RA.out (by omega)).mono ?_
            rintro e w83 ⟨rfl, hw⟩
            rw [hw]
            clear hw w83
            have hmb0 := maskL_ge la
            have hmb1 := maskL_lt la
            go_wp2_with fail
            have hc := implFromB (maskL la) w82 (by omega) (by omega)
            rw [HFM.out] at hc
            refine (hc).mono ?_
            rintro e w84 ⟨v, rfl, ho, hb⟩
            obtain ⟨p6, q6, rfl⟩ := ho.form
            have g84 : w82.heap.size ≤ w84.heap.size := hb.size
            replace B := Lib.hid (B.out.trans (hb.mono B.out.size))
            replace RA := Lib.hid (RA.out.below hb (Nat.le_refl _))
            replace RB := Lib.hid (RB.out.below hb (Nat.le_refl _))
            replace RR := Lib.hid (RR.out.below hb (Nat.le_refl _))
            replace RF := Lib.hid (RF.out.below hb (Nat.le_refl _))
            have R6 := Lib.hid ho.own.rd
            clear ho hc
            clear hb
            go_wp2_with fail
            refine (lwNums_any _ _ la w84 R6.out RA.out (by omega)).mono ?_
            rintro e w85 ⟨rfl, hst⟩
            have hb := hst.below w84.heap.size
            clear hst
            have g85 : w84.heap.size ≤ w85.heap.size := hb.size
            replace B := Lib.hid (B.out.trans (hb.mono B.out.size))
            replace RA := Lib.hid (RA.out.below hb (Nat.le_refl _))
            replace RB := Lib.hid (RB.out.below hb (Nat.le_refl _))
            replace RR := Lib.hid (RR.out.below hb (Nat.le_refl _))
            replace RF := Lib.hid (RF.out.below hb (Nat.le_refl _))
            replace R6 := Lib.hid (R6.out.below hb (Nat.le_refl _))
            clear hb
            go_wp2_with fail
            go_ret
            exact ⟨rfl, B.out⟩
  have d5 : decide ((0 : Int) ≤ n) = true := decide_eq_true (by omega)
  by_cases hn3 : n < 16777216
  · have d6 : decide (n < (16777216 : Int)) = true := decide_eq_true hn3
    have hmf := HMF.out (by omega) hn3
    have hok := fromB_len n
    go_wp2_with fail
    refine (implFromB n w20 hn0 hn1).mono ?_
    rintro e w21 ⟨v, rfl, ho, hb⟩
    obtain ⟨p8, q8, rfl⟩ := ho.form
    have g21 : w20.heap.size ≤ w21.heap.size := hb.size
    replace B := Lib.hid (B.out.trans (hb.mono B.out.size))
    replace RA := Lib.hid (RA.out.below hb (Nat.le_refl _))
    replace RB := Lib.hid (RB.out.below hb (Nat.le_refl _))
    replace RR := Lib.hid (RR.out.below hb (Nat.le_refl _))
    replace RF := Lib.hid (RF.out.below hb (Nat.le_refl _))
    have R8 := Lib.hid ho.own.rd
    clear ho
    clear hb
    go_wp2_with fail
    refine (implBitsOf _ (fromB n) w21 R8.out (by omega)).mono ?_
    rintro e w22 ⟨rfl, hw⟩
    rw [hw]
    clear hw w22
    rw [hmf]
    clear R8 hmf
    go_wp2_with fail
    refine (specRightL _ la w21 RA.out (by omega)).mono ?_
    rintro e w23 ⟨rfl, hst⟩
    have hb := hst.below w21.heap.size
    clear hst
    have g23 : w21.heap.size ≤ w23.heap.size := hb.size
    replace B := Lib.hid (B.out.trans (hb.mono B.out.size))
    replace RA := Lib.hid (RA.out.below hb (Nat.le_refl _))
    replace RB := Lib.hid (RB.out.below hb (Nat.le_refl _))
    replace RR := Lib.hid (RR.out.below hb (Nat.le_refl _))
    replace RF := Lib.hid (RF.out.below hb (Nat.le_refl _))
    clear hb
    cases oa : okL la with
    | false =>
      have hFz : F.length = 0 := by rw [HF.out]; unfold freeL; rw [oa]; rfl
      rw [hFz]
      go_wp2_with fail
      go_ret
      exact ⟨rfl, B.out⟩
    | true =>
    go_wp2_with fail
    refine (specRightL _ lb w23 RB.out (by omega)).mono ?_
    rintro e w24 ⟨rfl, hst⟩
    have hb := hst.below w23.heap.size
    clear hst
    have g24 : w23.heap.size ≤ w24.heap.size := hb.size
    replace B := Lib.hid (B.out.trans (hb.mono B.out.size))
    replace RA := Lib.hid (RA.out.below hb (Nat.le_refl _))
    replace RB := Lib.hid (RB.out.below hb (Nat.le_refl _))
    replace RR := Lib.hid (RR.out.below hb (Nat.le_refl _))
    replace RF := Lib.hid (RF.out.below hb (Nat.le_refl _))
    clear hb
    cases ob : okL lb with
    | false =>
      have hFz : F.length = 0 := by rw [HF.out]; unfold freeL; rw [oa, ob]; rfl
      rw [hFz]
      go_wp2_with fail
      go_ret
      exact ⟨rfl, B.out⟩
    | true =>
    have hEE : E = runsL la := by rw [HE.out]; exact extO_yes la oa
    have hFF : F = freeT la lb 24 := by rw [HF.out]; unfold freeL; rw [oa, ob]; rfl
    have HSEP := Lib.hid (show sepE (runsL la) from rT_sep la oa la.length (Nat.le_refl _))
    have HLR := Lib.hid (list_runs la oa)
    have HFM := Lib.hid (from_mask la oa)
    have HHF := Lib.hid (has_free la lb 24)
    have HGD := Lib.hid (runsL_good la oa)
    rw [← hEE] at HSEP HLR HGD
    rw [← hFF] at HHF
    clear hEE hFF HE HF
    go_wp2_with fail
    go_loopw [13] (fun i wi => SepRel E w24 i wi) (fun i _ => E.length - (intOf i).toNat)
    case atStart => exact ⟨1, by omega, .inr rfl, rfl, Still.refl _⟩
    case round =>
      obtain ⟨k, hk1, hk2, rfl, hst⟩ := hrel
      have hb := hst.below w24.heap.size
      have HST := Lib.hid hst
      clear hst
      have RA := Lib.hid (RA.out.below hb (Nat.le_refl _))
      have RB := Lib.hid (RB.out.below hb (Nat.le_refl _))
      have RR := Lib.hid (RR.out.below hb (Nat.le_refl _))
      have RF := Lib.hid (RF.out.below hb (Nat.le_refl _))
      have B := Lib.hid (B.out.trans (hb.mono B.out.size))
      clear hb
      by_cases hkE : k < E.length
      · obtain ⟨b7, o7, rfl, hl7, hc7⟩ := RR.out.get (by omega)
        have r0 := hc7 ((k - 1) * 2) (by omega)
        have r1 := hc7 ((k - 1) * 2 + 1) (by omega)
        have r2 := hc7 (k * 2) (by omega)
        rw [extCs_0 E (k - 1) (by omega)] at r0
        rw [extCs_1 E (k - 1) (by omega), ← Nat.add_assoc] at r1
        rw [extCs_0 E k hkE] at r2
        clear hc7
        have hsep := sep_at HSEP.out k hk1 hkE
        have hgd := (goodE_iff _).1 (HGD.out E[k - 1] (List.getElem_mem (by omega)))
        generalize E[k - 1].1 = f1 at *
        generalize E[k - 1].2 = c1 at *
        generalize E[k].1 = f2 at *
        have e0 : (k : Int) < (E.length : Int) := by omega
        have e1 : (0 : Int) ≤ (k : Int) := by omega
        have e2 : (0 : Int) ≤ (k : Int) - 1 := by omega
        have e3 : (k : Int) - 1 < (E.length : Int) := by omega
        have e4 : ((k : Int) - 1).toNat = k - 1 := by omega
        have d7 : decide (f2 ≤ f1 + c1) = false := decide_eq_false (by omega)
        have hw1 : wrap64 (f1 + c1) = f1 + c1 := IntWalk.wrap64_in _ (by omega)
        clear hsep hgd
        go_wp2_with fail
        go_quiet (fail)
        go_wp2_with fail
        go_roundw
        case rel => exact ⟨k + 1, by omega, .inl (by omega), by go_num, HST.out.trans ⟨_, rfl⟩⟩
        case measure => simp [intOf]; omega
      · clear HST hk1 hk2
        have e0 : decide ((k : Int) < (E.length : Int)) = false := decide_eq_false (by omega)
        go_wp2_with fail
        obtain ⟨wz, hwz⟩ : ∃ wz, wz = wr := ⟨_, rfl⟩
        rw [← hwz]
        rw [← hwz] at RA
        rw [← hwz] at RB
        rw [← hwz] at RR
        rw [← hwz] at RF
        rw [← hwz] at B
        clear hwz
        clear hkE e0
        generalize k = k9 at *
        go_loopw [14] (fun i wi => KRel wz i wi) (fun i _ => 24 - (intOf i).toNat)
        case atStart => exact ⟨0, by omega, rfl, rfl⟩
        case round =>
          obtain ⟨k, hk, rfl, hwz⟩ := hrel
          rw [hwz]
          clear hwz
          by_cases hk24 : k < 24
          · have e5 : (k : Int) < 24 := by omega
            have hhf := HHF.out k
            rw [decide_eq_true hk24, Bool.true_and] at hhf
            have HH := Lib.hid hhf
            clear hhf
            go_wp2_with fail
            go_loopw [15, 16] (fun x i wi => HasIn la (k : Int) (false) wz x i wi) (fun _ i _ => la.length - (intOf i).toNat)
            case atStart => exact ⟨0, by omega, by simp [hasL], rfl, rfl⟩
            case round =>
              obtain ⟨q, hq, rfl, rfl, hww⟩ := hrel
              rw [hww]
              clear hww
              by_cases hlta : q < la.length
              · obtain ⟨b9, o9, rfl, hl9, hc9⟩ := RA.out.get (by omega)
                have r9 := hc9 q (by omega)
                rw [ints_at la q hlta] at r9
                clear hc9
                have HT := Lib.hid (hasL_take' la (k : Int) q hlta)
                have e7 : (q : Int) < (la.length : Int) := by omega
                have e8 : (0 : Int) ≤ (q : Int) := by omega
                generalize la[q] = y at *
                cases hv : ((false) || hasL (la.take q) (k : Int)) with
                | true =>
                  go_wp2_with fail
                  go_roundw
                  case rel => exact ⟨q + 1, by omega, by rw [HT.out, ← Bool.or_assoc, hv]; rfl, by go_num, rfl⟩
                  case measure => simp [intOf]; omega
                | false =>
                  by_cases hyk : y = (k : Int)
                  · subst hyk
                    go_wp2_with fail
                    go_roundw
                    case rel => exact ⟨q + 1, by omega, by rw [HT.out, ← Bool.or_assoc, hv]; simp, by go_num, rfl⟩
                    case measure => simp [intOf]; omega
                  · have d7 : decide (y = (k : Int)) = false := decide_eq_false hyk
                    have d8 : (y == (k : Int)) = false := by simp; exact hyk
                    go_wp2_with fail
                    go_roundw
                    case rel => exact ⟨q + 1, by omega, by rw [HT.out, ← Bool.or_assoc, hv, d8]; rfl, by go_num, rfl⟩
                    case measure => simp [intOf]; omega
              · obtain rfl : q = la.length := by omega
                rw [List.take_length]
                rw [Bool.false_or]
                go_wp2_with fail
                go_loopw [15, 17] (fun x i wi => HasIn lb (k : Int) (hasL la (k : Int)) wz x i wi) (fun _ i _ => lb.length - (intOf i).toNat)
                case atStart => exact ⟨0, by omega, by simp [hasL], rfl, rfl⟩
                case round =>
                  obtain ⟨q, hq, rfl, rfl, hww⟩ := hrel
                  rw [hww]
                  clear hww
                  by_cases hltb : q < lb.length
                  · obtain ⟨b9, o9, rfl, hl9, hc9⟩ := RB.out.get (by omega)
                    have r9 := hc9 q (by omega)
                    rw [ints_at lb q hltb] at r9
                    clear hc9
                    have HT := Lib.hid (hasL_take' lb (k : Int) q hltb)
                    have e7 : (q : Int) < (lb.length : Int) := by omega
                    have e8 : (0 : Int) ≤ (q : Int) := by omega
                    generalize lb[q] = y at *
                    cases hv : ((hasL la (k : Int)) || hasL (lb.take q) (k : Int)) with
                    | true =>
                      go_wp2_with fail
                      go_roundw
                      case rel => exact ⟨q + 1, by omega, by rw [HT.out, ← Bool.or_assoc, hv]; rfl, by go_num, rfl⟩
                      case measure => simp [intOf]; omega
                    | false =>
                      by_cases hyk : y = (k : Int)
                      · subst hyk
                        go_wp2_with fail
                        go_roundw
                        case rel => exact ⟨q + 1, by omega, by rw [HT.out, ← Bool.or_assoc, hv]; simp, by go_num, rfl⟩
                        case measure => simp [intOf]; omega
                      · have d7 : decide (y = (k : Int)) = false := decide_eq_false hyk
                        have d8 : (y == (k : Int)) = false := by simp; exact hyk
                        go_wp2_with fail
                        go_roundw
                        case rel => exact ⟨q + 1, by omega, by rw [HT.out, ← Bool.or_assoc, hv, d8]; rfl, by go_num, rfl⟩
                        case measure => simp [intOf]; omega
                  · obtain rfl : q = lb.length := by omega
                    rw [List.take_length]
                    go_wp2_with fail
                    go_loopw [18, 19] (fun x i wi => HasIn F (k : Int) (false) wz x i wi) (fun _ i _ => F.length - (intOf i).toNat)
                    case atStart => exact ⟨0, by omega, by simp [hasL], rfl, rfl⟩
                    case round =>
                      obtain ⟨q, hq, rfl, rfl, hww⟩ := hrel
                      rw [hww]
                      clear hww
                      by_cases hltf : q < F.length
                      · obtain ⟨b9, o9, rfl, hl9, hc9⟩ := RF.out.get (by omega)
                        have r9 := hc9 q (by omega)
                        rw [ints_at F q hltf] at r9
                        clear hc9
                        have HT := Lib.hid (hasL_take' F (k : Int) q hltf)
                        have e7 : (q : Int) < (F.length : Int) := by omega
                        have e8 : (0 : Int) ≤ (q : Int) := by omega
                        generalize F[q] = y at *
                        cases hv : ((false) || hasL (F.take q) (k : Int)) with
                        | true =>
                          go_wp2_with fail
                          go_roundw
                          case rel => exact ⟨q + 1, by omega, by rw [HT.out, ← Bool.or_assoc, hv]; rfl, by go_num, rfl⟩
                          case measure => simp [intOf]; omega
                        | false =>
                          by_cases hyk : y = (k : Int)
                          · subst hyk
                            go_wp2_with fail
                            go_roundw
                            case rel => exact ⟨q + 1, by omega, by rw [HT.out, ← Bool.or_assoc, hv]; simp, by go_num, rfl⟩
                            case measure => simp [intOf]; omega
                          · have d7 : decide (y = (k : Int)) = false := decide_eq_false hyk
                            have d8 : (y == (k : Int)) = false := by simp; exact hyk
                            go_wp2_with fail
                            go_roundw
                            case rel => exact ⟨q + 1, by omega, by rw [HT.out, ← Bool.or_assoc, hv, d8]; rfl, by go_num, rfl⟩
                            case measure => simp [intOf]; omega
                      · obtain rfl : q = F.length := by omega
                        rw [List.take_length]
                        rw [Bool.false_or, HH.out]
                        generalize (hasL la (k : Int) || hasL lb (k : Int)) = vv at *
                        cases vv with
                        | true =>
                          go_wp2_with fail
                          go_roundw
                          case rel => exact ⟨k + 1, by omega, by go_num, rfl⟩
                          case measure => simp [intOf]; omega
                        | false =>
                          go_wp2_with fail
                          go_roundw
                          case rel => exact ⟨k + 1, by omega, by go_num, rfl⟩
                          case measure => simp [intOf]; omega
          · obtain rfl : k = 24 := by omega
            go_wp2_with fail
            have hc := implListOf _ E wz RR.out (by omega) (fit_good E HGD.out)
            rw [HLR.out] at hc
            refine (hc).mono ?_
            rintro e w81 ⟨v, rfl, ho, hb⟩
            simp only at ho
            obtain ⟨p5, q5, rfl⟩ := ho.form
            have g81 : wz.heap.size ≤ w81.heap.size := hb.size
            replace B := Lib.hid (B.out.trans (hb.mono B.out.size))
            replace RA := Lib.hid (RA.out.below hb (Nat.le_refl _))
            replace RB := Lib.hid (RB.out.below hb (Nat.le_refl _))
            replace RR := Lib.hid (RR.out.below hb (Nat.le_refl _))
            replace RF := Lib.hid (RF.out.below hb (Nat.le_refl _))
            have R5 := Lib.hid ho.own.rd
            clear ho hc
            have ff := field_out (.slice p5 la.length q5) 0 w81
            clear hb
            go_wp2_with fail
            clear ff
            refine (lwNums_any _ _ la w81 R5.out RA.out (by omega)).mono ?_
            rintro e w82 ⟨rfl, hst⟩
            have hb := hst.below w81.heap.size
            clear hst
            have g82 : w81.heap.size ≤ w82.heap.size := hb.size
            replace B := Lib.hid (B.out.trans (hb.mono B.out.size))
            replace RA := Lib.hid (RA.out.below hb (Nat.le_refl _))
            replace RB := Lib.hid (RB.out.below hb (Nat.le_refl _))
            replace RR := Lib.hid (RR.out.below hb (Nat.le_refl _))
            replace RF := Lib.hid (RF.out.below hb (Nat.le_refl _))
            replace R5 := Lib.hid (R5.out.below hb (Nat.le_refl _))
            clear hb
            clear R5
            go_wp2_with fail
            refine (implBitsOf _ la w82 RA.out (by omega)).mono ?_
            rintro e w83 ⟨rfl, hw⟩
            rw [hw]
            clear hw w83
            have hmb0 := maskL_ge la
            have hmb1 := maskL_lt la
            go_wp2_with fail
            have hc := implFromB (maskL la) w82 (by omega) (by omega)
            rw [HFM.out] at hc
            refine (hc).mono ?_
            rintro e w84 ⟨v, rfl, ho, hb⟩
            obtain ⟨p6, q6, rfl⟩ := ho.form
            have g84 : w82.heap.size ≤ w84.heap.size := hb.size
            replace B := Lib.hid (B.out.trans (hb.mono B.out.size))
            replace RA := Lib.hid (RA.out.below hb (Nat.le_refl _))
            replace RB := Lib.hid (RB.out.below hb (Nat.le_refl _))
            replace RR := Lib.hid (RR.out.below hb (Nat.le_refl _))
            replace RF := Lib.hid (RF.out.below hb (Nat.le_refl _))
            have R6 := Lib.hid ho.own.rd
            clear ho hc
            clear hb
            go_wp2_with fail
            refine (lwNums_any _ _ la w84 R6.out RA.out (by omega)).mono ?_
            rintro e w85 ⟨rfl, hst⟩
            have hb := hst.below w84.heap.size
            clear hst
            have g85 : w84.heap.size ≤ w85.heap.size := hb.size
            replace B := Lib.hid (B.out.trans (hb.mono B.out.size))
            replace RA := Lib.hid (RA.out.below hb (Nat.le_refl _))
            replace RB := Lib.hid (RB.out.below hb (Nat.le_refl _))
            replace RR := Lib.hid (RR.out.below hb (Nat.le_refl _))
            replace RF := Lib.hid (RF.out.below hb (Nat.le_refl _))
            replace R6 := Lib.hid (R6.out.below hb (Nat.le_refl _))
            clear hb
            go_wp2_with fail
            go_ret
            exact ⟨rfl, B.out⟩
  have d6 : decide (n < (16777216 : Int)) = false := decide_eq_false hn3
  go_wp2_with fail
  refine (specRightL _ la w20 RA.out (by omega)).mono ?_
  rintro e w21 ⟨rfl, hst⟩
  have hb := hst.below w20.heap.size
  clear hst
  have g21 : w20.heap.size ≤ w21.heap.size := hb.size
  replace B := Lib.hid (B.out.trans (hb.mono B.out.size))
  replace RA := Lib.hid (RA.out.below hb (Nat.le_refl _))
  replace RB := Lib.hid (RB.out.below hb (Nat.le_refl _))
  replace RR := Lib.hid (RR.out.below hb (Nat.le_refl _))
  replace RF := Lib.hid (RF.out.below hb (Nat.le_refl _))
  clear hb
  cases oa : okL la with
  | false =>
    have hFz : F.length = 0 := by rw [HF.out]; unfold freeL; rw [oa]; rfl
    rw [hFz]
    go_wp2_with fail
    go_ret
    exact ⟨rfl, B.out⟩
  | true =>
  go_wp2_with fail
  refine (specRightL _ lb w21 RB.out (by omega)).mono ?_
  rintro e w22 ⟨rfl, hst⟩
  have hb := hst.below w21.heap.size
  clear hst
  have g22 : w21.heap.size ≤ w22.heap.size := hb.size
  replace B := Lib.hid (B.out.trans (hb.mono B.out.size))
  replace RA := Lib.hid (RA.out.below hb (Nat.le_refl _))
  replace RB := Lib.hid (RB.out.below hb (Nat.le_refl _))
  replace RR := Lib.hid (RR.out.below hb (Nat.le_refl _))
  replace RF := Lib.hid (RF.out.below hb (Nat.le_refl _))
  clear hb
  cases ob : okL lb with
  | false =>
    have hFz : F.length = 0 := by rw [HF.out]; unfold freeL; rw [oa, ob]; rfl
    rw [hFz]
    go_wp2_with fail
    go_ret
    exact ⟨rfl, B.out⟩
  | true =>
  have hEE : E = runsL la := by rw [HE.out]; exact extO_yes la oa
  have hFF : F = freeT la lb 24 := by rw [HF.out]; unfold freeL; rw [oa, ob]; rfl
  have HSEP := Lib.hid (show sepE (runsL la) from rT_sep la oa la.length (Nat.le_refl _))
  have HLR := Lib.hid (list_runs la oa)
  have HFM := Lib.hid (from_mask la oa)
  have HHF := Lib.hid (has_free la lb 24)
  have HGD := Lib.hid (runsL_good la oa)
  rw [← hEE] at HSEP HLR HGD
  rw [← hFF] at HHF
  clear hEE hFF HE HF
  go_wp2_with fail
  go_loopw [13] (fun i wi => SepRel E w22 i wi) (fun i _ => E.length - (intOf i).toNat)
  case atStart => exact ⟨1, by omega, .inr rfl, rfl, Still.refl _⟩
  case round =>
    obtain ⟨k, hk1, hk2, rfl, hst⟩ := hrel
    have hb := hst.below w22.heap.size
    have HST := Lib.hid hst
    clear hst
    have RA := Lib.hid (RA.out.below hb (Nat.le_refl _))
    have RB := Lib.hid (RB.out.below hb (Nat.le_refl _))
    have RR := Lib.hid (RR.out.below hb (Nat.le_refl _))
    have RF := Lib.hid (RF.out.below hb (Nat.le_refl _))
    have B := Lib.hid (B.out.trans (hb.mono B.out.size))
    clear hb
    by_cases hkE : k < E.length
    · obtain ⟨b7, o7, rfl, hl7, hc7⟩ := RR.out.get (by omega)
      have r0 := hc7 ((k - 1) * 2) (by omega)
      have r1 := hc7 ((k - 1) * 2 + 1) (by omega)
      have r2 := hc7 (k * 2) (by omega)
      rw [extCs_0 E (k - 1) (by omega)] at r0
      rw [extCs_1 E (k - 1) (by omega), ← Nat.add_assoc] at r1
      rw [extCs_0 E k hkE] at r2
      clear hc7
      have hsep := sep_at HSEP.out k hk1 hkE
      have hgd := (goodE_iff _).1 (HGD.out E[k - 1] (List.getElem_mem (by omega)))
      generalize E[k - 1].1 = f1 at *
      generalize E[k - 1].2 = c1 at *
      generalize E[k].1 = f2 at *
      have e0 : (k : Int) < (E.length : Int) := by omega
      have e1 : (0 : Int) ≤ (k : Int) := by omega
      have e2 : (0 : Int) ≤ (k : Int) - 1 := by omega
      have e3 : (k : Int) - 1 < (E.length : Int) := by omega
      have e4 : ((k : Int) - 1).toNat = k - 1 := by omega
      have d7 : decide (f2 ≤ f1 + c1) = false := decide_eq_false (by omega)
      have hw1 : wrap64 (f1 + c1) = f1 + c1 := IntWalk.wrap64_in _ (by omega)
      clear hsep hgd
      go_wp2_with fail
      go_quiet (fail)
      go_wp2_with fail
      go_roundw
      case rel => exact ⟨k + 1, by omega, .inl (by omega), by go_num, HST.out.trans ⟨_, rfl⟩⟩
      case measure => simp [intOf]; omega
    · clear HST hk1 hk2
      have e0 : decide ((k : Int) < (E.length : Int)) = false := decide_eq_false (by omega)
      go_wp2_with fail
      obtain ⟨wz, hwz⟩ : ∃ wz, wz = wr := ⟨_, rfl⟩
      rw [← hwz]
      rw [← hwz] at RA
      rw [← hwz] at RB
      rw [← hwz] at RR
      rw [← hwz] at RF
      rw [← hwz] at B
      clear hwz
      clear hkE e0
      generalize k = k9 at *
      go_loopw [14] (fun i wi => KRel wz i wi) (fun i _ => 24 - (intOf i).toNat)
      case atStart => exact ⟨0, by omega, rfl, rfl⟩
      case round =>
        obtain ⟨k, hk, rfl, hwz⟩ := hrel
        rw [hwz]
        clear hwz
        by_cases hk24 : k < 24
        · have e5 : (k : Int) < 24 := by omega
          have hhf := HHF.out k
          rw [decide_eq_true hk24, Bool.true_and] at hhf
          have HH := Lib.hid hhf
          clear hhf
          go_wp2_with fail
          go_loopw [15, 16] (fun x i wi => HasIn la (k : Int) (false) wz x i wi) (fun _ i _ => la.length - (intOf i).toNat)
          case atStart => exact ⟨0, by omega, by simp [hasL], rfl, rfl⟩
          case round =>
            obtain ⟨q, hq, rfl, rfl, hww⟩ := hrel
            rw [hww]
            clear hww
            by_cases hlta : q < la.length
            · obtain ⟨b9, o9, rfl, hl9, hc9⟩ := RA.out.get (by omega)
              have r9 := hc9 q (by omega)
              rw [ints_at la q hlta] at r9
              clear hc9
              have HT := Lib.hid (hasL_take' la (k : Int) q hlta)
              have e7 : (q : Int) < (la.length : Int) := by omega
              have e8 : (0 : Int) ≤ (q : Int) := by omega
              generalize la[q] = y at *
              cases hv : ((false) || hasL (la.take q) (k : Int)) with
              | true =>
                go_wp2_with fail
                go_roundw
                case rel => exact ⟨q + 1, by omega, by rw [HT.out, ← Bool.or_assoc, hv]; rfl, by go_num, rfl⟩
                case measure => simp [intOf]; omega
              | false =>
                by_cases hyk : y = (k : Int)
                · subst hyk
                  go_wp2_with fail
                  go_roundw
                  case rel => exact ⟨q + 1, by omega, by rw [HT.out, ← Bool.or_assoc, hv]; simp, by go_num, rfl⟩
                  case measure => simp [intOf]; omega
                · have d7 : decide (y = (k : Int)) = false := decide_eq_false hyk
                  have d8 : (y == (k : Int)) = false := by simp; exact hyk
                  go_wp2_with fail
                  go_roundw
                  case rel => exact ⟨q + 1, by omega, by rw [HT.out, ← Bool.or_assoc, hv, d8]; rfl, by go_num, rfl⟩
                  case measure => simp [intOf]; omega
            · obtain rfl : q = la.length := by omega
              rw [List.take_length]
              rw [Bool.false_or]
              go_wp2_with fail
              go_loopw [15, 17] (fun x i wi => HasIn lb (k : Int) (hasL la (k : Int)) wz x i wi) (fun _ i _ => lb.length - (intOf i).toNat)
              case atStart => exact ⟨0, by omega, by simp [hasL], rfl, rfl⟩
              case round =>
                obtain ⟨q, hq, rfl, rfl, hww⟩ := hrel
                rw [hww]
                clear hww
                by_cases hltb : q < lb.length
                · obtain ⟨b9, o9, rfl, hl9, hc9⟩ := RB.out.get (by omega)
                  have r9 := hc9 q (by omega)
                  rw [ints_at lb q hltb] at r9
                  clear hc9
                  have HT := Lib.hid (hasL_take' lb (k : Int) q hltb)
                  have e7 : (q : Int) < (lb.length : Int) := by omega
                  have e8 : (0 : Int) ≤ (q : Int) := by omega
                  generalize lb[q] = y at *
                  cases hv : ((hasL la (k : Int)) || hasL (lb.take q) (k : Int)) with
                  | true =>
                    go_wp2_with fail
                    go_roundw
                    case rel => exact ⟨q + 1, by omega, by rw [HT.out, ← Bool.or_assoc, hv]; rfl, by go_num, rfl⟩
                    case measure => simp [intOf]; omega
                  | false =>
                    by_cases hyk : y = (k : Int)
                    · subst hyk
                      go_wp2_with fail
                      go_roundw
                      case rel => exact ⟨q + 1, by omega, by rw [HT.out, ← Bool.or_assoc, hv]; simp, by go_num, rfl⟩
                      case measure => simp [intOf]; omega
                    · have d7 : decide (y = (k : Int)) = false := decide_eq_false hyk
                      have d8 : (y == (k : Int)) = false := by simp; exact hyk
                      go_wp2_with fail
                      go_roundw
                      case rel => exact ⟨q + 1, by omega, by rw [HT.out, ← Bool.or_assoc, hv, d8]; rfl, by go_num, rfl⟩
                      case measure => simp [intOf]; omega
                · obtain rfl : q = lb.length := by omega
                  rw [List.take_length]
                  go_wp2_with fail
                  go_loopw [18, 19] (fun x i wi => HasIn F (k : Int) (false) wz x i wi) (fun _ i _ => F.length - (intOf i).toNat)
                  case atStart => exact ⟨0, by omega, by simp [hasL], rfl, rfl⟩
                  case round =>
                    obtain ⟨q, hq, rfl, rfl, hww⟩ := hrel
                    rw [hww]
                    clear hww
                    by_cases hltf : q < F.length
                    · obtain ⟨b9, o9, rfl, hl9, hc9⟩ := RF.out.get (by omega)
                      have r9 := hc9 q (by omega)
                      rw [ints_at F q hltf] at r9
                      clear hc9
                      have HT := Lib.hid (hasL_take' F (k : Int) q hltf)
                      have e7 : (q : Int) < (F.length : Int) := by omega
                      have e8 : (0 : Int) ≤ (q : Int) := by omega
                      generalize F[q] = y at *
                      cases hv : ((false) || hasL (F.take q) (k : Int)) with
                      | true =>
                        go_wp2_with fail
                        go_roundw
                        case rel => exact ⟨q + 1, by omega, by rw [HT.out, ← Bool.or_assoc, hv]; rfl, by go_num, rfl⟩
                        case measure => simp [intOf]; omega
                      | false =>
                        by_cases hyk : y = (k : Int)
                        · subst hyk
                          go_wp2_with fail
                          go_roundw
                          case rel => exact ⟨q + 1, by omega, by rw [HT.out, ← Bool.or_assoc, hv]; simp, by go_num, rfl⟩
                          case measure => simp [intOf]; omega
                        · have d7 : decide (y = (k : Int)) = false := decide_eq_false hyk
                          have d8 : (y == (k : Int)) = false := by simp; exact hyk
                          go_wp2_with fail
                          go_roundw
                          case rel => exact ⟨q + 1, by omega, by rw [HT.out, ← Bool.or_assoc, hv, d8]; rfl, by go_num, rfl⟩
                          case measure => simp [intOf]; omega
                    · obtain rfl : q = F.length := by omega
                      rw [List.take_length]
                      rw [Bool.false_or, HH.out]
                      generalize (hasL la (k : Int) || hasL lb (k : Int)) = vv at *
                      cases vv with
                      | true =>
                        go_wp2_with fail
                        go_roundw
                        case rel => exact ⟨k + 1, by omega, by go_num, rfl⟩
                        case measure => simp [intOf]; omega
                      | false =>
                        go_wp2_with fail
                        go_roundw
                        case rel => exact ⟨k + 1, by omega, by go_num, rfl⟩
                        case measure => simp [intOf]; omega
        · obtain rfl : k = 24 := by omega
          go_wp2_with fail
          have hc := implListOf _ E wz RR.out (by omega) (fit_good E HGD.out)
          rw [HLR.out] at hc
          refine (hc).mono ?_
          rintro e w81 ⟨v, rfl, ho, hb⟩
          simp only at ho
          obtain ⟨p5, q5, rfl⟩ := ho.form
          have g81 : wz.heap.size ≤ w81.heap.size := hb.size
          replace B := Lib.hid (B.out.trans (hb.mono B.out.size))
          replace RA := Lib.hid (RA.out.below hb (Nat.le_refl _))
          replace RB := Lib.hid (RB.out.below hb (Nat.le_refl _))
          replace RR := Lib.hid (RR.out.below hb (Nat.le_refl _))
          replace RF := Lib.hid (RF.out.below hb (Nat.le_refl _))
          have R5 := Lib.hid ho.own.rd
          clear ho hc
          have ff := field_out (.slice p5 la.length q5) 0 w81
          clear hb
          go_wp2_with fail
          clear ff
          refine (lwNums_any _ _ la w81 R5.out RA.out (by omega)).mono ?_
          rintro e w82 ⟨rfl, hst⟩
          have hb := hst.below w81.heap.size
          clear hst
          have g82 : w81.heap.size ≤ w82.heap.size := hb.size
          replace B := Lib.hid (B.out.trans (hb.mono B.out.size))
          replace RA := Lib.hid (RA.out.below hb (Nat.le_refl _))
          replace RB := Lib.hid (RB.out.below hb (Nat.le_refl _))
          replace RR := Lib.hid (RR.out.below hb (Nat.le_refl _))
          replace RF := Lib.hid (RF.out.below hb (Nat.le_refl _))
          replace R5 := Lib.hid (R5.out.below hb (Nat.le_refl _))
          clear hb
          clear R5
          go_wp2_with fail
          refine (implBitsOf _ la w82 RA.out (by omega)).mono ?_
          rintro e w83 ⟨rfl, hw⟩
          rw [hw]
          clear hw w83
          have hmb0 := maskL_ge la
          have hmb1 := maskL_lt la
          go_wp2_with fail
          have hc := implFromB (maskL la) w82 (by omega) (by omega)
          rw [HFM.out] at hc
          refine (hc).mono ?_
          rintro e w84 ⟨v, rfl, ho, hb⟩
          obtain ⟨p6, q6, rfl⟩ := ho.form
          have g84 : w82.heap.size ≤ w84.heap.size := hb.size
          replace B := Lib.hid (B.out.trans (hb.mono B.out.size))
          replace RA := Lib.hid (RA.out.below hb (Nat.le_refl _))
          replace RB := Lib.hid (RB.out.below hb (Nat.le_refl _))
          replace RR := Lib.hid (RR.out.below hb (Nat.le_refl _))
          replace RF := Lib.hid (RF.out.below hb (Nat.le_refl _))
          have R6 := Lib.hid ho.own.rd
          clear ho hc
          clear hb
          go_wp2_with fail
          refine (lwNums_any _ _ la w84 R6.out RA.out (by omega)).mono ?_
          rintro e w85 ⟨rfl, hst⟩
          have hb := hst.below w84.heap.size
          clear hst
          have g85 : w84.heap.size ≤ w85.heap.size := hb.size
          replace B := Lib.hid (B.out.trans (hb.mono B.out.size))
          replace RA := Lib.hid (RA.out.below hb (Nat.le_refl _))
          replace RB := Lib.hid (RB.out.below hb (Nat.le_refl _))
          replace RR := Lib.hid (RR.out.below hb (Nat.le_refl _))
          replace RF := Lib.hid (RF.out.below hb (Nat.le_refl _))
          replace R6 := Lib.hid (R6.out.below hb (Nat.le_refl _))
          clear hb
          go_wp2_with fail
          go_ret
          exact ⟨rfl, B.out⟩
end Go.Proofs.Ytmhmjofmafeidaa
