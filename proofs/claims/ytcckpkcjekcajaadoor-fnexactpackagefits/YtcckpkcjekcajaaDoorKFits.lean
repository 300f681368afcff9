/- PackageFits: the specification's and the program's. -/
import Derived.Test.YtcckpkcjekcajaaDoorCDig
import Derived.Test.YtcckpkcjekcajaaDoorKIAp
import Derived.Test.YtcckpkcjekcajaaDoorCSIa
import Derived.Test.YtcckpkcjekcajaaDoorKR
namespace Go.Proofs.YtcckpkcjekcajaaDoor
open Go.RowKit

/-- What PackageFits answers. -/
noncomputable def fitS (p : pkT) (old : List ByteArray) : Int :=
  if pkB p = true ∧ imgB old = true then (if (old.length : Int) = p.1 then (if imgDig (applyL old p.2.2) = p.2.1 then 0 else 5) else 8) else 1
theorem fit_no {p : pkT} {old : List ByteArray} (h : ¬ (pkB p = true ∧ imgB old = true)) : fitS p old = 1 := by unfold fitS; rw [if_neg h]
theorem fit_len {p : pkT} {old : List ByteArray} (h : pkB p = true ∧ imgB old = true) (hl : ¬ (old.length : Int) = p.1) : fitS p old = 8 := by unfold fitS; rw [if_pos h, if_neg hl]
theorem fit_sum {p : pkT} {old : List ByteArray} (h : pkB p = true ∧ imgB old = true) (hl : (old.length : Int) = p.1) (hd : ¬ imgDig (applyL old p.2.2) = p.2.1) : fitS p old = 5 := by unfold fitS; rw [if_pos h, if_pos hl, if_neg hd]
theorem fit_ok {p : pkT} {old : List ByteArray} (h : pkB p = true ∧ imgB old = true) (hl : (old.length : Int) = p.1) (hd : imgDig (applyL old p.2.2) = p.2.1) : fitS p old = 0 := by unfold fitS; rw [if_pos h, if_pos hl, if_pos hd]
theorem toList_injF {a b : ByteArray} (h : (a.toList == b.toList) = true) : a = b := by
  have h := eq_of_beq h
  rw [Lib.toList_data, Lib.toList_data] at h
  exact ByteArray.ext (Array.toList_inj.1 h)
theorem listNe {a b : ByteArray} (h : ¬ a = b) : (a.toList != b.toList) = true := by
  cases hc : (a.toList == b.toList) with
  | false => simp [bne, hc]
  | true => exact absurd (toList_injF hc) h

set_option maxRecDepth 100000 in
set_option maxHeartbeats 2000000 in
theorem specFits (p : pkT) (v u : Value) (old : List ByteArray) (w : World) (h : Rd w v p.2.2.length 4 (stpCs p.2.2)) (hu : Rd w u old.length 1 (strs old)) (hn : p.2.2.length ≤ 1048576) (hm : old.length ≤ 1048576) :
    Calls Tryd.prog 22 #[pkV p.1 p.2.1 v, u] w fun e w' => e = .returned (.int .i64 (fitS p old)) ∧ Below w.heap.size w w' := by
  obtain ⟨a, c, rfl, -⟩ := id h.2
  obtain ⟨a', c', rfl, -⟩ := id hu.2
  obtain ⟨R, hR⟩ : ∃ R, R = fitS p old := ⟨_, rfl⟩
  rw [← hR]
  have HR := Lib.hid hR
  have HV := Lib.hid h
  have HU := Lib.hid hu
  clear hR h hu
  obtain ⟨PB, hPB2⟩ : ∃ PB, PB = pkB p := ⟨_, rfl⟩
  have HPR := Lib.hid (show ∀ w, Rd w (.slice a p.2.2.length c) p.2.2.length 4 (stpCs p.2.2) → Calls Tryd.prog 59 #[pkV p.1 p.2.1 (.slice a p.2.2.length c)] w fun e w' => e = .returned (.bool PB) ∧ Below w.heap.size w w' from fun w h => by rw [hPB2]; exact specPkRight p.1 p.2.1 (.slice a p.2.2.length c) p.2.2 w h hn)
  have HPB2 := Lib.hid hPB2
  clear hPB2
  unfold pkV at HPR ⊢
  have HB := Lib.hid (below_alloc1 w (.cells #[.int .i64 p.1, .string p.2.1, .slice a p.2.2.length c] 50))
  have HX := Lib.hid (bx_new w 50 #[.int .i64 p.1, .string p.2.1, .slice a p.2.2.length c])
  have x0 := HX.out.t0
  have x1 := HX.out.t1
  have x2 := HX.out.t2
  go_enter Tryd.func22, Tryd.ntmps22
  go_wp2_with fail
  clear x0 x1 x2
  generalize w.alloc (.cells #[.int .i64 p.1, .string p.2.1, .slice a p.2.2.length c] 50) = W at *
  refine (HPR.out W (HV.out.below HB.out (Nat.le_refl _))).mono ?_
  rintro e w1 ⟨rfl, hb⟩
  replace HX := Lib.hid (HX.out.next hb)
  replace HB := Lib.hid (HB.out.trans (hb.mono HB.out.size))
  clear hb HPR
  cases PB with
  | false =>
    have hr := HR.out.trans (fit_no (fun h => by have h9 := HPB2.out; rw [h.1] at h9; cases h9))
    subst hr
    clear HR HPB2
    go_wp2_with fail
    go_ret
    exact ⟨rfl, HB.out⟩
  | true =>
  go_wp2_with fail
  refine (specImg _ old w1 (HU.out.below HB.out (Nat.le_refl _)) hm).mono ?_
  rintro e w2 ⟨rfl, rfl⟩
  cases him : imgB old with
  | false =>
    have hr := HR.out.trans (fit_no (fun h => by rw [him] at h; cases h.2))
    subst hr
    clear HR HPB2 him
    go_wp2_with fail
    go_ret
    exact ⟨rfl, HB.out⟩
  | true =>
  have HPB := Lib.hid (show pkB p = true ∧ imgB old = true from ⟨HPB2.out.symm, him⟩)
  have OK := Lib.hid ((pkB_iff p).1 HPB2.out.symm)
  have IOK := Lib.hid ((imgB_iff old).1 him)
  clear HPB2 him
  have x0 := HX.out.t0
  by_cases hln : (old.length : Int) = p.1
  rotate_left
  · have hr := HR.out.trans (fit_len HPB.out hln)
    subst hr
    have dl : ((old.length : Int) != p.1) = true := by simpa using hln
    clear HR hln
    go_wp2_with fail
    go_ret
    exact ⟨rfl, HB.out⟩
  have dl : ((old.length : Int) != p.1) = false := by simpa using hln
  have hcode : codeS p.2.2 (old.length : Int) = 0 := by rw [hln]; exact OK.out.1
  have FS := Lib.hid (fun hd => HR.out.trans (fit_sum HPB.out hln hd))
  have FO := Lib.hid (fun hd => HR.out.trans (fit_ok HPB.out hln hd))
  have HC := Lib.hid hcode
  clear HR hln hcode
  have hal := applyL_length old p.2.2
  have HAL := Lib.hid hal
  clear hal
  have AP := Lib.hid (fun w h k => specApply (.slice a' old.length c') (.slice a p.2.2.length c) old p.2.2 w h k IOK.out HC.out)
  have DG := Lib.hid (fun v w (h : Rd w v (applyL old p.2.2).length 1 (strs (applyL old p.2.2))) => specImgDig v (applyL old p.2.2) w h (by rw [HAL.out]; exact hm))
  obtain ⟨Q, hQ⟩ : ∃ Q, Q = applyL old p.2.2 := ⟨_, rfl⟩
  rw [← hQ] at AP DG FS FO HAL
  clear hQ
  rw [HAL.out] at DG
  obtain ⟨D, hD⟩ : ∃ D, D = imgDig Q := ⟨_, rfl⟩
  rw [← hD] at DG FS FO
  clear hD
  have x1 := HX.out.t1
  have x2 := HX.out.t2
  have KP := Lib.hid (show ∀ w', Below w1.heap.size w1 w' → w'.cell? ⟨w.heap.size, 1, none⟩ = some (.string p.2.1) ∧ w'.cell? ⟨w.heap.size, 2, none⟩ = some (.slice a p.2.2.length c) ∧ Below w1.heap.size w1 w' from fun w' hb' => have hx := HX.out.next hb'; ⟨hx.t1, hx.t2, hb'⟩)
  have HV1 := Lib.hid (show ∀ w', Below w1.heap.size w1 w' → Rd w' (.slice a p.2.2.length c) p.2.2.length 4 (stpCs p.2.2) from fun w' hb' => HV.out.below (HB.out.trans (hb'.mono HB.out.size)) (Nat.le_refl _))
  have HU1 := Lib.hid (show ∀ w', Below w1.heap.size w1 w' → Rd w' (.slice a' old.length c') old.length 1 (strs old) from fun w' hb' => HU.out.below (HB.out.trans (hb'.mono HB.out.size)) (Nat.le_refl _))
  by_cases hd : D = p.2.1
  · have hr := FO.out hd
    subst hr
    have dd : (p.2.1.toList != p.2.1.toList) = false := by simp
    rw [hd] at DG
    clear FS FO hd
    go_wp2_with fail
    go_region_held3 (fun w' => w'.cell? ⟨w.heap.size, 1, none⟩ = some (.string p.2.1) ∧ w'.cell? ⟨w.heap.size, 2, none⟩ = some (.slice a p.2.2.length c) ∧ Below w1.heap.size w1 w')
      (first | (with_reducible exact KP.out _ (Below.refl _ _).drew) | (go_split_ands; first | exact KP.out _ (below_more (by assumption) hbD) | exact KP.out _ (below_more (by assumption) hbA)))
      ((first | (go_at_call 45; go_split_ands; refine (AP.out _ (HU1.out _ (by assumption)) (HV1.out _ (by assumption))).mono ?_; rintro e wA ⟨vA, rfl, hoA, hbA⟩; obtain ⟨aA, cA, rfl, -⟩ := id hoA.2; have HOA := Lib.hid hoA.rd; clear hoA) | (go_at_call 17; go_split_ands; refine (DG.out _ _ HOA.out).mono ?_; rintro e wD ⟨rfl, hbD⟩)))
    all_goals (
      go_split_ands
      have hbz : Below w1.heap.size w1 wD := by assumption
      have HBZ := Lib.hid (HB.out.trans (hbz.mono HB.out.size))
      go_wp2_with fail
      go_ret
      exact ⟨rfl, HBZ.out⟩)
  · have hr := FS.out hd
    subst hr
    have dd : (D.toList != p.2.1.toList) = true := listNe hd
    have de : (D.toList == p.2.1.toList) = false := by have := listNe hd; simpa [bne] using this
    clear FS FO hd
    go_wp2_with fail
    go_region_held3 (fun w' => w'.cell? ⟨w.heap.size, 1, none⟩ = some (.string p.2.1) ∧ w'.cell? ⟨w.heap.size, 2, none⟩ = some (.slice a p.2.2.length c) ∧ Below w1.heap.size w1 w')
      (first | (with_reducible exact KP.out _ (Below.refl _ _).drew) | (go_split_ands; first | exact KP.out _ (below_more (by assumption) hbD) | exact KP.out _ (below_more (by assumption) hbA)))
      ((first | (go_at_call 45; go_split_ands; refine (AP.out _ (HU1.out _ (by assumption)) (HV1.out _ (by assumption))).mono ?_; rintro e wA ⟨vA, rfl, hoA, hbA⟩; obtain ⟨aA, cA, rfl, -⟩ := id hoA.2; have HOA := Lib.hid hoA.rd; clear hoA) | (go_at_call 17; go_split_ands; refine (DG.out _ _ HOA.out).mono ?_; rintro e wD ⟨rfl, hbD⟩)))
    all_goals (
      go_split_ands
      have hbz : Below w1.heap.size w1 wD := by assumption
      have HBZ := Lib.hid (HB.out.trans (hbz.mono HB.out.size))
      go_wp2_with fail
      go_ret
      exact ⟨rfl, HBZ.out⟩)

theorem field_img (v : Value) (c : Int) (w : World) : (Instr.field 28 (.agg #[v, .int .i64 c]) 0).run Tryd.prog w = .ok v w := by
  simp [Instr.field, go_sem, asAgg]
theorem implApplyO (v u : Value) (image : List ByteArray) (l : List stpT) (w : World) (h : Rd w v image.length 1 (strs image)) (hl : Rd w u l.length 4 (stpCs l)) (hn : image.length ≤ 1048576) (hm : l.length ≤ 1048576)
    (hsz : ¬ (400 < image.length ∨ 400 < l.length)) (hi : imgB image = true) (hc : codeS l (image.length : Int) = 0) :
    Calls Tryd.prog 6 #[v, u] w fun e w' => ∃ a c, image.length ≤ c ∧ e = .returned (.agg #[.slice a image.length c, .int .i64 0]) ∧ Own w' w.heap.size (.slice a image.length c) image.length 1 (strs (applyL image l)) ∧ Below w.heap.size w w' := by
  have := implImageApplyC v u image l w h hl hn hm
  rw [applyR_ok hsz hi hc] at this
  unfold OwnZC at this
  dsimp only at this
  rw [applyL_length] at this
  exact this.mono fun e w' ⟨a, c, h1, h2, h3, h4⟩ => ⟨a, c, h2, h1, h3, h4⟩
set_option maxRecDepth 100000 in
set_option maxHeartbeats 2000000 in
theorem implFits (p : pkT) (v u : Value) (old : List ByteArray) (w : World) (h : Rd w v p.2.2.length 4 (stpCs p.2.2)) (hu : Rd w u old.length 1 (strs old)) (hn : p.2.2.length ≤ 1048576) (hm : old.length ≤ 1048576) (hl : LaidT w) :
    Calls Tryd.prog 25 #[pkV p.1 p.2.1 v, u] w fun e w' => e = .returned (.int .i64 (fitS p old)) ∧ Below w.heap.size w w' := by
  obtain ⟨a, c, rfl, -⟩ := id h.2
  obtain ⟨a', c', rfl, -⟩ := id hu.2
  obtain ⟨R, hR⟩ : ∃ R, R = fitS p old := ⟨_, rfl⟩
  rw [← hR]
  have HR := Lib.hid hR
  have HV := Lib.hid h
  have HU := Lib.hid hu
  clear hR h hu
  have HL := Lib.hid hl
  clear hl
  obtain ⟨PB, hPB2⟩ : ∃ PB, PB = pkB p := ⟨_, rfl⟩
  have HPR := Lib.hid (show ∀ w, Rd w (.slice a p.2.2.length c) p.2.2.length 4 (stpCs p.2.2) → Calls Tryd.prog 61 #[pkV p.1 p.2.1 (.slice a p.2.2.length c)] w fun e w' => e = .returned (.bool PB) ∧ Below w.heap.size w w' from fun w h => by rw [hPB2]; exact implPkRight p.1 p.2.1 (.slice a p.2.2.length c) p.2.2 w h hn)
  have HPB2 := Lib.hid hPB2
  clear hPB2
  unfold pkV at HPR ⊢
  have HB := Lib.hid (below_alloc1 w (.cells #[.int .i64 p.1, .string p.2.1, .slice a p.2.2.length c] 50))
  have HX := Lib.hid (bx_new w 50 #[.int .i64 p.1, .string p.2.1, .slice a p.2.2.length c])
  have x0 := HX.out.t0
  have x1 := HX.out.t1
  have x2 := HX.out.t2
  go_enter Tryd.func25, Tryd.ntmps25
  go_wp2_with fail
  clear x0 x1 x2
  generalize w.alloc (.cells #[.int .i64 p.1, .string p.2.1, .slice a p.2.2.length c] 50) = W at *
  refine (HPR.out W (HV.out.below HB.out (Nat.le_refl _))).mono ?_
  rintro e w1 ⟨rfl, hb⟩
  replace HX := Lib.hid (HX.out.next hb)
  replace HB := Lib.hid (HB.out.trans (hb.mono HB.out.size))
  clear hb HPR
  cases PB with
  | false =>
    have hr := HR.out.trans (fit_no (fun h => by have h9 := HPB2.out; rw [h.1] at h9; cases h9))
    subst hr
    clear HR HPB2
    go_wp2_with fail
    go_ret
    exact ⟨rfl, HB.out⟩
  | true =>
  go_wp2_with fail
  refine (implImg _ old w1 (HU.out.below HB.out (Nat.le_refl _)) hm).mono ?_
  rintro e w2 ⟨rfl, rfl⟩
  cases him : imgB old with
  | false =>
    have hr := HR.out.trans (fit_no (fun h => by rw [him] at h; cases h.2))
    subst hr
    clear HR HPB2 him
    go_wp2_with fail
    go_ret
    exact ⟨rfl, HB.out⟩
  | true =>
  have HPB := Lib.hid (show pkB p = true ∧ imgB old = true from ⟨HPB2.out.symm, him⟩)
  have OK := Lib.hid ((pkB_iff p).1 HPB2.out.symm)
  have IOK := Lib.hid ((imgB_iff old).1 him)
  clear HPB2 him
  have x0 := HX.out.t0
  by_cases hln : (old.length : Int) = p.1
  rotate_left
  · have hr := HR.out.trans (fit_len HPB.out hln)
    subst hr
    have dl : ((old.length : Int) != p.1) = true := by simpa using hln
    clear HR hln
    go_wp2_with fail
    go_ret
    exact ⟨rfl, HB.out⟩
  have dl : ((old.length : Int) != p.1) = false := by simpa using hln
  have hcode : codeS p.2.2 (old.length : Int) = 0 := by rw [hln]; exact OK.out.1
  have FS := Lib.hid (fun hd => HR.out.trans (fit_sum HPB.out hln hd))
  have FO := Lib.hid (fun hd => HR.out.trans (fit_ok HPB.out hln hd))
  have HC := Lib.hid hcode
  clear HR hln hcode
  have hal := applyL_length old p.2.2
  have HAL := Lib.hid hal
  clear hal
  have AP := Lib.hid (fun w h k => implApplyO (.slice a' old.length c') (.slice a p.2.2.length c) old p.2.2 w h k hm hn (by have := IOK.out.1; have := OK.out.len; omega) HPB.out.2 HC.out)
  have DG := Lib.hid (fun b c2 w (h : Rd w (.slice b (applyL old p.2.2).length c2) (applyL old p.2.2).length 1 (strs (applyL old p.2.2))) hc hl => implImgDig b c2 (applyL old p.2.2) w h (by rw [HAL.out]; exact hm) hc hl)
  obtain ⟨Q, hQ⟩ : ∃ Q, Q = applyL old p.2.2 := ⟨_, rfl⟩
  rw [← hQ] at AP DG FS FO HAL
  clear hQ
  rw [HAL.out] at DG
  obtain ⟨D, hD⟩ : ∃ D, D = imgDig Q := ⟨_, rfl⟩
  rw [← hD] at DG FS FO
  clear hD
  have x1 := HX.out.t1
  have x2 := HX.out.t2
  have KP := Lib.hid (show ∀ w', Below w1.heap.size w1 w' → w'.cell? ⟨w.heap.size, 1, none⟩ = some (.string p.2.1) ∧ w'.cell? ⟨w.heap.size, 2, none⟩ = some (.slice a p.2.2.length c) ∧ Below w1.heap.size w1 w' from fun w' hb' => have hx := HX.out.next hb'; ⟨hx.t1, hx.t2, hb'⟩)
  have HV1 := Lib.hid (show ∀ w', Below w1.heap.size w1 w' → Rd w' (.slice a p.2.2.length c) p.2.2.length 4 (stpCs p.2.2) from fun w' hb' => HV.out.below (HB.out.trans (hb'.mono HB.out.size)) (Nat.le_refl _))
  have HU1 := Lib.hid (show ∀ w', Below w1.heap.size w1 w' → Rd w' (.slice a' old.length c') old.length 1 (strs old) from fun w' hb' => HU.out.below (HB.out.trans (hb'.mono HB.out.size)) (Nat.le_refl _))
  have HL1 := Lib.hid (show ∀ w', Below w1.heap.size w1 w' → LaidT w' from fun w' hb' => HL.out.below (HB.out.trans (hb'.mono HB.out.size)) HL.out.two)
  by_cases hd : D = p.2.1
  · have hr := FO.out hd
    subst hr
    have dd : (p.2.1.toList != p.2.1.toList) = false := by simp
    rw [hd] at DG
    clear FS FO hd
    go_wp2_with fail
    go_region_held3 (fun w' => w'.cell? ⟨w.heap.size, 1, none⟩ = some (.string p.2.1) ∧ w'.cell? ⟨w.heap.size, 2, none⟩ = some (.slice a p.2.2.length c) ∧ Below w1.heap.size w1 w')
      (first | (with_reducible exact KP.out _ (Below.refl _ _).drew) | (go_split_ands; first | exact KP.out _ (below_more (by assumption) hbD) | exact KP.out _ (below_more (by assumption) hbA)))
      ((first | (go_at_call 6; go_split_ands; refine (AP.out _ (HU1.out _ (by assumption)) (HV1.out _ (by assumption))).mono ?_; rintro e wA ⟨aA, cA, hcA, rfl, hoA, hbA⟩; have HOA := Lib.hid hoA.rd; have HCA := Lib.hid hcA; have ff := field_img (.slice aA old.length cA) 0; have HLA := Lib.hid (HL1.out _ (below_more (by assumption) hbA)); clear hoA) | (go_at_call 16; go_split_ands; refine (DG.out _ _ _ HOA.out HCA.out HLA.out).mono ?_; rintro e wD ⟨rfl, hbD⟩)))
    all_goals (
      go_split_ands
      have hbz : Below w1.heap.size w1 wD := by assumption
      have HBZ := Lib.hid (HB.out.trans (hbz.mono HB.out.size))
      go_wp2_with fail
      go_ret
      exact ⟨rfl, HBZ.out⟩)
  · have hr := FS.out hd
    subst hr
    have dd : (D.toList != p.2.1.toList) = true := listNe hd
    have de : (D.toList == p.2.1.toList) = false := by have := listNe hd; simpa [bne] using this
    clear FS FO hd
    go_wp2_with fail
    go_region_held3 (fun w' => w'.cell? ⟨w.heap.size, 1, none⟩ = some (.string p.2.1) ∧ w'.cell? ⟨w.heap.size, 2, none⟩ = some (.slice a p.2.2.length c) ∧ Below w1.heap.size w1 w')
      (first | (with_reducible exact KP.out _ (Below.refl _ _).drew) | (go_split_ands; first | exact KP.out _ (below_more (by assumption) hbD) | exact KP.out _ (below_more (by assumption) hbA)))
      ((first | (go_at_call 6; go_split_ands; refine (AP.out _ (HU1.out _ (by assumption)) (HV1.out _ (by assumption))).mono ?_; rintro e wA ⟨aA, cA, hcA, rfl, hoA, hbA⟩; have HOA := Lib.hid hoA.rd; have HCA := Lib.hid hcA; have ff := field_img (.slice aA old.length cA) 0; have HLA := Lib.hid (HL1.out _ (below_more (by assumption) hbA)); clear hoA) | (go_at_call 16; go_split_ands; refine (DG.out _ _ _ HOA.out HCA.out HLA.out).mono ?_; rintro e wD ⟨rfl, hbD⟩)))
    all_goals (
      go_split_ands
      have hbz : Below w1.heap.size w1 wD := by assumption
      have HBZ := Lib.hid (HB.out.trans (hbz.mono HB.out.size))
      go_wp2_with fail
      go_ret
      exact ⟨rfl, HBZ.out⟩)
end Go.Proofs.YtcckpkcjekcajaaDoor
