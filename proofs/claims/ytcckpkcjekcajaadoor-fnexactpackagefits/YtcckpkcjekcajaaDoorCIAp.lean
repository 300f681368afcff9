/- The program's MadeBy and ImageApply. -/
import Derived.Test.YtcckpkcjekcajaaDoorCIMk
import Derived.Test.YtcckpkcjekcajaaDoorCSIa
import Derived.Test.YtcckpkcjekcajaaDoorIClone
import Derived.Test.YtcckpkcjekcajaaDoorBWrites
import Derived.Test.YtcckpkcjekcajaaDoorM3
namespace Go.Proofs.YtcckpkcjekcajaaDoor
open Go.RowKit

theorem makeS_size {n k t f : Int} {d src : ByteArray} (h : stepB n k t f d = true) (h5 : k ≠ 5) (hs : src.size = 8) : (makeS (k, t, f, d) src).size = 8 := by
  obtain ⟨-, hc⟩ := (stepB_iff ..).1 h
  unfold makeS
  rcases hc with ⟨rfl, h1, hf, h2⟩ | ⟨rfl, h1, hf, h2⟩ | ⟨rfl, h1, h3, h2⟩ | ⟨rfl, h1, h3, h2⟩ | ⟨h, -⟩
  · rfl
  · exact h2
  · exact hs
  · show (xorS src d).size = 8
    unfold xorS; rw [if_pos ⟨hs, h2⟩, xor8_size]
  · exact absurd h h5
set_option maxRecDepth 100000 in
set_option maxHeartbeats 2000000 in
theorem implMadeBy (v : Value) (l : List ByteArray) (k t f : Int) (d : ByteArray) (w : World) (h : Rd w v l.length 1 (strs l)) (hn : l.length ≤ 1048576) :
    Calls Tryd.prog 14 #[v, .agg #[.int .i64 k, .int .i64 t, .int .i64 f, .string d]] w fun e w' => e = .returned (.string (madeS l (k, t, f, d))) ∧ Below w.heap.size w w' := by
  obtain ⟨R, hR⟩ : ∃ R, R = madeS l (k, t, f, d) := ⟨_, rfl⟩
  rw [← hR]
  have HR := Lib.hid hR
  clear hR
  obtain ⟨a, c, rfl, -⟩ := id h.2
  have HB := Lib.hid (below_alloc1 w (.cells #[.int .i64 k, .int .i64 t, .int .i64 f, .string d] 33))
  have HX := Lib.hid (bx_new w 33 #[.int .i64 k, .int .i64 t, .int .i64 f, .string d])
  have RV := Lib.hid (h.below HB.out (Nat.le_refl _))
  clear h
  cases hi : imgB l with
  | false =>
    have hr : R = ⟨#[]⟩ := by rw [HR.out]; unfold madeS; rw [if_neg (fun h => by rw [hi] at h; exact absurd h.1 (by simp))]
    subst hr
    have HI := Lib.hid hi
    clear HR hi
    go_enter Tryd.func14, Tryd.ntmps14
    go_wp2_with fail
    refine (implImg _ l _ RV.out hn).mono ?_
    rintro e w1 ⟨rfl, rfl⟩
    rw [HI.out]
    go_wp2_with fail
    go_ret
    exact ⟨rfl, HB.out⟩
  | true =>
    have HI := Lib.hid hi
    clear hi
    have c0 := HX.out.q0
    have c1 := HX.out.q1
    have c2 := HX.out.q2
    have c3 := HX.out.q3
    cases hst : stepB (l.length : Int) k t f d with
    | false =>
      have hr : R = ⟨#[]⟩ := by rw [HR.out]; unfold madeS; rw [if_neg (fun h => by have := h.2.2; simp only at this; rw [hst] at this; cases this)]
      subst hr
      have HST := Lib.hid hst
      clear HR hst
      go_enter Tryd.func14, Tryd.ntmps14
      go_wp2_with fail
      refine (implImg _ l _ RV.out hn).mono ?_
      rintro e w1 ⟨rfl, rfl⟩
      rw [HI.out]
      go_wp2_with fail
      refine (implRight k t f _ d _).mono ?_
      rintro e w1 ⟨rfl, hb⟩
      have HB2 := Lib.hid (below_more HB.out hb)
      clear hb
      rw [HST.out]
      go_wp2_with fail
      go_ret
      exact ⟨rfl, HB2.out⟩
    | true =>
    have HST := Lib.hid hst
    clear hst
    by_cases h5 : k = 5
    · have hr : R = ⟨#[]⟩ := by rw [HR.out]; unfold madeS; rw [if_neg (fun h => h.2.1 h5)]
      subst hr
      have d5 : (k == 5) = true := by simpa using h5
      clear HR h5
      go_enter Tryd.func14, Tryd.ntmps14
      go_wp2_with fail
      refine (implImg _ l _ RV.out hn).mono ?_
      rintro e w1 ⟨rfl, rfl⟩
      rw [HI.out]
      go_wp2_with fail
      refine (implRight k t f _ d _).mono ?_
      rintro e w1 ⟨rfl, hb⟩
      have hx := HX.out.next hb
      replace c0 := hx.q0
      have HB2 := Lib.hid (below_more HB.out hb)
      clear hb hx
      rw [HST.out]
      go_wp2_with fail
      go_ret
      exact ⟨rfl, HB2.out⟩
    have d5 : (k == 5) = false := by simpa using h5
    have H5 := Lib.hid h5
    have OK := Lib.hid ((imgB_iff l).1 HI.out)
    obtain ⟨f0, f1, -⟩ := ok_from HST.out h5
    have hr : R = makeS (k, t, f, d) (l.getD f.toNat ⟨#[]⟩) := by rw [HR.out]; unfold madeS; rw [if_pos ⟨HI.out, h5, HST.out⟩]
    have hfl : f.toNat < l.length := by omega
    have hs8 : R.size = 8 := by
      rw [hr]
      refine makeS_size HST.out h5 ?_
      rw [List.getD_eq_getElem?_getD, List.getElem?_eq_getElem hfl]
      exact OK.out.2 _ (List.getElem_mem hfl)
    have HRR := Lib.hid hr
    clear HR h5 hr f0 f1 hfl
    go_enter Tryd.func14, Tryd.ntmps14
    go_wp2_with fail
    refine (implImg _ l _ RV.out hn).mono ?_
    rintro e w1 ⟨rfl, rfl⟩
    rw [HI.out]
    go_wp2_with fail
    refine (implRight k t f _ d _).mono ?_
    rintro e w1 ⟨rfl, hb⟩
    have hx := HX.out.next hb
    replace c0 := hx.q0
    have HX1 := Lib.hid hx
    have RV1 := Lib.hid (RV.out.below hb (Nat.le_refl _))
    have HB2 := Lib.hid (below_more HB.out hb)
    clear hb hx c1 c2 c3
    rw [HST.out]
    go_wp2_with fail
    refine (implOver _ l w1 RV1.out OK.out).mono ?_
    rintro e w2 ⟨g, u, rfl, hm, hb⟩
    have hx := HX1.out.next hb
    replace c0 := hx.q0
    have c1 := hx.q1
    have c2 := hx.q2
    have c3 := hx.q3
    have HM := Lib.hid hm
    have HB3 := Lib.hid (below_more HB2.out hb)
    clear hb hx hm
    go_wp2_with fail
    refine (implMk k t f d l g _ u w2 HM.out OK.out.2 HST.out H5.out).mono ?_
    rintro e w3 ⟨rfl, hb⟩
    have HB4 := Lib.hid (below_more HB3.out hb)
    clear hb
    rw [← HRR.out]
    go_wp2_with fail
    refine (implText8 R w3 hs8).mono ?_
    rintro e w4 ⟨rfl, hb⟩
    have HB5 := Lib.hid (below_more HB4.out hb)
    clear hb
    go_wp2_with fail
    go_ret
    exact ⟨rfl, HB5.out⟩

theorem fold_writes (image : List ByteArray) : ∀ (l : List stpT) (out : List ByteArray), (l.filter fun s => s.1 != 5).foldl (put1 image) out = l.foldl (put1 image) out
  | [], _ => rfl
  | x :: l, out => by
    by_cases h : x.1 = 5
    · rw [List.filter_cons_of_neg (by simp [h]), fold_writes image l out, List.foldl_cons]
      unfold put1; rw [if_pos h]
    · rw [List.filter_cons_of_pos (by simp [h]), List.foldl_cons, List.foldl_cons, fold_writes image l]
theorem apply_writes {image : List ByteArray} {l : List stpT} (h : l.length ≤ 20) : applyL image (writesL l) = applyL image l := by
  unfold writesL wrT applyL
  rw [if_neg (by omega), List.take_length]
  exact fold_writes image l image
theorem writes_ok {l : List stpT} {n : Int} (h : ∀ s ∈ l, stepB n s.1 s.2.1 s.2.2.1 s.2.2.2 = true) : ∀ s ∈ writesL l, stepB n s.1 s.2.1 s.2.2.1 s.2.2.2 = true ∧ s.1 ≠ 5 := by
  intro s hs
  unfold writesL wrT at hs
  split at hs
  · cases hs
  · rw [List.take_length] at hs
    obtain ⟨h1, h2⟩ := List.mem_filter.1 hs
    exact ⟨h s h1, by simpa using h2⟩
def AwRel (image : List ByteArray) (ws : List stpT) (w W2 W4 : World) (fv : Value) (b3 : Nat) (i : Value) (wr : World) : Prop :=
  ∃ k : Nat, k ≤ ws.length ∧ i = .int .i64 k ∧ Own wr W2.heap.size fv image.length 1 (strs (applyL image (ws.take k))) ∧ W4.grownBy wr (some b3) ∧ Below W2.heap.size W2 wr
set_option maxRecDepth 100000 in
set_option maxHeartbeats 4000000 in
theorem implImageApply (v u : Value) (image : List ByteArray) (l : List stpT) (w : World) (h : Rd w v image.length 1 (strs image)) (hl : Rd w u l.length 4 (stpCs l)) (hn : image.length ≤ 1048576) (hm : l.length ≤ 1048576) :
    Calls Tryd.prog 6 #[v, u] w (OwnZ w (applyR image l)) := by
  obtain ⟨a, c, rfl, -⟩ := id h.2
  obtain ⟨a', c', rfl, -⟩ := id hl.2
  obtain ⟨R, hR⟩ : ∃ R, R = applyR image l := ⟨_, rfl⟩
  rw [← hR]
  have HR := Lib.hid hR
  clear hR
  have g0 := below_alloc1 w (.cells #[.slice none 0 0, .int .i64 0] 28)
  have X0 := Lib.hid (bx_new w 28 #[.slice none 0 0, .int .i64 0])
  have HA := Lib.hid (h.below g0 (Nat.le_refl _))
  have HL := Lib.hid (hl.below g0 (Nat.le_refl _))
  have hz := size_alloc1 w (.cells #[.slice none 0 0, .int .i64 0] 28)
  have G0 := Lib.hid g0
  clear g0 h hl
  obtain ⟨C, hC⟩ : ∃ C, C = applyC image l := ⟨_, rfl⟩
  have HC := Lib.hid hC
  clear hC
  by_cases hc0 : C = 0
  rotate_left
  · have hr : R = ([], C) := by rw [HR.out, HC.out]; exact applyR_no (by rw [← HC.out]; exact hc0)
    subst hr
    have dc : (C != 0) = true := by simpa using hc0
    clear HR hc0
    go_enter Tryd.func6, Tryd.ntmps6
    go_wp2_with fail
    generalize w.alloc (.cells #[.slice none 0 0, .int .i64 0] 28) = W0 at *
    have hs := implAC _ _ image l W0 HA.out HL.out hn hm
    rw [← HC.out] at hs
    refine hs.mono ?_
    clear hs
    rintro e W1 ⟨rfl, hb⟩
    have hx := X0.out.next hb
    have c0 := hx.cell 0
    have c1 := hx.cell 1
    have z0 := hx.frozen 0
    have z1 := hx.frozen 1
    simp at c0 c1
    have G9 := Lib.hid (G0.out.trans (hb.mono (by omega)))
    clear hb hx
    go_wp2_with fail
    refine bodyPost_ret (v := .agg #[.slice none 0 0, .int .i64 C]) (by simp [results, Tryd.results6, go_sem, c0, c1]) rfl ⟨_, rfl, ownNil _ _ _, ?_⟩
    exact (G9.out.setCell (p := ⟨w.heap.size, 0, none⟩) (Nat.le_refl _) _).setCell (p := ⟨w.heap.size, 1, none⟩) (Nat.le_refl _) _
  subst hc0
  obtain ⟨hi, hc, -⟩ := applyC_ok HC.out.symm
  have HI := Lib.hid hi
  have hr : R = (applyL image l, 0) := by rw [HR.out]; exact applyR_yes HC.out.symm
  subst hr
  clear hi
  have OK := Lib.hid ((imgB_iff image).1 HI.out)
  obtain ⟨⟨n0, n1⟩, -⟩ := id OK.out
  obtain ⟨-, hl20, hok⟩ := code_ok hc
  have HAW := Lib.hid (apply_writes (image := image) hl20)
  have HOK := Lib.hid (writes_ok hok)
  have hwl := writesL_len l
  obtain ⟨ws, hws⟩ : ∃ ws, ws = writesL l := ⟨_, rfl⟩
  rw [← hws] at HAW HOK hwl
  have HWS := Lib.hid hws
  clear HR hok hws
  go_enter Tryd.func6, Tryd.ntmps6
  go_wp2_with fail
  generalize w.alloc (.cells #[.slice none 0 0, .int .i64 0] 28) = W0 at *
  have hs := implAC _ _ image l W0 HA.out HL.out hn hm
  rw [← HC.out] at hs
  refine hs.mono ?_
  clear hs hc
  rintro e W1 ⟨rfl, hb⟩
  replace X0 := Lib.hid (X0.out.next hb)
  replace G0 := Lib.hid (G0.out.trans (hb.mono (by omega)))
  replace HA := Lib.hid (HA.out.below hb (Nat.le_refl _))
  replace HL := Lib.hid (HL.out.below hb (Nat.le_refl _))
  have hz1 := hb.size
  clear hb
  go_wp2_with fail
  refine (implOver _ image W1 HA.out OK.out).mono ?_
  rintro e W2 ⟨g, u, rfl, hmk, hb⟩
  replace X0 := Lib.hid (X0.out.next hb)
  replace G0 := Lib.hid (G0.out.trans (hb.mono (by omega)))
  replace HA := Lib.hid (HA.out.below hb (Nat.le_refl _))
  replace HL := Lib.hid (HL.out.below hb (Nat.le_refl _))
  have HMK := Lib.hid hmk
  have hz2 := hb.size
  have X2 := Lib.hid X0.out
  clear hb hmk
  go_wp2_with fail
  refine (cloneS _ image W2 HA.out hn).mono ?_
  rintro e W3 ⟨fv, rfl, ho, hb⟩
  obtain ⟨a3, c3, rfl, -⟩ := id ho.2
  obtain ⟨b3, off3, rfl, hlo3, hbl3, -, -⟩ := ho.get (by omega)
  have HO := Lib.hid ho
  have B3 := Lib.hid hb
  replace HL := Lib.hid (HL.out.below hb (Nat.le_refl _))
  have hz3 := hb.size
  clear hb ho
  go_wp2_with fail
  refine (implWrites _ l W3 HL.out hm).mono ?_
  rw [← HWS.out]
  rintro e W4 ⟨wv, rfl, hg4, hb⟩
  obtain ⟨a4, c4, rfl⟩ := gr_form hg4
  have HW4 := Lib.hid hg4.own.rd
  have NE4 := Lib.hid (show 0 < ws.length → (Value.slice a4 ws.length c4).ownBlock ≠ some b3 from fun h0 e => by
    have := (hg4.own.blk b3 (by unfold blk; rw [if_neg (by omega)]; exact e)).1
    omega)
  have HO4 := Lib.hid (show Own W4 W2.heap.size (.slice (some ⟨b3, off3, none⟩) image.length c3) image.length 1 (strs (applyL image (ws.take 0))) from HO.out.below hb (Nat.le_refl _))
  have B4 := Lib.hid (B3.out.trans (hb.mono hz3))
  have hz4 := hb.size
  clear hb hg4 HO
  go_wp2_with fail
  go_loopw [24] (fun i wr => AwRel image ws w W2 W4 (.slice (some ⟨b3, off3, none⟩) image.length c3) b3 i wr) (fun i _ => ws.length - (intOf i).toNat)
  case atStart => exact ⟨0, by omega, rfl, HO4.out, World.grownBy.refl W4 _, B4.out⟩
  case round =>
    clear HO4 B4
    obtain ⟨k, hk, rfl, hown, hgr, hbw⟩ := hrel
    have HOWN := Lib.hid hown
    have HGR := Lib.hid hgr
    have HBW := Lib.hid hbw
    have hwz := hbw.size
    have hgz := hgr.size
    by_cases hlt : k < ws.length
    · have hrw := HW4.out.grown hgr NE4.out
      obtain ⟨b, off, rfl, hbl, hcell⟩ := hrw.get (by omega)
      have r0 : wr.cell? ⟨b, off + k * 4, none⟩ = some (.int .i64 ws[k].1) := by rw [hcell (k * 4) (by omega), stpCs_0 ws k hlt]
      have r1 : wr.cell? ⟨b, off + k * 4 + 1, none⟩ = some (.int .i64 ws[k].2.1) := by rw [Nat.add_assoc, hcell (k * 4 + 1) (by omega), stpCs_1 ws k hlt]
      have r2 : wr.cell? ⟨b, off + k * 4 + 2, none⟩ = some (.int .i64 ws[k].2.2.1) := by rw [Nat.add_assoc, hcell (k * 4 + 2) (by omega), stpCs_2 ws k hlt]
      have r3 : wr.cell? ⟨b, off + k * 4 + 3, none⟩ = some (.string ws[k].2.2.2) := by rw [Nat.add_assoc, hcell (k * 4 + 3) (by omega), stpCs_3 ws k hlt]
      obtain ⟨hst, h5⟩ := HOK.out _ (List.getElem_mem hlt)
      obtain ⟨f0, f1, t0, t1, -⟩ := ok_from hst h5
      have HX := Lib.hid (applyT_yes (image := image) hlt h5)
      clear hcell hrw hown hgr hbw
      obtain ⟨x, hx⟩ : ∃ x, x = ws[k] := ⟨_, rfl⟩
      rw [← hx] at r0 r1 r2 r3 f0 f1 t0 t1 HX hst h5
      clear hx
      obtain ⟨x1, x2, x3, x4⟩ := x
      simp only at r0 r1 r2 r3 f0 f1 t0 t1 HX hst h5
      obtain ⟨m, rfl⟩ : ∃ m : Nat, x3 = m := ⟨x3.toNat, by omega⟩
      obtain ⟨q, rfl⟩ : ∃ q : Nat, x2 = q := ⟨x2.toNat, by omega⟩
      have hmi : m < image.length := by omega
      have hq : q < image.length := by omega
      rw [Int.toNat_natCast] at HX
      have HST := Lib.hid hst
      have H5 := Lib.hid h5
      obtain ⟨Z, hZ⟩ : ∃ Z, Z = makeS (x1, (q : Int), (m : Int), x4) (image.getD ((m : Int)).toNat ⟨#[]⟩) := ⟨_, rfl⟩
      rw [← hZ] at HX
      have hz8 : Z.size = 8 := by
        rw [hZ]
        refine makeS_size hst h5 ?_
        rw [Int.toNat_natCast, List.getD_eq_getElem?_getD, List.getElem?_eq_getElem hmi]
        exact OK.out.2 _ (List.getElem_mem hmi)
      have HZ := Lib.hid hZ
      clear hZ hst h5
      have gA := below_alloc1 wr (.cells #[.int .i64 x1, .int .i64 (q : Int), .int .i64 (m : Int), .string x4] 33)
      have XA := Lib.hid (bx_new wr 33 #[.int .i64 x1, .int .i64 (q : Int), .int .i64 (m : Int), .string x4])
      have hzA := size_alloc1 wr (.cells #[.int .i64 x1, .int .i64 (q : Int), .int .i64 (m : Int), .string x4] 33)
      have GA := Lib.hid gA
      clear gA
      go_wp2_with fail
      generalize wr.alloc (.cells #[.int .i64 x1, .int .i64 (q : Int), .int .i64 (m : Int), .string x4] 33) = WA at *
      have hb3w : b3 < wr.heap.size := by omega
      have HB1 := Lib.hid (HBW.out.trans (GA.out.mono hwz))
      have OA := Lib.hid (HOWN.out.below GA.out (Nat.le_refl _))
      have kp := Lib.hid (show ∀ w', Below (wr.heap.size + 1) WA w' → w'.cell? ⟨wr.heap.size, 0, none⟩ = some (.int .i64 x1) ∧ w'.cell? ⟨wr.heap.size, 1, none⟩ = some (.int .i64 (q : Int)) ∧ w'.cell? ⟨wr.heap.size, 2, none⟩ = some (.int .i64 (m : Int)) ∧ w'.cell? ⟨wr.heap.size, 3, none⟩ = some (.string x4) from fun w' hb' =>
        have hx : Bx w' wr.heap.size 33 #[.int .i64 x1, .int .i64 (q : Int), .int .i64 (m : Int), .string x4] := (hb'.block wr.heap.size (by omega)).trans XA.out
        ⟨hx.q0, hx.q1, hx.q2, hx.q3⟩)
      have hl9 : (strs (applyL image (ws.take k))).length = image.length := by rw [strs_length, applyL_length]
      have KS := Lib.hid (show ∀ w', Below WA.heap.size WA w' → ∃ vq, w'.cell? ⟨b3, off3 + q, none⟩ = some vq ∧ w'.frozen? ⟨b3, off3 + q, none⟩ = false ∧ Own w' W2.heap.size (.slice (some ⟨b3, off3, none⟩) image.length c3) image.length 1 (strs (applyL image (ws.take k))) from fun w' hb' => by
        have ho := OA.out.below hb' (Nat.le_refl _)
        obtain ⟨b9, o9, hp9, -, -, hc9, hf9⟩ := ho.get (by omega)
        cases hp9
        exact ⟨_, (hc9 q (by omega)).trans (List.getElem?_eq_getElem (by omega)), hf9 q (by omega), ho⟩)
      clear hl9
      have hWd : WA.drew.heap.size = WA.heap.size := rfl
      have K1 := Lib.hid (kp.out WA.drew (Below.refl _ _).drew)
      have K2 := Lib.hid (fun w2 (hb2 : Below WA.drew.heap.size WA.drew w2) => kp.out w2 (Below.trans (Below.refl _ WA).drew (hb2.mono (by omega))))
      have K3 := Lib.hid (fun w2 w3 (hb2 : Below WA.drew.heap.size WA.drew w2) (hb3 : Below w2.heap.size w2 w3) => K2.out w3 (below_more hb2 hb3))
      have K4 := Lib.hid (fun w2 w3 (hb2 : Below WA.drew.heap.size WA.drew w2) (hb3 : Below w2.heap.size w2 w3) => show (w3.setCell ⟨b3, off3 + q, none⟩ (.string Z)).cell? ⟨wr.heap.size, 0, none⟩ = some (.int .i64 x1) ∧ (w3.setCell ⟨b3, off3 + q, none⟩ (.string Z)).cell? ⟨wr.heap.size, 1, none⟩ = some (.int .i64 (q : Int)) ∧ (w3.setCell ⟨b3, off3 + q, none⟩ (.string Z)).cell? ⟨wr.heap.size, 2, none⟩ = some (.int .i64 (m : Int)) ∧ (w3.setCell ⟨b3, off3 + q, none⟩ (.string Z)).cell? ⟨wr.heap.size, 3, none⟩ = some (.string x4) from
        have hx : Bx (w3.setCell ⟨b3, off3 + q, none⟩ (.string Z)) wr.heap.size 33 #[.int .i64 x1, .int .i64 (q : Int), .int .i64 (m : Int), .string x4] := Bx.other (show Bx w3 wr.heap.size 33 #[.int .i64 x1, .int .i64 (q : Int), .int .i64 (m : Int), .string x4] from ((below_more hb2 hb3).block wr.heap.size (by omega)).trans XA.out) ⟨b3, off3 + q, none⟩ _ (show wr.heap.size ≠ b3 by omega)
        ⟨hx.q0, hx.q1, hx.q2, hx.q3⟩)
      obtain ⟨i0, i1, i2, i3⟩ := kp.out WA (Below.refl _ _)
      clear r0 r1 r2 r3
      go_wp2_with fail
      go_region_held3 (fun w' => w'.cell? ⟨wr.heap.size, 0, none⟩ = some (.int .i64 x1) ∧ w'.cell? ⟨wr.heap.size, 1, none⟩ = some (.int .i64 (q : Int)) ∧ w'.cell? ⟨wr.heap.size, 2, none⟩ = some (.int .i64 (m : Int)) ∧ w'.cell? ⟨wr.heap.size, 3, none⟩ = some (.string x4))
        (first | (with_reducible exact K1.out) | (with_reducible exact K2.out _ hb2) | (with_reducible exact K3.out _ _ hb2 hb3) | (with_reducible exact K4.out _ _ hb2 hb3))
        ((first | (go_at_call 67; go_split_ands; refine (implMk x1 q m x4 image g _ u _ (HMK.out.below (HB1.out.drew) (Nat.le_refl _)) OK.out.2 HST.out H5.out).mono ?_; rintro e w2 ⟨rfl, hb2⟩; rw [← HZ.out]) | (go_at_call 35; go_split_ands; refine (implText8 Z _ hz8).mono ?_; rintro e w3 ⟨rfl, hb3⟩; obtain ⟨vq, hv9, hf9, ho3⟩ := KS.out _ (below_more (Below.refl WA.heap.size WA).drew (below_more hb2 hb3)); have HO3 := Lib.hid ho3; clear ho3)))
      all_goals (
        have hb9 := below_more (Below.refl WA.heap.size WA).drew (below_more hb2 hb3)
        have HO9 := Lib.hid (HO3.out.set q (.string Z) (by omega) ⟨_, hv9⟩)
        have HG9 := Lib.hid (grown_set ((HGR.out.andThen (below_grown (GA.out.trans (hb9.mono (by omega)))) (fun _ e => by cases e))) (b := b3) (i := off3 + q) (x := .string Z))
        have HB9 := Lib.hid ((HB1.out.trans (hb9.mono (by omega))).setCell (p := ⟨b3, off3 + q, none⟩) hlo3 (.string Z))
        clear hb2 hb3 hb9 hv9 hf9
        go_wp2_with fail
        go_roundw
        case rel =>
          have fin : AwRel image ws w W2 W4 (.slice (some ⟨b3, off3, none⟩) image.length c3) b3 (.int .i64 ((k : Int) + 1)) (w3.setCell ⟨b3, off3 + q, none⟩ (.string Z)) := by
            refine ⟨k + 1, by omega, by go_num, ?_, HG9.out, HB9.out⟩
            rw [HX.out, strs_set]
            exact HO9.out
          first | exact fin | ((repeat apply Exists.intro); exact ⟨fin, rfl⟩)
        case measure => simp [intOf]; omega)
    · obtain rfl : k = ws.length := by omega
      clear hown hgr hbw
      rw [List.take_length, HAW.out] at HOWN
      have hx := X2.out.below HBW.out (by omega : w.heap.size < W2.heap.size)
      have c0 := hx.cell 0
      have c1 := hx.cell 1
      have z0 := hx.frozen 0
      have z1 := hx.frozen 1
      simp at c0 c1
      have G9 := Lib.hid (G0.out.trans (HBW.out.mono (by omega)))
      clear hx
      go_wp2_with fail
      refine bodyPost_ret (v := .agg #[.slice (some ⟨b3, off3, none⟩) image.length c3, .int .i64 0]) (by simp [results, Tryd.results6, go_sem, c0, c1]) rfl ⟨_, rfl, ?_, ?_⟩
      · show Own _ _ _ (applyL image l).length 1 _
        rw [applyL_length]
        refine ((HOWN.out.other ⟨w.heap.size, 0, none⟩ _ (fun k hk => ?_)).other ⟨w.heap.size, 1, none⟩ _ (fun k hk => ?_)).lower (by omega)
        · have := (HOWN.out.blk k hk).1
          simp; omega
        · have := (HOWN.out.blk k hk).1
          simp; omega
      · exact (G9.out.setCell (p := ⟨w.heap.size, 0, none⟩) (Nat.le_refl _) _).setCell (p := ⟨w.heap.size, 1, none⟩) (Nat.le_refl _) _
end Go.Proofs.YtcckpkcjekcajaaDoor
