/- The program's ActsDo, whole. -/
import Derived.Test.YtocjjkjjojdpdaaIActs
namespace Go.Proofs.Ytocjjkjjojdpdaa
open Go.RowKit

theorem done_bad {F : FM} {a : actT} (h : (doneOf F a).code ≠ 0) : doneOf F a = illOf (doneOf F a).code := by
  unfold doneOf at *
  split at h
  · rename_i h1
    rw [if_pos h1]
    unfold fsyncOf at *
    split at h
    · exact absurd rfl h
    · rename_i h2; rw [if_neg h2]; rfl
  · rename_i h1
    rw [if_neg h1]
    unfold writeOf at *
    split at h
    · rename_i h2; rw [if_pos h2]; rfl
    · rename_i h2
      rw [if_neg h2]
      split at h
      · rename_i h3
        rw [if_pos h3]
        split at h
        · exact absurd rfl h
        · rename_i h4; rw [if_neg h4]; rfl
      · rename_i h3; rw [if_neg h3]; rfl
theorem doL_done (F : FM) (l : List actT) (k : Nat) (h : k < l.length) (h0 : (doL F (l.take k)).code = 0) : doL F (l.take (k + 1)) = doneOf (doL F (l.take k)).fl l[k] := by
  rw [doL_step F l k h]
  unfold stepA
  rw [if_pos h0]; rfl
theorem doOf_all {F : FM} {l : List actT} (h : (doL F l).code = 0) : doOf F l = doL F l := if_pos h
theorem doOf_stop {F : FM} {l : List actT} {k : Nat} (hk : k < l.length) (h0 : (doL F (l.take k)).code = 0) (h1 : (doL F (l.take (k + 1))).code ≠ 0) : doOf F l = doL F (l.take (k + 1)) := by
  have e := doL_stay F l (k + 1) (by omega) h1
  have b := doL_done F l k hk h0
  unfold doOf
  rw [e, if_neg h1]
  rw [b] at h1 ⊢
  exact (done_bad h1).symm
def IDoRel (F : FM) (l : List actT) (w : World) (lo ob : Nat) (T : TypeId) (W : World) (i : Value) (wr : World) : Prop :=
  ∃ (k : Nat) (sv dv : Value), k ≤ l.length ∧ i = .int .i64 k ∧ (doL F (l.take k)).code = 0 ∧ Bx wr ob T #[sv, dv, .string (doL F (l.take k)).data, .int .i64 (doL F (l.take k)).code] ∧ FOwn wr lo sv dv (doL F (l.take k)).fl ∧ (∀ q, (blk sv (doL F (l.take k)).fl.sec.length = some q ∨ blk dv (doL F (l.take k)).fl.dir.length = some q) → q ≠ ob) ∧ Below ob W wr

set_option maxHeartbeats 8000000 in
set_option maxRecDepth 100000 in
theorem implActsDo (sv dv : Value) (F : FM) (vl : Value) (l : List actT) (w : World) (h : FRd w sv dv F) (hz : Sized F) (hl : Rd w vl l.length 3 (actCs l)) (hn : l.length ≤ 1048576) (hx : ∀ a ∈ l, a.2.2.size ≤ 1048576) :
    Calls Try.prog 12 #[.agg #[sv, dv], vl] w (OMade w (actsOf F l)) := by
  obtain ⟨a, c, rfl, -⟩ := id h.1.2
  obtain ⟨a', c', rfl, -⟩ := id h.2.2
  obtain ⟨al, cl, rfl, -⟩ := id hl.2
  have HZ := Lib.hid hz
  have HR := Lib.hid h
  have HV := Lib.hid hl
  have HX := Lib.hid hx
  obtain ⟨O, hO⟩ : ∃ O, O = actsOf F l := ⟨_, rfl⟩
  rw [← hO]
  unfold actsOf at hO
  have H0 := Lib.hid hO
  clear h hz hl hx hO
  have b0 := below_alloc1 w (.cells #[.slice a F.sec.length c, .slice a' F.dir.length c'] 33)
  have z0 := size_alloc1 w (.cells #[.slice a F.sec.length c, .slice a' F.dir.length c'] 33)
  have y0 := bx_new (w.alloc (.cells #[.slice a F.sec.length c, .slice a' F.dir.length c'] 33)) 35 #[.slice none 0 0, .slice none 0 0, .string { data := #[] }, .int .i64 0]
  have b1 := below_alloc1 (w.alloc (.cells #[.slice a F.sec.length c, .slice a' F.dir.length c'] 33)) (.cells #[.slice none 0 0, .slice none 0 0, .string { data := #[] }, .int .i64 0] 35)
  have z1 := size_alloc1 (w.alloc (.cells #[.slice a F.sec.length c, .slice a' F.dir.length c'] 33)) (.cells #[.slice none 0 0, .slice none 0 0, .string { data := #[] }, .int .i64 0] 35)
  have x0 := (bx_new w 33 #[.slice a F.sec.length c, .slice a' F.dir.length c']).next b1
  have bw := b0.trans (b1.mono (by omega))
  rw [z0] at y0 z1
  obtain ⟨W, hW⟩ : ∃ W, W = (w.alloc (.cells #[.slice a F.sec.length c, .slice a' F.dir.length c'] 33)).alloc (.cells #[.slice none 0 0, .slice none 0 0, .string { data := #[] }, .int .i64 0] 35) := ⟨_, rfl⟩
  rw [← hW] at x0 y0 z1 bw
  have X0 := Lib.hid x0
  have Y0 := Lib.hid y0
  have B0 := Lib.hid bw
  clear x0 y0 b0 b1 bw z0
  by_cases hbig : 400 < l.length
  · have hO : O = illOf 2 := by rw [H0.out, if_pos hbig]
    clear H0
    subst hO
    have d0 : decide ((400 : Int) < (l.length : Int)) = true := decide_eq_true (by omega)
    go_enter Try.func12, Try.ntmps12
    go_wp2_with fail
    have z0 := size_alloc1 w (.cells #[.slice a F.sec.length c, .slice a' F.dir.length c'] 33)
    have y2 := bx_new (w.alloc (.cells #[.slice a F.sec.length c, .slice a' F.dir.length c'] 33)) 35 #[.slice none 0 0, .slice none 0 0, .string { data := #[] }, .int .i64 2]
    rw [z0] at y2
    have q0 := y2.q0
    have q1 := y2.q1
    have q2 := y2.q2
    have q3 := y2.q3
    refine bodyPost_ret (v := .agg #[.slice none 0 0, .slice none 0 0, .string (illOf 2).data, .int .i64 (illOf 2).code]) (by simp [results, Try.results12, go_sem, q0, q1, q2, q3, illOf]; rfl) rfl ⟨_, _, rfl, noFlash_own _ _, ?_⟩
    exact ((Below.refl _ w).alloc (Nat.le_refl _) _).alloc (by simp) _
  have d0 : decide ((400 : Int) < (l.length : Int)) = false := decide_eq_false (by omega)
  have H1 := Lib.hid (H0.out.trans (if_neg hbig))
  clear H0
  go_enter Try.func12, Try.ntmps12
  go_wp2_with fail
  rw [← hW]
  clear hW
  refine (implRight _ _ F W (HR.out.below B0.out (Nat.le_refl _)) HZ.out.1 HZ.out.2.1 HZ.out.2.2).mono ?_
  rintro e w1 ⟨b, rfl, hiff, hb1⟩
  have hz1 : W.heap.size ≤ w1.heap.size := hb1.size
  have X1 := Lib.hid (X0.out.next hb1)
  have Y1 := Lib.hid (Y0.out.next hb1)
  have B1 := Lib.hid (B0.out.trans (hb1.mono (by omega)))
  clear hb1 X0 Y0 B0
  cases b with
  | false =>
    have hnr : ¬ Right F := fun r => by simpa using hiff.2 r
    have hO : O = illOf 1 := by rw [H1.out, if_neg hnr]
    clear H1 hiff hnr
    subst hO
    have q0 := Y1.out.q0
    have q1 := Y1.out.q1
    have q2 := Y1.out.q2
    have q3 := Y1.out.q3
    have f0 := Y1.out.frozen 0
    have f1 := Y1.out.frozen 1
    have f2 := Y1.out.frozen 2
    have f3 := Y1.out.frozen 3
    go_wp2_with fail
    refine bodyPost_ret (v := .agg #[.slice none 0 0, .slice none 0 0, .string (illOf 1).data, .int .i64 (illOf 1).code]) (by simp [results, Try.results12, go_sem, q0, q1, q2, q3, illOf]; rfl) rfl ⟨_, _, rfl, noFlash_own _ _, ?_⟩
    exact (((B1.out.setCell (p := ⟨w.heap.size + 1, 0, none⟩) (by simp) _).setCell (p := ⟨w.heap.size + 1, 1, none⟩) (by simp) _).setCell (p := ⟨w.heap.size + 1, 2, none⟩) (by simp) _).setCell (p := ⟨w.heap.size + 1, 3, none⟩) (by simp) _
  | true =>
    have hr : Right F := hiff.1 rfl
    have HRT := Lib.hid hr
    obtain ⟨l0, l1, l2⟩ : 1 ≤ F.sec.length ∧ F.sec.length ≤ 40 ∧ F.dir.length ≤ 40 := ⟨hr.least, hr.most, Nat.le_trans hr.dirty hr.most⟩
    have H2 := Lib.hid (H1.out.trans (if_pos hr))
    clear H1 hiff hr
    go_wp2_with fail
    refine (contains_any _ l w1 (HV.out.below B1.out (Nat.le_refl _)) hn).mono ?_
    rintro e w2 ⟨b, rfl, hiff, hb2⟩
    have hz2 : w1.heap.size ≤ w2.heap.size := hb2.size
    have X2 := Lib.hid (X1.out.next hb2)
    have Y2 := Lib.hid (Y1.out.next hb2)
    have B2 := Lib.hid (B1.out.trans (hb2.mono (by omega)))
    clear hb2 X1 Y1 B1
    cases b with
    | true =>
      have hO : O = illOf 1 := by rw [H2.out, if_pos (hiff.1 rfl)]
      clear H2 hiff
      subst hO
      have q0 := Y2.out.q0
      have q1 := Y2.out.q1
      have q2 := Y2.out.q2
      have q3 := Y2.out.q3
      have f0 := Y2.out.frozen 0
      have f1 := Y2.out.frozen 1
      have f2 := Y2.out.frozen 2
      have f3 := Y2.out.frozen 3
      go_wp2_with fail
      refine bodyPost_ret (v := .agg #[.slice none 0 0, .slice none 0 0, .string (illOf 1).data, .int .i64 (illOf 1).code]) (by simp [results, Try.results12, go_sem, q0, q1, q2, q3, illOf]; rfl) rfl ⟨_, _, rfl, noFlash_own _ _, ?_⟩
      exact (((B2.out.setCell (p := ⟨w.heap.size + 1, 0, none⟩) (by simp) _).setCell (p := ⟨w.heap.size + 1, 1, none⟩) (by simp) _).setCell (p := ⟨w.heap.size + 1, 2, none⟩) (by simp) _).setCell (p := ⟨w.heap.size + 1, 3, none⟩) (by simp) _
    | false =>
      have hO : O = doOf F l := by rw [H2.out, if_neg (fun r => by simpa using hiff.2 r)]
      have HO := Lib.hid hO
      clear H2 hiff hO
      have c0 := X2.out.c0
      have c1 := X2.out.c1
      go_wp2_with fail
      refine (implOpened _ _ F w2 (HR.out.below B2.out (Nat.le_refl _)) HRT.out).mono ?_
      rintro e w3 ⟨pb, mb, sv3, ov3, rfl, hof, hb3⟩
      have hz3 : w2.heap.size ≤ w3.heap.size := hb3.size
      have HOF := Lib.hid hof
      have Y3 := Lib.hid (Y2.out.next hb3)
      have B3 := Lib.hid (B2.out.trans (hb3.mono (by omega)))
      clear hof hb3 c0 c1 B2 X2 Y2
      go_wp2_with fail
      refine (implClosed _ _ _ _ _ _ _ _ _ w3 HOF.out (by omega) (by simp; omega) (fun x hx => by obtain ⟨p1, p2, p3⟩ := mem_in HRT.out x hx; exact ⟨p1, p2, by omega⟩)).mono ?_
      rintro e w4 ⟨sv4, dv4, rfl, ho4, hb4⟩
      rw [listOf_self F.dir HRT.out.once] at ho4
      have ho5 : FOwn w4 w3.heap.size sv4 dv4 F := ho4
      obtain ⟨a1, p1, rfl, -⟩ := id ho5.1.2
      obtain ⟨a2, p2, rfl, -⟩ := id ho5.2.1.2
      have hz4 : w3.heap.size ≤ w4.heap.size := hb4.size
      have O4 := Lib.hid ho5
      have Y4 := Lib.hid (Y3.out.next hb4)
      have B4 := Lib.hid (B3.out.trans (hb4.mono (by omega)))
      clear ho4 ho5 hb4 HOF Y3 B3
      go_wp2_with fail
      have OB := Lib.hid (bx_new w4 35 #[.slice a1 F.sec.length p1, .slice a2 F.dir.length p2, .string { data := #[] }, .int .i64 0])
      have BB := Lib.hid (below_alloc1 w4 (.cells #[.slice a1 F.sec.length p1, .slice a2 F.dir.length p2, .string { data := #[] }, .int .i64 0] 35))
      generalize w4.alloc (.cells #[.slice a1 F.sec.length p1, .slice a2 F.dir.length p2, .string { data := #[] }, .int .i64 0] 35) = W5 at *
      go_loopw [7, 26] (fun _ i wr => IDoRel F l w (w.heap.size + 2) w4.heap.size 35 w4 i wr) (fun _ i _ => l.length - (intOf i).toNat)
      case atStart =>
        refine ⟨0, _, _, by omega, rfl, rfl, OB.out, (O4.out.below BB.out (Nat.le_refl _)).lower (by omega), fun q hq => ?_, BB.out⟩
        have := (O4.out.in q hq).2
        omega
      case round =>
        obtain ⟨k, sv, dv, hk, rfl, hc0, hbx, hfo, hap, hbw⟩ := hrel
        obtain ⟨Q, hQ⟩ : ∃ Q, Q = doL F (l.take k) := ⟨_, rfl⟩
        rw [← hQ] at hbx hfo hap hc0
        have hzd := doL_sized HZ.out HX.out k hk
        rw [← hQ] at hzd
        rw [hc0] at hbx
        obtain ⟨a3, p3, rfl, -⟩ := id hfo.1.2
        obtain ⟨a4, p4, rfl, -⟩ := id hfo.2.1.2
        have hob : w4.heap.size < wr.heap.size := hbx.lt
        have HQ := Lib.hid hQ
        have HZD := Lib.hid hzd
        have HFO := Lib.hid hfo
        have HBX := Lib.hid hbx
        have HBW := Lib.hid hbw
        have BWW := Lib.hid (B4.out.trans (hbw.mono (by omega)))
        have Y5 := Lib.hid (Y4.out.below hbw Y4.out.lt)
        clear hbx hfo hap hbw hQ hzd
        by_cases hlt : k < l.length
        · obtain ⟨b, off, rfl, hbl, hcell⟩ := HV.out.get (by omega)
          have r0 : wr.cell? ⟨b, off + k * 3, none⟩ = some (.bool l[k].1) := by rw [BWW.out.cell (p := ⟨b, off + k * 3, none⟩) hbl, hcell (k * 3) (by omega), actCs_0 l k hlt]
          have r1 : wr.cell? ⟨b, off + k * 3 + 1, none⟩ = some (.int .i64 l[k].2.1) := by rw [BWW.out.cell (p := ⟨b, off + k * 3 + 1, none⟩) hbl, Nat.add_assoc, hcell (k * 3 + 1) (by omega), actCs_1 l k hlt]
          have r2 : wr.cell? ⟨b, off + k * 3 + 2, none⟩ = some (.string l[k].2.2) := by rw [BWW.out.cell (p := ⟨b, off + k * 3 + 2, none⟩) hbl, Nat.add_assoc, hcell (k * 3 + 2) (by omega), actCs_2 l k hlt]
          have e0 : (k : Int) < (l.length : Int) := by omega
          have e1 : (0 : Int) ≤ (k : Int) := by omega
          have hsz := HX.out l[k] (List.getElem_mem hlt)
          obtain ⟨s, hs⟩ : ∃ s, l[k].1 = s := ⟨_, rfl⟩
          obtain ⟨p, hp⟩ : ∃ p, l[k].2.1 = p := ⟨_, rfl⟩
          obtain ⟨d, hd⟩ : ∃ d, l[k].2.2 = d := ⟨_, rfl⟩
          have hstep := doL_done F l k hlt (by rw [← HQ.out]; exact hc0)
          rw [← HQ.out, show l[k] = (s, p, d) by rw [← hs, ← hp, ← hd]] at hstep
          rw [hs] at r0
          rw [hp] at r1
          rw [hd] at r2 hsz
          obtain ⟨P, hP⟩ : ∃ P, P = doneOf Q.fl (s, p, d) := ⟨_, rfl⟩
          rw [← hP] at hstep
          have HST := Lib.hid hstep
          have HP := Lib.hid hP
          clear hcell hstep hs hp hd hP
          have u0 := (HBX.out.next (below_alloc1 wr (.cells #[.bool s, .int .i64 p, .string d] 58))).q0
          have u1 := (HBX.out.next (below_alloc1 wr (.cells #[.bool s, .int .i64 p, .string d] 58))).q1
          go_wp2_with fail
          have hcall := implDone _ _ Q.fl s p d (wr.alloc (.cells #[.bool s, .int .i64 p, .string d] 58)) (HFO.out.below (below_alloc1 wr _) (Nat.le_refl _)).rd HZD.out hsz
          rw [← HP.out] at hcall
          refine hcall.mono ?_
          clear hcall u0 u1
          rintro e w2 ⟨s2, t2, rfl, ho2, hb2⟩
          obtain ⟨a5, p5, rfl, -⟩ := id ho2.1.2
          obtain ⟨a6, p6, rfl, -⟩ := id ho2.2.1.2
          have zz := size_alloc1 wr (.cells #[.bool s, .int .i64 p, .string d] 58)
          have hb3 := (below_alloc1 wr (.cells #[.bool s, .int .i64 p, .string d] 58)).trans (hb2.mono (by omega))
          have hbx2 := HBX.out.next hb3
          have k0 := hbx2.q0
          have k1 := hbx2.q1
          have k2 := hbx2.q2
          have k3 := hbx2.q3
          have g0 := hbx2.frozen 0
          have g1 := hbx2.frozen 1
          have g2 := hbx2.frozen 2
          have g3 := hbx2.frozen 3
          have hz2' : wr.heap.size ≤ w2.heap.size := hb3.size
          have HO2 := Lib.hid (ho2.lower (by omega : wr.heap.size ≤ _))
          have HBX2 := Lib.hid hbx2
          have HB2 := Lib.hid (HBW.out.trans (hb3.mono (by omega)))
          have hne : ∀ q, (blk (.slice a5 P.fl.sec.length p5) P.fl.sec.length = some q ∨ blk (.slice a6 P.fl.dir.length p6) P.fl.dir.length = some q) → q ≠ w4.heap.size := fun q hq => by have := (HO2.out.in q hq).1; omega
          have NE := Lib.hid hne
          clear ho2 hb2 hb3 hbx2 hne HFO HBX
          have fx : Bx ((((w2.setCell ⟨w4.heap.size, 0, none⟩ (.slice a5 P.fl.sec.length p5)).setCell ⟨w4.heap.size, 1, none⟩ (.slice a6 P.fl.dir.length p6)).setCell ⟨w4.heap.size, 2, none⟩ (.string P.data)).setCell ⟨w4.heap.size, 3, none⟩ (.int .i64 P.code)) w4.heap.size 35 #[.slice a5 P.fl.sec.length p5, .slice a6 P.fl.dir.length p6, .string P.data, .int .i64 P.code] := (((HBX2.out.set _).set _).set _).set _
          have fo : FOwn ((((w2.setCell ⟨w4.heap.size, 0, none⟩ (.slice a5 P.fl.sec.length p5)).setCell ⟨w4.heap.size, 1, none⟩ (.slice a6 P.fl.dir.length p6)).setCell ⟨w4.heap.size, 2, none⟩ (.string P.data)).setCell ⟨w4.heap.size, 3, none⟩ (.int .i64 P.code)) (w.heap.size + 2) (.slice a5 P.fl.sec.length p5) (.slice a6 P.fl.dir.length p6) P.fl := ((((HO2.out.not (n := 0) _ _ NE.out).not (n := 0) _ _ NE.out).not (n := 0) _ _ NE.out).not (n := 0) _ _ NE.out).lower (by omega)
          have fb : Below w4.heap.size w4 ((((w2.setCell ⟨w4.heap.size, 0, none⟩ (.slice a5 P.fl.sec.length p5)).setCell ⟨w4.heap.size, 1, none⟩ (.slice a6 P.fl.dir.length p6)).setCell ⟨w4.heap.size, 2, none⟩ (.string P.data)).setCell ⟨w4.heap.size, 3, none⟩ (.int .i64 P.code)) := (((HB2.out.setCell (p := ⟨w4.heap.size, 0, none⟩) (Nat.le_refl _) _).setCell (p := ⟨w4.heap.size, 1, none⟩) (Nat.le_refl _) _).setCell (p := ⟨w4.heap.size, 2, none⟩) (Nat.le_refl _) _).setCell (p := ⟨w4.heap.size, 3, none⟩) (Nat.le_refl _) _
          have FX := Lib.hid fx
          have FO := Lib.hid fo
          have FB := Lib.hid fb
          clear fx fo fb HB2 HO2 HBX2
          by_cases hpc : P.code = 0
          · have dd : (P.code != 0) = false := by simp [hpc]
            go_wp2_with fail
            go_roundw
            case rel =>
              have fin : IDoRel F l w (w.heap.size + 2) w4.heap.size 35 w4 (.int .i64 ((k : Int) + 1)) ((((w2.setCell ⟨w4.heap.size, 0, none⟩ (.slice a5 P.fl.sec.length p5)).setCell ⟨w4.heap.size, 1, none⟩ (.slice a6 P.fl.dir.length p6)).setCell ⟨w4.heap.size, 2, none⟩ (.string P.data)).setCell ⟨w4.heap.size, 3, none⟩ (.int .i64 P.code)) := by
                refine ⟨k + 1, .slice a5 P.fl.sec.length p5, .slice a6 P.fl.dir.length p6, by omega, by go_num, ?_, ?_, ?_, ?_, FB.out⟩
                · rw [HST.out]; exact hpc
                · rw [HST.out]; exact FX.out
                · rw [HST.out]; exact FO.out
                · rw [HST.out]; exact NE.out
              first | exact fin | (rw [hpc] at fin; exact fin) | ((repeat apply Exists.intro); exact ⟨fin, rfl⟩)
            case measure => simp [intOf]; omega
          · have dd : (P.code != 0) = true := by simpa using hpc
            have hO : O = P := by
              rw [HO.out, doOf_stop hlt (by rw [← HQ.out]; exact hc0) (by rw [HST.out]; exact hpc), HST.out]
            subst hO
            have FY := Lib.hid (Y4.out.below FB.out Y4.out.lt)
            have n0 := FY.out.q0
            have n1 := FY.out.q1
            have n2 := FY.out.q2
            have n3 := FY.out.q3
            have m0 := FY.out.frozen 0
            have m1 := FY.out.frozen 1
            have m2 := FY.out.frozen 2
            have m3 := FY.out.frozen 3
            have v0 := FX.out.q0
            have v1 := FX.out.q1
            have v2 := FX.out.q2
            have v3 := FX.out.q3
            have FBW := Lib.hid (B4.out.trans (FB.out.mono (by omega)))
            go_wp2_with fail
            refine bodyPost_ret (v := .agg #[.slice a5 O.fl.sec.length p5, .slice a6 O.fl.dir.length p6, .string O.data, .int .i64 O.code]) (by simp [results, Try.results12, go_sem, n0, n1, n2, n3]) rfl ⟨_, _, rfl, ?_, ?_⟩
            · exact ((((FO.out.other _ _ (by simp)).other _ _ (by simp)).other _ _ (by simp)).other _ _ (by simp)).lower (by omega)
            · exact (((FBW.out.setCell (p := ⟨w.heap.size + 1, 0, none⟩) (by simp) _).setCell (p := ⟨w.heap.size + 1, 1, none⟩) (by simp) _).setCell (p := ⟨w.heap.size + 1, 2, none⟩) (by simp) _).setCell (p := ⟨w.heap.size + 1, 3, none⟩) (by simp) _
        · obtain rfl : k = l.length := by omega
          have hO : O = Q := by
            have e := HQ.out
            rw [List.take_length] at e
            rw [HO.out, e, doOf_all (by rw [← e]; exact hc0)]
          subst hO
          have d1 : decide ((l.length : Int) < (l.length : Int)) = false := decide_eq_false (by omega)
          have n0 := Y5.out.q0
          have n1 := Y5.out.q1
          have n2 := Y5.out.q2
          have n3 := Y5.out.q3
          have m0 := Y5.out.frozen 0
          have m1 := Y5.out.frozen 1
          have m2 := Y5.out.frozen 2
          have m3 := Y5.out.frozen 3
          have v0 := HBX.out.q0
          have v1 := HBX.out.q1
          have v2 := HBX.out.q2
          have v3 := HBX.out.q3
          go_wp2_with fail
          refine bodyPost_ret (v := .agg #[.slice a3 O.fl.sec.length p3, .slice a4 O.fl.dir.length p4, .string O.data, .int .i64 0]) (by simp [results, Try.results12, go_sem, n0, n1, n2, n3]) rfl ⟨_, _, by rw [hc0], ?_, ?_⟩
          · exact ((((HFO.out.other _ _ (by simp)).other _ _ (by simp)).other _ _ (by simp)).other _ _ (by simp)).lower (by omega)
          · exact (((BWW.out.setCell (p := ⟨w.heap.size + 1, 0, none⟩) (by simp) _).setCell (p := ⟨w.heap.size + 1, 1, none⟩) (by simp) _).setCell (p := ⟨w.heap.size + 1, 2, none⟩) (by simp) _).setCell (p := ⟨w.heap.size + 1, 3, none⟩) (by simp) _
end Go.Proofs.Ytocjjkjjojdpdaa
