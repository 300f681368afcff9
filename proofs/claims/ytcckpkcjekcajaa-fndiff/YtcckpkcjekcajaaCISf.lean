/- The program's StepsFor. -/
import Derived.Test.YtcckpkcjekcajaaCISm
namespace Go.Proofs.Ytcckpkcjekcajaa
open Go.RowKit

/-- Two valid images of the same number of blocks. -/
def alikeB (old fresh : List ByteArray) : Bool := imgB old && imgB fresh && decide (old.length = fresh.length)
theorem alikeB_iff (old fresh : List ByteArray) : alikeB old fresh = true ↔ imgB old = true ∧ imgB fresh = true ∧ old.length = fresh.length := by unfold alikeB; simp [and_assoc]
set_option maxRecDepth 100000 in
set_option maxHeartbeats 1000000 in
theorem implAlike (v u : Value) (old fresh : List ByteArray) (w : World) (h : Rd w v old.length 1 (strs old)) (hu : Rd w u fresh.length 1 (strs fresh)) (hn : old.length ≤ 1048576) (hm : fresh.length ≤ 1048576) :
    Calls Try.prog 65 #[v, u] w fun e w' => e = .returned (.bool (alikeB old fresh)) ∧ w = w' := by
  obtain ⟨a, c, rfl, -⟩ := id h.2
  obtain ⟨a', c', rfl, -⟩ := id hu.2
  obtain ⟨R, hR⟩ : ∃ R, R = alikeB old fresh := ⟨_, rfl⟩
  rw [← hR]
  unfold alikeB at hR
  have HR := Lib.hid hR
  have HA := Lib.hid h
  have HU := Lib.hid hu
  clear hR h hu
  go_enter Try.func65, Try.ntmps65
  go_wp2_with fail
  refine (implImg _ old w HA.out hn).mono ?_
  rintro e w1 ⟨rfl, rfl⟩
  cases hio : imgB old with
  | false =>
    rw [hio] at HR
    have hr : R = false := by rw [HR.out]; rfl
    subst hr
    clear HR hio
    go_wp2_with fail
    go_ret
    exact ⟨rfl, rfl⟩
  | true =>
    rw [hio] at HR
    clear hio
    go_wp2_with fail
    refine (implImg _ fresh w HU.out hm).mono ?_
    rintro e w1 ⟨rfl, rfl⟩
    cases hif : imgB fresh with
    | false =>
      rw [hif] at HR
      have hr : R = false := by rw [HR.out]; rfl
      subst hr
      clear HR hif
      go_wp2_with fail
      go_ret
      exact ⟨rfl, rfl⟩
    | true =>
      rw [hif] at HR
      have hr : ((old.length : Int) == (fresh.length : Int)) = R := by rw [HR.out, Bool.eq_iff_iff]; simp; omega
      have HX := Lib.hid hr
      clear HR hif hr
      go_wp2_with fail
      go_ret
      exact ⟨congrArg (fun b => Ending.returned (.bool b)) HX.out, rfl⟩
set_option maxRecDepth 100000 in
set_option maxHeartbeats 4000000 in
theorem implStepsFor (v u : Value) (old fresh : List ByteArray) (w : World) (h : Rd w v old.length 1 (strs old)) (hu : Rd w u fresh.length 1 (strs fresh)) (hn : old.length ≤ 1048576) (hm : fresh.length ≤ 1048576) :
    Calls Try.prog 34 #[v, u] w (MadeS w (forL old fresh)) := by
  obtain ⟨i0, hi, hz0, hz1, hz2⟩ := info_parts Try.infostp
  obtain ⟨a, c, rfl, -⟩ := id h.2
  obtain ⟨a', c', rfl, -⟩ := id hu.2
  obtain ⟨R, hR⟩ : ∃ R, R = forL old fresh := ⟨_, rfl⟩
  rw [← hR]
  have HR := Lib.hid hR
  have HA := Lib.hid h
  have HU := Lib.hid hu
  clear hR h hu
  cases hal : alikeB old fresh with
  | false =>
    have hr : R = [] := by rw [HR.out]; exact forL_no (fun h => by rw [(alikeB_iff _ _).2 h] at hal; cases hal)
    subst hr
    have HI := Lib.hid hal
    clear HR hal
    go_enter Try.func34, Try.ntmps34
    go_wp2_with fail
    refine (implAlike _ _ old fresh w HA.out HU.out hn hm).mono ?_
    rintro e w1 ⟨rfl, rfl⟩
    rw [HI.out]
    go_wp2_with fail
    go_ret
    exact ⟨_, rfl, Gr.nil _ _ _ _, Below.refl _ _⟩
  | true =>
  obtain ⟨hio, hif, hlen⟩ := (alikeB_iff _ _).1 hal
  have HAL := Lib.hid hal
  have HIO := Lib.hid hio
  have HIF := Lib.hid hif
  clear hal hio hif
  have HLN := Lib.hid hlen
  have OKO := Lib.hid ((imgB_iff _).1 HIO.out)
  have OKF := Lib.hid ((imgB_iff _).1 HIF.out)
  obtain ⟨⟨n0, n1⟩, -⟩ := id OKO.out
  obtain ⟨⟨m0, m1⟩, -⟩ := id OKF.out
  have hr : R = forT old fresh old.length := by rw [HR.out]; exact forL_yes ⟨HIO.out, HIF.out, hlen⟩
  have HRR := Lib.hid hr
  clear HR hr hlen
  go_enter Try.func34, Try.ntmps34
  go_wp2_with fail
  refine (implAlike _ _ old fresh w HA.out HU.out hn hm).mono ?_
  rintro e w1 ⟨rfl, rfl⟩
  rw [HAL.out]
  clear HIO HIF HAL
  go_wp2_with fail
  refine (implAll _ old w HA.out OKO.out).mono ?_
  rintro e W1 ⟨v1, rfl, ho1, hb1⟩
  obtain ⟨a1, c1, rfl, -⟩ := id ho1.2
  have HU1 := Lib.hid (HU.out.below hb1 (Nat.le_refl _))
  have B1 := Lib.hid hb1
  have R1 := Lib.hid ho1.rd
  have hz1w := hb1.size
  clear ho1 hb1 HA HU
  go_wp2_with fail
  refine (implAll _ fresh W1 HU1.out OKF.out).mono ?_
  rintro e W2 ⟨v2, rfl, ho2, hb2⟩
  obtain ⟨a2, c2, rfl, -⟩ := id ho2.2
  have B2 := Lib.hid (B1.out.trans (hb2.mono hz1w))
  have RO := Lib.hid (R1.out.below hb2 (Nat.le_refl _))
  have RF := Lib.hid ho2.rd
  have hz2w := B2.out.size
  clear ho2 hb2 HU1 B1 R1
  go_wp2_with fail
  go_loopw [6, 18] (fun lv i wr => SfRel old fresh W2 lv i wr) (fun _ i _ => old.length - (intOf i).toNat)
  case atStart => exact ⟨0, by omega, rfl, Gr.nil _ _ _ _, Below.refl _ _⟩
  case round =>
    obtain ⟨k, hk, rfl, hg, hb⟩ := hrel
    obtain ⟨a3, c3, rfl⟩ := gr_form hg
    have HG := Lib.hid hg
    have HB := Lib.hid hb
    have hsz := hb.size
    have lenE := HLN.out
    by_cases hlt : k < old.length
    · have hlt2 : k < fresh.length := by omega
      obtain ⟨b, off, hp, hbl, hcell⟩ := RO.out.get (by omega)
      obtain ⟨b2, off2, hp2, hbl2, hcell2⟩ := RF.out.get (by omega)
      subst hp
      subst hp2
      have hbo : ∀ m', m' < 8 → wr.cell? ⟨b, off + k * 8 + m', none⟩ = some (.int .u8 (bat old[k] m').toNat) := fun m' hm' => (hb.cell (p := ⟨b, off + k * 8 + m', none⟩) hbl).trans (blk_cells rfl hlt hcell m' hm')
      have hbf : ∀ m', m' < 8 → wr.cell? ⟨b2, off2 + k * 8 + m', none⟩ = some (.int .u8 (bat fresh[k] m').toNat) := fun m' hm' => (hb.cell (p := ⟨b2, off2 + k * 8 + m', none⟩) hbl2).trans (blk_cells rfl hlt2 hcell2 m' hm')
      have e0 : (k : Int) < (fresh.length : Int) := by omega
      have e1 : (k : Int) < (old.length : Int) := by omega
      have e2 : (0 : Int) ≤ (k : Int) := by omega
      have hl1 := forT_len old fresh k
      have RD := Lib.hid (RO.out.below hb (Nat.le_refl _))
      have hbl3 : ∀ b, blk (.slice a3 (forT old fresh k).length c3) (forT old fresh k).length = some b → W2.heap.size ≤ b := fun b hb => (HG.out.own.blk b hb).1
      have HBL := Lib.hid hbl3
      have hf8 := OKF.out.2 _ (List.getElem_mem hlt2)
      have ho8 := OKO.out.2 _ (List.getElem_mem hlt)
      have hyes := fun he => forT_yes hlt hlt2 he
      have hno := fun he => forT_no hlt hlt2 he
      have HYES := Lib.hid hyes
      have HNO := Lib.hid hno
      have hbw : b < wr.heap.size := by omega
      have hb2w : b2 < wr.heap.size := by omega
      clear hcell hcell2 hb hg hbl3 lenE hyes hno
      generalize old[k] = x0 at *
      generalize fresh[k] = x1 at *
      have p0 := hbo 0 (by decide)
      have p1 := hbo 1 (by decide)
      have p2 := hbo 2 (by decide)
      have p3 := hbo 3 (by decide)
      have p4 := hbo 4 (by decide)
      have p5 := hbo 5 (by decide)
      have p6 := hbo 6 (by decide)
      have p7 := hbo 7 (by decide)
      rw [Nat.add_zero] at p0
      have q0 := hbf 0 (by decide)
      have q1 := hbf 1 (by decide)
      have q2 := hbf 2 (by decide)
      have q3 := hbf 3 (by decide)
      have q4 := hbf 4 (by decide)
      have q5 := hbf 5 (by decide)
      have q6 := hbf 6 (by decide)
      have q7 := hbf 7 (by decide)
      rw [Nat.add_zero] at q0
      obtain ⟨WA, hWA⟩ : ∃ WA, WA = wr.alloc (.cells (blkA x1) 87) := ⟨_, rfl⟩
      have gA := below_alloc1 wr (.cells (blkA x1) 87)
      have xA := bx_new wr 87 (blkA x1)
      rw [← hWA] at gA xA
      have heq := fun wx => blk_eq x1 x0 hf8 ho8 wx
      have hgd := eqGuard_blk
      rw [show wr.alloc (.cells (blkA x1) 87) = wr.alloc (.cells #[.int .u8 (bat x1 0).toNat, .int .u8 (bat x1 1).toNat, .int .u8 (bat x1 2).toNat, .int .u8 (bat x1 3).toNat, .int .u8 (bat x1 4).toNat, .int .u8 (bat x1 5).toNat, .int .u8 (bat x1 6).toNat, .int .u8 (bat x1 7).toNat] 87) from rfl] at hWA
      unfold blkA B at heq
      clear hbo hbf
      by_cases he : x0 = x1
      · have HX := Lib.hid (HYES.out he)
        rw [show decide (x1 = x0) = true from decide_eq_true he.symm] at heq
        have HGA := Lib.hid (HG.out.below gA (Nat.le_refl _))
        have HBA := Lib.hid (HB.out.trans (gA.mono hsz))
        rw [hWA] at HGA HBA
        clear he hf8 ho8 gA xA hWA HYES HNO
        go_wp2_with fail
        go_quiet (fail)
        go_wp2_with fail
        go_roundw
        case rel =>
          have fin : SfRel old fresh W2 (.slice a3 (forT old fresh k).length c3) (.int .i64 ((k : Int) + 1)) ((wr.alloc (.cells #[.int .u8 (bat x1 0).toNat, .int .u8 (bat x1 1).toNat, .int .u8 (bat x1 2).toNat, .int .u8 (bat x1 3).toNat, .int .u8 (bat x1 4).toNat, .int .u8 (bat x1 5).toNat, .int .u8 (bat x1 6).toNat, .int .u8 (bat x1 7).toNat] 87)).drewN nq) := by
            refine ⟨k + 1, by omega, by go_num, ?_, below_drewN HBA.out _⟩
            rw [HX.out]; exact HGA.out.below (below_drewN (Below.refl _ _) nq) (Nat.le_refl _)
          first | exact fin | ((repeat apply Exists.intro); exact ⟨fin, rfl⟩)
        case measure => simp [intOf]; omega
      · have HX := Lib.hid (HNO.out he)
        rw [show decide (x1 = x0) = false from decide_eq_false (fun h => he h.symm)] at heq
        clear he HYES HNO
        have GA := Lib.hid gA
        have XA := Lib.hid xA
        clear gA xA
        have HWA := Lib.hid hWA
        clear hWA
        go_wp2_with fail
        go_quiet (fail)
        rw [← HWA.out]
        have gA2 : Below wr.heap.size wr (WA.drewN nq) := below_drewN GA.out nq
        have xA2 : Bx (WA.drewN nq) wr.heap.size 87 (blkA x1) := XA.out
        have HG1 := Lib.hid (HG.out.below gA2 (Nat.le_refl _))
        have HB1 := Lib.hid (HB.out.trans (gA2.mono hsz))
        have RD1 := Lib.hid (RD.out.below gA2 (Nat.le_refl _))
        have hsz1 : W2.heap.size ≤ (WA.drewN nq).heap.size := Nat.le_trans hsz gA2.size
        generalize WA.drewN nq = wq at *
        have y0 := xA2.blk0
        have y1 := xA2.blk1
        have y2 := xA2.blk2
        have y3 := xA2.blk3
        have y4 := xA2.blk4
        have y5 := xA2.blk5
        have y6 := xA2.blk6
        have y7 := xA2.blk7
        unfold B at y0 y1 y2 y3 y4 y5 y6 y7
        have hcall := implFor _ old k x1 wq RD1.out OKO.out hf8 (by omega)
        rw [show blkA x1 = #[.int .u8 (bat x1 0).toNat, .int .u8 (bat x1 1).toNat, .int .u8 (bat x1 2).toNat, .int .u8 (bat x1 3).toNat, .int .u8 (bat x1 4).toNat, .int .u8 (bat x1 5).toNat, .int .u8 (bat x1 6).toNat, .int .u8 (bat x1 7).toNat] from rfl] at hcall
        clear HG HB RD GA XA heq p0 p1 p2 p3 p4 p5 p6 p7 q0 q1 q2 q3 q4 q5 q6 q7 gA2 xA2 HWA
        go_wp2_with fail
        refine hcall.mono ?_
        clear hcall y0 y1 y2 y3 y4 y5 y6 y7
        rintro e w2 ⟨rfl, hb2⟩
        have HG2 := Lib.hid (HG1.out.below hb2 (Nat.le_refl _))
        have HB2 := Lib.hid (HB1.out.trans (hb2.mono hsz1))
        have hsz2 := hb2.size
        clear hb2 HG1 HB1 RD1
        obtain ⟨x, hx⟩ : ∃ x, x = stepForS old k x1 := ⟨_, rfl⟩
        rw [← hx] at HX ⊢
        clear hx
        unfold stpW
        go_wp2_with ((with_reducible show wpList _ _ _ (⟨some 35, _, _, _, _, _⟩ :: _) _ _); refine wpList_append_gr (lo := W2.heap.size) (e := 57) (sz := 4) (v := .slice a3 (forT old fresh k).length c3) (n := (forT old fresh k).length) (xs := stpCs (forT old fresh k)) rfl (.tmp 29) (.tmp 34) 30 rfl i0 _ 40 Try.underlying30 hi hz0 hz1 hz2 rfl (by decide) rfl (by rw [stpCs_length]) ?_ ⟨w2.heap.size, 0, none⟩ 1 1 rfl [.int .i64 x.1, .int .i64 x.2.1, .int .i64 x.2.2.1, .string x.2.2.2] (by decide) rfl ?_ ?_ (by unfold maxLen; omega) (by omega) (by simp; omega) ?_)
        · exact HG2.out.below (below_alloc1 w2 _) (Nat.le_refl _)
        · exact four_new w2 (.int .i64 x.1) (.int .i64 x.2.1) (.int .i64 x.2.2.1) (.string x.2.2.2) 57
        · intro u hu; simp at hu; rcases hu with rfl | rfl | rfl | rfl <;> rfl
        · intro gg cc w4 hgn hgr hloc
          have hbw9 : Below W2.heap.size w2 w4 := ((below_alloc1 w2 _).mono (by omega)).trans ((Below.refl _ _).grown hgr (by simp; omega) HBL.out)
          have G4 := Lib.hid hgn
          have HB4 := Lib.hid (HB2.out.trans hbw9)
          clear hgn hgr hloc hbw9
          go_wp2_with fail
          go_roundw
          case rel =>
            have fin : SfRel old fresh W2 (.slice (some ⟨gg, 0, none⟩) ((forT old fresh k).length + 1) cc) (.int .i64 ((k : Int) + 1)) w4 := by
              refine ⟨k + 1, by omega, by go_num, ?_, HB4.out⟩
              rw [HX.out, stpCs_snoc]
              have := G4.out
              simpa using this
            first | exact fin | ((repeat apply Exists.intro); exact ⟨fin, rfl⟩)
          case measure => simp [intOf]; omega
    · obtain rfl : k = old.length := by omega
      have hRR : R = forT old fresh old.length := HRR.out
      clear HRR
      subst hRR
      clear hg hb
      go_wp2_with fail
      go_ret
      exact ⟨_, rfl, HG.out.lower hz2w, B2.out.trans (HB.out.mono hz2w)⟩
end Go.Proofs.Ytcckpkcjekcajaa
