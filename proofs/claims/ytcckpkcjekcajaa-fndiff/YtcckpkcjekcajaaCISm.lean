/- The program's stepMaking. -/
import Derived.Test.YtcckpkcjekcajaaCIIdx
namespace Go.Proofs.Ytcckpkcjekcajaa
open Go.RowKit

theorem four_at {w w' : World} {B g : Nat} (h : Below B w w') (hB : B ≤ g) (a b c d : Value) : Below B w ((((w'.setCell ⟨g, 0, none⟩ a).setCell ⟨g, 1, none⟩ b).setCell ⟨g, 2, none⟩ c).setCell ⟨g, 3, none⟩ d) :=
  (((h.setCell (p := ⟨g, 0, none⟩) hB a).setCell (p := ⟨g, 1, none⟩) hB b).setCell (p := ⟨g, 2, none⟩) hB c).setCell (p := ⟨g, 3, none⟩) hB d
set_option maxRecDepth 100000 in
set_option maxHeartbeats 4000000 in
theorem implFor (v : Value) (old : List ByteArray) (to : Nat) (fresh : ByteArray) (w : World) (h : Rd w v old.length 8 (blkCs old)) (ho : ImgOk old) (hf : fresh.size = 8) (ht : to ≤ 1048576) :
    Calls Try.prog 67 #[.agg (blkA fresh), .int .i64 (to : Int), v] w fun e w' => e = .returned (stpW (stepForS old to fresh)) ∧ Below w.heap.size w w' := by
  obtain ⟨⟨n0, n1⟩, -⟩ := id ho
  obtain ⟨a, c, rfl, -⟩ := id h.2
  obtain ⟨R, hR⟩ : ∃ R, R = stepForS old to fresh := ⟨_, rfl⟩
  rw [← hR]
  have HR := Lib.hid hR
  have OK := Lib.hid ho
  clear hR ho
  have b0 := below_alloc1 w (.cells (blkA fresh) 87)
  have b1 := b0.trans ((below_alloc1 (w.alloc (.cells (blkA fresh) 87)) (.cells #[.int .i64 0, .int .i64 0, .int .i64 0, .string ⟨#[]⟩] 57)).mono b0.size)
  have X0 := Lib.hid ((bx_new w 87 (blkA fresh)).next (below_alloc1 _ (.cells #[.int .i64 0, .int .i64 0, .int .i64 0, .string ⟨#[]⟩] 57)))
  have X1 := Lib.hid (bx_new (w.alloc (.cells (blkA fresh) 87)) 57 #[.int .i64 0, .int .i64 0, .int .i64 0, .string ⟨#[]⟩])
  rw [size_alloc1] at X1
  have HV := Lib.hid (h.below b1 (Nat.le_refl _))
  have HV0 := Lib.hid h
  have B1 := Lib.hid b1
  have HF := Lib.hid hf
  have hx0 := X0.out
  have k0 := hx0.blk0
  have k1 := hx0.blk1
  have k2 := hx0.blk2
  have k3 := hx0.blk3
  have k4 := hx0.blk4
  have k5 := hx0.blk5
  have k6 := hx0.blk6
  have k7 := hx0.blk7
  unfold B at k0 k1 k2 k3 k4 k5 k6 k7
  have heq := blk_eq fresh zero8 hf zero8_size ((w.alloc (.cells (blkA fresh) 87)).alloc (.cells #[.int .i64 0, .int .i64 0, .int .i64 0, .string ⟨#[]⟩] 57))
  rw [show blkA zero8 = #[.int .u8 0, .int .u8 0, .int .u8 0, .int .u8 0, .int .u8 0, .int .u8 0, .int .u8 0, .int .u8 0] from rfl] at heq
  have hgd := eqGuard_blk
  clear b0 b1 h hf hx0
  have HW := Lib.hid (show (w.alloc (.cells (blkA fresh) 87)).alloc (.cells #[.int .i64 0, .int .i64 0, .int .i64 0, .string ⟨#[]⟩] 57) = (w.alloc (.cells #[.int .u8 (bat fresh 0).toNat, .int .u8 (bat fresh 1).toNat, .int .u8 (bat fresh 2).toNat, .int .u8 (bat fresh 3).toNat, .int .u8 (bat fresh 4).toNat, .int .u8 (bat fresh 5).toNat, .int .u8 (bat fresh 6).toNat, .int .u8 (bat fresh 7).toNat] 87)).alloc (.cells #[.int .i64 0, .int .i64 0, .int .i64 0, .string ⟨#[]⟩] 57) from rfl)
  rw [HW.out] at k0 k1 k2 k3 k4 k5 k6 k7 heq
  rw [show blkA fresh = #[.int .u8 (bat fresh 0).toNat, .int .u8 (bat fresh 1).toNat, .int .u8 (bat fresh 2).toNat, .int .u8 (bat fresh 3).toNat, .int .u8 (bat fresh 4).toNat, .int .u8 (bat fresh 5).toNat, .int .u8 (bat fresh 6).toNat, .int .u8 (bat fresh 7).toNat] from rfl] at heq
  show Calls Try.prog 67 #[.agg #[.int .u8 (bat fresh 0).toNat, .int .u8 (bat fresh 1).toNat, .int .u8 (bat fresh 2).toNat, .int .u8 (bat fresh 3).toNat, .int .u8 (bat fresh 4).toNat, .int .u8 (bat fresh 5).toNat, .int .u8 (bat fresh 6).toNat, .int .u8 (bat fresh 7).toNat], .int .i64 (to : Int), .slice a old.length c] w _
  by_cases hzero : fresh = zero8
  · have hr : R = (1, (to : Int), 0, ⟨#[]⟩) := by rw [HR.out]; exact stepFor_zero hzero
    subst hr
    rw [decide_eq_true hzero] at heq
    clear HR hzero X0 X1
    rw [HW.out] at B1
    go_enter Try.func67, Try.ntmps67
    go_wp2_with fail
    refine bodyPost_ret (v := stpW (1, (to : Int), 0, ⟨#[]⟩)) (by simp [stpW, results, Try.results67, go_sem]) rfl ⟨rfl, ?_⟩
    first | exact four_at B1.out (by omega) _ _ _ _ | exact below_two _ _ _
  rw [decide_eq_false hzero] at heq
  have NZ := Lib.hid hzero
  clear hzero
  go_enter Try.func67, Try.ntmps67
  go_wp2_with fail
  rw [← HW.out]
  clear HW heq k0 k1 k2 k3 k4 k5 k6 k7
  generalize (w.alloc (.cells (blkA fresh) 87)).alloc (.cells #[.int .i64 0, .int .i64 0, .int .i64 0, .string ⟨#[]⟩] 57) = W at *
  have hix := indexBlk _ old fresh W HV.out OK.out HF.out
  rw [show blkA fresh = #[.int .u8 (bat fresh 0).toNat, .int .u8 (bat fresh 1).toNat, .int .u8 (bat fresh 2).toNat, .int .u8 (bat fresh 3).toNat, .int .u8 (bat fresh 4).toNat, .int .u8 (bat fresh 5).toNat, .int .u8 (bat fresh 6).toNat, .int .u8 (bat fresh 7).toNat] from rfl] at hix
  refine hix.mono ?_
  clear hix
  rintro e W1 ⟨r, rfl, hat, hb⟩
  have hzW := X1.out.lt
  replace X0 := Lib.hid (X0.out.next hb)
  replace X1 := Lib.hid (X1.out.next hb)
  replace HV := Lib.hid (HV.out.below hb (Nat.le_refl _))
  replace B1 := Lib.hid (B1.out.trans (hb.mono B1.out.size))
  clear hb hzW
  have AT := Lib.hid hat
  clear hat
  rcases id AT.out with ⟨i, hi, rfl, hp, hno⟩ | ⟨rfl, hno⟩
  · have hr : R = (3, (to : Int), (i : Int), ⟨#[]⟩) := by rw [HR.out]; exact stepFor_copy NZ.out hi hp hno
    subst hr
    have hx6 := X1.out
    have c0 := hx6.q0
    have c1 := hx6.q1
    have c2 := hx6.q2
    have c3 := hx6.q3
    have z0 := hx6.frozen 0
    have z1 := hx6.frozen 1
    have z2 := hx6.frozen 2
    have z3 := hx6.frozen 3
    clear HR hp hno hx6 AT
    go_wp2_with fail
    refine bodyPost_ret (v := stpW (3, (to : Int), (i : Int), ⟨#[]⟩)) (by simp [stpW, results, Try.results67, go_sem, c0, c1, c2, c3]) rfl ⟨rfl, ?_⟩
    exact four_at B1.out (by omega) _ _ _ _
  have NA := Lib.hid (show ∀ j (h : j < old.length), old[j] ≠ fresh from hno)
  clear AT hno
  go_wp2_with fail
  refine (indexNear _ old fresh w.heap.size W1 HV.out OK.out X0.out).mono ?_
  rintro e W2 ⟨r, rfl, hat, hb⟩
  have hzW := X1.out.lt
  replace X0 := Lib.hid (X0.out.next hb)
  replace X1 := Lib.hid (X1.out.next hb)
  replace HV := Lib.hid (HV.out.below hb (Nat.le_refl _))
  replace B1 := Lib.hid (B1.out.trans (hb.mono B1.out.size))
  clear hb hzW
  have AT := Lib.hid hat
  clear hat
  rcases id AT.out with ⟨i, hi, rfl, hp, hno⟩ | ⟨rfl, hno⟩
  rotate_left
  · have hr : R = (2, (to : Int), 0, fresh) := by rw [HR.out]; exact stepFor_put NZ.out NA.out hno
    subst hr
    have hx0 := X0.out
    have k0 := hx0.blk0
    have k1 := hx0.blk1
    have k2 := hx0.blk2
    have k3 := hx0.blk3
    have k4 := hx0.blk4
    have k5 := hx0.blk5
    have k6 := hx0.blk6
    have k7 := hx0.blk7
    unfold B at k0 k1 k2 k3 k4 k5 k6 k7
    have htx := implText8 fresh W2 HF.out
    rw [show blkA fresh = #[.int .u8 (bat fresh 0).toNat, .int .u8 (bat fresh 1).toNat, .int .u8 (bat fresh 2).toNat, .int .u8 (bat fresh 3).toNat, .int .u8 (bat fresh 4).toNat, .int .u8 (bat fresh 5).toNat, .int .u8 (bat fresh 6).toNat, .int .u8 (bat fresh 7).toNat] from rfl] at htx
    clear HR hno hx0 AT
    go_wp2_with fail
    refine htx.mono ?_
    clear htx
    rintro e W3 ⟨rfl, hb⟩
    have hx6 := X1.out.next hb
    have c0 := hx6.q0
    have c1 := hx6.q1
    have c2 := hx6.q2
    have c3 := hx6.q3
    have z0 := hx6.frozen 0
    have z1 := hx6.frozen 1
    have z2 := hx6.frozen 2
    have z3 := hx6.frozen 3
    have B3 := Lib.hid (B1.out.trans (hb.mono B1.out.size))
    clear hx6 hb k0 k1 k2 k3 k4 k5 k6 k7
    go_wp2_with fail
    refine bodyPost_ret (v := stpW (2, (to : Int), 0, fresh)) (by simp [stpW, results, Try.results67, go_sem, c0, c1, c2, c3]) rfl ⟨rfl, ?_⟩
    exact four_at B3.out (by omega) _ _ _ _
  have hr : R = (4, (to : Int), (i : Int), xorS old[i] fresh) := by rw [HR.out]; exact stepFor_xor NZ.out NA.out hi hp hno
  have o8 := OK.out.2 _ (List.getElem_mem hi)
  have hxs : xorS old[i] fresh = xor8 fresh old[i] := by rw [xorS_comm]; unfold xorS; rw [if_pos ⟨HF.out, o8⟩]
  rw [hxs] at hr
  obtain ⟨b, off, hpa, hbl, hcell⟩ := HV0.out.get (by omega)
  subst hpa
  have hbc : ∀ m', m' < 8 → w.cell? ⟨b, off + i * 8 + m', none⟩ = some (.int .u8 (bat old[i] m').toNat) := fun m' hm' => blk_cells rfl hi hcell m' hm'
  obtain ⟨src, hsrc⟩ : ∃ src, src = old[i] := ⟨_, rfl⟩
  rw [← hsrc] at hr hbc
  obtain ⟨Z, hZ⟩ : ∃ Z, Z = xor8 fresh src := ⟨_, rfl⟩
  have hZ8 : Z.size = 8 := by rw [hZ]; exact xor8_size _ _
  rw [← hZ] at hr
  have HRR := Lib.hid hr
  have HZ := Lib.hid hZ
  clear HR hr hZ hxs o8 hcell hp hno AT hsrc
  have q0 := hbc 0 (by decide)
  have q1 := hbc 1 (by decide)
  have q2 := hbc 2 (by decide)
  have q3 := hbc 3 (by decide)
  have q4 := hbc 4 (by decide)
  have q5 := hbc 5 (by decide)
  have q6 := hbc 6 (by decide)
  have q7 := hbc 7 (by decide)
  rw [Nat.add_zero] at q0
  clear hbc
  have hzW := X1.out.lt
  have kp := Lib.hid (show ∀ w', Below (w.heap.size + 1) W2 w' → w'.cell? ⟨w.heap.size, 0, none⟩ = some (.int .u8 (bat fresh 0).toNat) ∧ w'.cell? ⟨w.heap.size, 1, none⟩ = some (.int .u8 (bat fresh 1).toNat) ∧ w'.cell? ⟨w.heap.size, 2, none⟩ = some (.int .u8 (bat fresh 2).toNat) ∧ w'.cell? ⟨w.heap.size, 3, none⟩ = some (.int .u8 (bat fresh 3).toNat) ∧ w'.cell? ⟨w.heap.size, 4, none⟩ = some (.int .u8 (bat fresh 4).toNat) ∧ w'.cell? ⟨w.heap.size, 5, none⟩ = some (.int .u8 (bat fresh 5).toNat) ∧ w'.cell? ⟨w.heap.size, 6, none⟩ = some (.int .u8 (bat fresh 6).toNat) ∧ w'.cell? ⟨w.heap.size, 7, none⟩ = some (.int .u8 (bat fresh 7).toNat) ∧ w'.cell? ⟨b, off + i * 8, none⟩ = some (.int .u8 (bat src 0).toNat) ∧ w'.cell? ⟨b, off + i * 8 + 1, none⟩ = some (.int .u8 (bat src 1).toNat) ∧ w'.cell? ⟨b, off + i * 8 + 2, none⟩ = some (.int .u8 (bat src 2).toNat) ∧ w'.cell? ⟨b, off + i * 8 + 3, none⟩ = some (.int .u8 (bat src 3).toNat) ∧ w'.cell? ⟨b, off + i * 8 + 4, none⟩ = some (.int .u8 (bat src 4).toNat) ∧ w'.cell? ⟨b, off + i * 8 + 5, none⟩ = some (.int .u8 (bat src 5).toNat) ∧ w'.cell? ⟨b, off + i * 8 + 6, none⟩ = some (.int .u8 (bat src 6).toNat) ∧ w'.cell? ⟨b, off + i * 8 + 7, none⟩ = some (.int .u8 (bat src 7).toNat) from fun w' hb' =>
    have hw : Below w.heap.size w w' := B1.out.trans (hb'.mono (by omega))
    have hx : Bx w' w.heap.size 87 (blkA fresh) := (hb'.block w.heap.size (by omega)).trans X0.out
    ⟨hx.blk0, hx.blk1, hx.blk2, hx.blk3, hx.blk4, hx.blk5, hx.blk6, hx.blk7, (hw.cell (p := ⟨b, off + i * 8, none⟩) hbl).trans q0, (hw.cell (p := ⟨b, off + i * 8 + 1, none⟩) hbl).trans q1, (hw.cell (p := ⟨b, off + i * 8 + 2, none⟩) hbl).trans q2, (hw.cell (p := ⟨b, off + i * 8 + 3, none⟩) hbl).trans q3, (hw.cell (p := ⟨b, off + i * 8 + 4, none⟩) hbl).trans q4, (hw.cell (p := ⟨b, off + i * 8 + 5, none⟩) hbl).trans q5, (hw.cell (p := ⟨b, off + i * 8 + 6, none⟩) hbl).trans q6, (hw.cell (p := ⟨b, off + i * 8 + 7, none⟩) hbl).trans q7⟩)
  have K1 := Lib.hid (kp.out W2.drew (Below.refl _ _).drew)
  have K2 := Lib.hid (fun w2 (hb2 : Below W2.drew.heap.size W2.drew w2) => kp.out w2 (Below.trans (Below.refl _ W2).drew (hb2.mono (Nat.le_of_lt hzW))))
  have K3 := Lib.hid (fun w2 w3 (hb2 : Below W2.drew.heap.size W2.drew w2) (hb3 : Below w2.heap.size w2 w3) => K2.out w3 (below_more hb2 hb3))
  have K4 := Lib.hid (fun w2 w3 (hb2 : Below W2.drew.heap.size W2.drew w2) (hb3 : Below w2.heap.size w2 w3) (x0 x1 x2 x3 : Value) => kp.out _ (four_at (g := w.heap.size + 1) (Below.trans (Below.refl (w.heap.size + 1) W2).drew ((below_more hb2 hb3).mono (Nat.le_of_lt hzW))) (Nat.le_refl _) x0 x1 x2 x3))
  clear q0 q1 q2 q3 q4 q5 q6 q7
  obtain ⟨i0, i1, i2, i3, i4, i5, i6, i7, j0, j1, j2, j3, j4, j5, j6, j7⟩ := kp.out W2 (Below.refl _ _)
  go_wp2_with fail
  go_region_held3 (fun w' => w'.cell? ⟨w.heap.size, 0, none⟩ = some (.int .u8 (bat fresh 0).toNat) ∧ w'.cell? ⟨w.heap.size, 1, none⟩ = some (.int .u8 (bat fresh 1).toNat) ∧ w'.cell? ⟨w.heap.size, 2, none⟩ = some (.int .u8 (bat fresh 2).toNat) ∧ w'.cell? ⟨w.heap.size, 3, none⟩ = some (.int .u8 (bat fresh 3).toNat) ∧ w'.cell? ⟨w.heap.size, 4, none⟩ = some (.int .u8 (bat fresh 4).toNat) ∧ w'.cell? ⟨w.heap.size, 5, none⟩ = some (.int .u8 (bat fresh 5).toNat) ∧ w'.cell? ⟨w.heap.size, 6, none⟩ = some (.int .u8 (bat fresh 6).toNat) ∧ w'.cell? ⟨w.heap.size, 7, none⟩ = some (.int .u8 (bat fresh 7).toNat) ∧ w'.cell? ⟨b, off + i * 8, none⟩ = some (.int .u8 (bat src 0).toNat) ∧ w'.cell? ⟨b, off + i * 8 + 1, none⟩ = some (.int .u8 (bat src 1).toNat) ∧ w'.cell? ⟨b, off + i * 8 + 2, none⟩ = some (.int .u8 (bat src 2).toNat) ∧ w'.cell? ⟨b, off + i * 8 + 3, none⟩ = some (.int .u8 (bat src 3).toNat) ∧ w'.cell? ⟨b, off + i * 8 + 4, none⟩ = some (.int .u8 (bat src 4).toNat) ∧ w'.cell? ⟨b, off + i * 8 + 5, none⟩ = some (.int .u8 (bat src 5).toNat) ∧ w'.cell? ⟨b, off + i * 8 + 6, none⟩ = some (.int .u8 (bat src 6).toNat) ∧ w'.cell? ⟨b, off + i * 8 + 7, none⟩ = some (.int .u8 (bat src 7).toNat))
    (first | (with_reducible exact K1.out) | (with_reducible exact K2.out _ hb2) | (with_reducible exact K3.out _ _ hb2 hb3) | (with_reducible exact K4.out _ _ hb2 hb3 _ _ _ _))
    ((first | (go_at_call 80; go_split_ands; refine (implXd fresh src _).mono ?_; rintro e w2 ⟨rfl, hb2⟩; rw [← HZ.out]) | (go_at_call 62; go_split_ands; refine (implText8 Z _ hZ8).mono ?_; rintro e w3 ⟨rfl, hb3⟩; have hx6 := (X1.out.next (Below.refl _ _).drew).next (below_more hb2 hb3); have c0 := hx6.q0; have c1 := hx6.q1; have c2 := hx6.q2; have c3 := hx6.q3; have z0 := hx6.frozen 0; have z1 := hx6.frozen 1; have z2 := hx6.frozen 2; have z3 := hx6.frozen 3; clear hx6)))
  all_goals (
    have B9 := Lib.hid (B1.out.trans (Below.trans (Below.refl w.heap.size W2).drew ((below_more hb2 hb3).mono (by exact B1.out.size))))
    clear hb2 hb3
    go_wp2_with fail
    refine bodyPost_ret (v := stpW (4, (to : Int), (i : Int), Z)) (by simp [stpW, results, Try.results67, go_sem, c0, c1, c2, c3]) rfl ⟨by rw [HRR.out], ?_⟩
    exact four_at B9.out (by omega) _ _ _ _)
end Go.Proofs.Ytcckpkcjekcajaa
