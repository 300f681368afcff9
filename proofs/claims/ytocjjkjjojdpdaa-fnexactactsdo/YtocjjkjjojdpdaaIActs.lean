/- The program's ActsDo. -/
import Derived.Test.YtocjjkjjojdpdaaIWrong
import Derived.Test.YtocjjkjjojdpdaaIFWrite
import Derived.Test.YtocjjkjjojdpdaaIFSync
namespace Go.Proofs.Ytocjjkjjojdpdaa
open Go.RowKit

set_option maxHeartbeats 1000000 in
set_option maxRecDepth 100000 in
theorem contains_any (vl : Value) (l : List actT) (w : World) (hl : Rd w vl l.length 3 (actCs l)) (hn : l.length ≤ 1048576) :
    Calls Try.prog 38 #[vl, .func (.func 39) #[] #[]] w fun e w' => ∃ b : Bool, e = .returned (.bool b) ∧ (b = true ↔ ∃ a ∈ l, badAct a) ∧ Below w.heap.size w w' := by
  obtain ⟨al, cl, rfl, -⟩ := id hl.2
  have HV := Lib.hid hl
  clear hl
  go_enter Try.func38, Try.ntmps38
  go_wp2_with fail
  refine (index_any _ l w HV.out hn).mono ?_
  rintro e w1 ⟨r, rfl, hiff, h0, h1, hb⟩
  have HI := Lib.hid hiff
  have HB := Lib.hid hb
  clear hiff hb
  by_cases hr : 0 ≤ r
  · have d0 : decide ((0 : Int) ≤ r) = true := decide_eq_true hr
    go_wp2_with fail
    go_ret
    exact ⟨true, rfl, ⟨fun _ => HI.out.1 hr, fun _ => rfl⟩, HB.out⟩
  · have d0 : decide ((0 : Int) ≤ r) = false := decide_eq_false hr
    go_wp2_with fail
    go_ret
    exact ⟨false, rfl, ⟨fun h => absurd h (by simp), fun h => absurd (HI.out.2 h) (by omega)⟩, HB.out⟩

noncomputable def doneOf (F : FM) (a : actT) : OM := if a.1 = true then fsyncOf F else writeOf F a.2.1 a.2.2

set_option maxHeartbeats 2000000 in
set_option maxRecDepth 100000 in
theorem implDone (sv dv : Value) (F : FM) (s : Bool) (p : Int) (d : ByteArray) (w : World) (h : FRd w sv dv F) (hz : Sized F) (hx : d.size ≤ 1048576) :
    Calls Try.prog 42 #[.agg #[sv, dv], .agg #[.bool s, .int .i64 p, .string d]] w (OMade w (doneOf F (s, p, d))) := by
  obtain ⟨a, c, rfl, -⟩ := id h.1.2
  obtain ⟨a', c', rfl, -⟩ := id h.2.2
  have HZ := Lib.hid hz
  have HR := Lib.hid h
  clear h hz
  have b0 := below_alloc1 w (.cells #[.slice a F.sec.length c, .slice a' F.dir.length c'] 33)
  have z0 := size_alloc1 w (.cells #[.slice a F.sec.length c, .slice a' F.dir.length c'] 33)
  have b1 := below_alloc1 (w.alloc (.cells #[.slice a F.sec.length c, .slice a' F.dir.length c'] 33)) (.cells #[.bool s, .int .i64 p, .string d] 58)
  have z1 := size_alloc1 (w.alloc (.cells #[.slice a F.sec.length c, .slice a' F.dir.length c'] 33)) (.cells #[.bool s, .int .i64 p, .string d] 58)
  have b2 := below_alloc1 ((w.alloc (.cells #[.slice a F.sec.length c, .slice a' F.dir.length c'] 33)).alloc (.cells #[.bool s, .int .i64 p, .string d] 58)) (.cells #[.slice none 0 0, .slice none 0 0, .string { data := #[] }, .int .i64 0] 35)
  have z2 := size_alloc1 ((w.alloc (.cells #[.slice a F.sec.length c, .slice a' F.dir.length c'] 33)).alloc (.cells #[.bool s, .int .i64 p, .string d] 58)) (.cells #[.slice none 0 0, .slice none 0 0, .string { data := #[] }, .int .i64 0] 35)
  have x0 := (bx_new w 33 #[.slice a F.sec.length c, .slice a' F.dir.length c']).next b1 |>.next b2
  have x1 := (bx_new (w.alloc (.cells #[.slice a F.sec.length c, .slice a' F.dir.length c'] 33)) 58 #[.bool s, .int .i64 p, .string d]).next b2
  have x2 := bx_new ((w.alloc (.cells #[.slice a F.sec.length c, .slice a' F.dir.length c'] 33)).alloc (.cells #[.bool s, .int .i64 p, .string d] 58)) 35 #[.slice none 0 0, .slice none 0 0, .string { data := #[] }, .int .i64 0]
  rw [z0] at x1 z1 b1
  rw [z1] at x2 z2 b2
  have bw := b0.trans ((b1.mono (by omega : w.heap.size ≤ w.heap.size + 1)).trans (b2.mono (by omega)))
  have P2 := Lib.hid x2
  have BW := Lib.hid bw
  have c0 := x0.c0
  have c1 := x0.c1
  have e0 := x1.t0
  have e1 := x1.t1
  have e2 := x1.t2
  have f0 := x0.frozen 0
  clear x0 x1 x2 b0 b1 b2 bw z0 z1
  go_enter Try.func42, Try.ntmps42
  cases s with
  | true =>
    obtain ⟨O, hO⟩ : ∃ O, O = fsyncOf F := ⟨_, rfl⟩
    have hD : doneOf F (true, p, d) = O := by rw [hO]; rfl
    rw [hD]
    go_wp2_with fail
    have hs := implFSync _ _ F _ (HR.out.below BW.out (Nat.le_refl _)) HZ.out.1 HZ.out.2.1 HZ.out.2.2
    rw [← hO] at hs
    refine hs.mono ?_
    clear hs hO hD
    rintro e w2 ⟨s2, t2, rfl, ho2, hb2⟩
    obtain ⟨a5, p5, rfl, -⟩ := id ho2.1.2
    obtain ⟨a6, p6, rfl, -⟩ := id ho2.2.1.2
    have hbx2 := P2.out.next hb2
    have k0 := hbx2.q0
    have k1 := hbx2.q1
    have k2 := hbx2.q2
    have k3 := hbx2.q3
    have g0 := hbx2.frozen 0
    have g1 := hbx2.frozen 1
    have g2 := hbx2.frozen 2
    have g3 := hbx2.frozen 3
    have HO2 := Lib.hid (ho2.lower (by omega : w.heap.size + 3 ≤ _))
    have HB2 := Lib.hid (BW.out.trans (hb2.mono (by omega)))
    clear ho2 hb2 hbx2 P2 BW c0 c1 e0 e1 e2 f0
    go_wp2_with fail
    refine bodyPost_ret (v := .agg #[.slice a5 O.fl.sec.length p5, .slice a6 O.fl.dir.length p6, .string O.data, .int .i64 O.code]) (by simp [results, Try.results42, go_sem, k0, k1, k2, k3]) rfl ⟨_, _, rfl, ?_, ?_⟩
    · exact ((((HO2.out.other _ _ (by simp)).other _ _ (by simp)).other _ _ (by simp)).other _ _ (by simp)).lower (by omega)
    · exact (((HB2.out.setCell (p := ⟨w.heap.size + 2, 0, none⟩) (by simp) _).setCell (p := ⟨w.heap.size + 2, 1, none⟩) (by simp) _).setCell (p := ⟨w.heap.size + 2, 2, none⟩) (by simp) _).setCell (p := ⟨w.heap.size + 2, 3, none⟩) (by simp) _
  | false =>
    obtain ⟨O, hO⟩ : ∃ O, O = writeOf F p d := ⟨_, rfl⟩
    have hD : doneOf F (false, p, d) = O := by rw [hO]; rfl
    rw [hD]
    go_wp2_with fail
    have hs := implFWrite _ _ F p d _ (HR.out.below BW.out (Nat.le_refl _)) HZ.out.1 HZ.out.2.1 HZ.out.2.2 hx
    rw [← hO] at hs
    refine hs.mono ?_
    clear hs hO hD
    rintro e w2 ⟨s2, t2, rfl, ho2, hb2⟩
    obtain ⟨a5, p5, rfl, -⟩ := id ho2.1.2
    obtain ⟨a6, p6, rfl, -⟩ := id ho2.2.1.2
    have hbx2 := P2.out.next hb2
    have k0 := hbx2.q0
    have k1 := hbx2.q1
    have k2 := hbx2.q2
    have k3 := hbx2.q3
    have g0 := hbx2.frozen 0
    have g1 := hbx2.frozen 1
    have g2 := hbx2.frozen 2
    have g3 := hbx2.frozen 3
    have HO2 := Lib.hid (ho2.lower (by omega : w.heap.size + 3 ≤ _))
    have HB2 := Lib.hid (BW.out.trans (hb2.mono (by omega)))
    clear ho2 hb2 hbx2 P2 BW c0 c1 e0 e1 e2 f0
    go_wp2_with fail
    refine bodyPost_ret (v := .agg #[.slice a5 O.fl.sec.length p5, .slice a6 O.fl.dir.length p6, .string O.data, .int .i64 O.code]) (by simp [results, Try.results42, go_sem, k0, k1, k2, k3]) rfl ⟨_, _, rfl, ?_, ?_⟩
    · exact ((((HO2.out.other _ _ (by simp)).other _ _ (by simp)).other _ _ (by simp)).other _ _ (by simp)).lower (by omega)
    · exact (((HB2.out.setCell (p := ⟨w.heap.size + 2, 0, none⟩) (by simp) _).setCell (p := ⟨w.heap.size + 2, 1, none⟩) (by simp) _).setCell (p := ⟨w.heap.size + 2, 2, none⟩) (by simp) _).setCell (p := ⟨w.heap.size + 2, 3, none⟩) (by simp) _
end Go.Proofs.Ytocjjkjjojdpdaa
