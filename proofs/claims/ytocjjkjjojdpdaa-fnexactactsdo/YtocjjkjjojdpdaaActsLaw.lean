/- The exact law of ActsDo. -/
import Derived.Test.YtocjjkjjojdpdaaIActsDo
import Derived.Test.YtocjjkjjojdpdaaLOut
import Derived.Test.YtocjjkjjojdpdaaLAct
namespace Go.Proofs.Ytocjjkjjojdpdaa
open Go.RowKit

theorem keepFour {W w' : World} {m n : Nat} {a b c d : Value} (h0 : W.cell? ⟨m, 0, none⟩ = some a) (h1 : W.cell? ⟨m, 1, none⟩ = some b) (h2 : W.cell? ⟨n, 0, none⟩ = some c) (h3 : W.cell? ⟨n, 1, none⟩ = some d) (hm : m < W.heap.size) (hn : n < W.heap.size) (hb : Below W.heap.size W w') :
    w'.cell? ⟨m, 0, none⟩ = some a ∧ w'.cell? ⟨m, 1, none⟩ = some b ∧ w'.cell? ⟨n, 0, none⟩ = some c ∧ w'.cell? ⟨n, 1, none⟩ = some d ∧ Below W.heap.size W w' :=
  ⟨(hb.cell (p := ⟨m, 0, none⟩) hm).trans h0, (hb.cell (p := ⟨m, 1, none⟩) hm).trans h1, (hb.cell (p := ⟨n, 0, none⟩) hn).trans h2, (hb.cell (p := ⟨n, 1, none⟩) hn).trans h3, hb⟩
theorem acts_sized {F : FM} {l : List actT} (hz : Sized F) (hx : ∀ a ∈ l, a.2.2.size ≤ 1048576) : Sized (actsOf F l).fl := by
  unfold actsOf
  split
  · exact sized_no
  · split
    · split
      · exact sized_no
      · unfold doOf
        split
        · have := doL_sized hz hx l.length (Nat.le_refl _)
          rwa [List.take_length] at this
        · exact sized_no
    · exact sized_no

set_option maxHeartbeats 8000000 in
set_option maxRecDepth 100000 in
theorem actsLaw (sv dv : Value) (F : FM) (fv : Value) (fs : List actT) (w : World) (h : FRd w sv dv F) (hr : FReach F) (hv : Rd w fv fs.length 3 (actCs fs)) (hn : fs.length ≤ maxLen) (hx : ∀ f ∈ fs, f.2.2.size ≤ maxLen) :
    Calls Try.prog 4 #[.agg #[sv, dv], fv] w fun e w' => e = .returned (.bool true) ∧ Below w.heap.size w w' := by
  obtain ⟨a, c, rfl, -⟩ := id h.1.2
  obtain ⟨a', c', rfl, -⟩ := id h.2.2
  obtain ⟨af, cf, rfl, -⟩ := id hv.2
  have HR := Lib.hid h
  have HH := Lib.hid hr
  have HV := Lib.hid hv
  have HX0 := Lib.hid hx
  have HN0 := Lib.hid hn
  clear h hr hv hx hn
  go_enter Try.func4, Try.ntmps4
  go_wp2_with fail
  have X0 := Lib.hid (bx_new w 27 #[.slice a F.sec.length c, .slice a' F.dir.length c'])
  have b0 := below_alloc1 w (.cells #[.slice a F.sec.length c, .slice a' F.dir.length c'] 27)
  have z0 := size_alloc1 w (.cells #[.slice a F.sec.length c, .slice a' F.dir.length c'] 27)
  generalize w.alloc (.cells #[.slice a F.sec.length c, .slice a' F.dir.length c'] 27) = W0 at *
  have B0 := Lib.hid b0
  clear b0
  refine (szFlash_any _ _ F 1048576 W0 (HR.out.below B0.out (Nat.le_refl _)) HH.out (by decide) (by decide)).mono ?_
  rintro e w1 ⟨r, rfl, hb1, hq⟩
  have B1 := Lib.hid (B0.out.trans (hb1.mono (by omega)))
  rcases hq with rfl | ⟨hq0, hq1, hq2, hq3, hq4⟩
  · clear hb1
    go_wp2_with fail
    go_ret
    exact ⟨rfl, B1.out⟩
  have d0 : decide (r < 0) = false := decide_eq_false (by omega)
  have g1 : W0.heap.size ≤ w1.heap.size := hb1.size
  have X1 := Lib.hid (X0.out.next hb1)
  have SZ := Lib.hid (show Sized F from ⟨hq2, hq3, hq4⟩)
  have Q := Lib.hid hq2
  clear hb1 X0 HH B0 hq2 hq3 hq4
  go_wp2_with fail
  refine (szActs_any _ fs r w1 (HV.out.below B1.out (Nat.le_refl _)) HN0.out HX0.out hq0 hq1).mono ?_
  rintro e v1 ⟨r1, rfl, hv1, hk⟩
  have C1 := Lib.hid (B1.out.trans (hv1.mono (by omega)))
  rcases hk with rfl | ⟨hk0, hk1, hk2, hk3⟩
  · clear hv1
    go_wp2_with fail
    go_ret
    exact ⟨rfl, C1.out⟩
  have d9 : decide (r1 < 0) = false := decide_eq_false (by omega)
  have hnn : fs.length ≤ 1048576 := by omega
  have HN := Lib.hid hnn
  have HX := Lib.hid (show ∀ a ∈ fs, a.2.2.size ≤ 1048576 from fun d hd => by have := hk3 d hd; omega)
  clear hk3 HN0 HX0
  obtain ⟨O, hO⟩ : ∃ O, O = actsOf F fs := ⟨_, rfl⟩
  have HO := Lib.hid hO
  have hfo : FFits O.fl := by rw [hO]; exact (acts_sized SZ.out HX.out).1
  have QO := Lib.hid hfo
  obtain ⟨ck, hck⟩ : ∃ ck : Int, ck = ((1 + F.sec.length + F.dir.length * 2 + fs.length * 3 : Nat) : Int) := ⟨_, rfl⟩
  obtain ⟨cm, hcm⟩ : ∃ cm : Int, cm = ((1 + O.fl.sec.length + O.fl.dir.length * 2 : Nat) : Int) := ⟨_, rfl⟩
  have d1 : decide (ck < 0) = false := decide_eq_false (by omega)
  have d2 : decide (cm < 0) = false := decide_eq_false (by omega)
  have CK := Lib.hid hck
  have CM := Lib.hid hcm
  have g1' : w1.heap.size ≤ v1.heap.size := hv1.size
  have x0 := X1.out.next hv1
  have c00 := x0.c0
  have c01 := x0.c1
  have X1 := Lib.hid x0
  have B1 := C1
  clear C1
  clear hO hfo hck hcm hv1 x0
  go_wp2_with fail
  refine (toFlash_any _ _ F v1 (HR.out.below B1.out (Nat.le_refl _)) Q.out).mono ?_
  rintro e w2 ⟨s2, t2, rfl, ho2, hb2⟩
  obtain ⟨a1, p1, rfl, -⟩ := id ho2.1.2
  obtain ⟨a2, p2, rfl, -⟩ := id ho2.2.1.2
  have g2 : v1.heap.size ≤ w2.heap.size := hb2.size
  have x0 := X1.out.next hb2
  have B2 := Lib.hid (B1.out.trans (hb2.mono (by omega)))
  have X2 := Lib.hid x0
  have O2 := Lib.hid ho2
  clear ho2 hb2 x0 X1 B1 c00 c01
  go_wp2_with fail
  refine (toActs_any _ fs w2 (HV.out.below B2.out (Nat.le_refl _)) HN.out).mono ?_
  rintro e v2 ⟨u2, rfl, hi2, hb2⟩
  obtain ⟨i1, j1, rfl, -⟩ := id hi2.2
  have g2' : w2.heap.size ≤ v2.heap.size := hb2.size
  have X2' := Lib.hid (X2.out.next hb2)
  have B2' := Lib.hid (B2.out.trans (hb2.mono (by omega)))
  have O2' := Lib.hid (O2.out.below hb2 (Nat.le_refl _))
  have I2 := Lib.hid hi2
  clear hi2 hb2 X2 B2 O2
  go_wp2_with fail
  have hspec := specActsDo _ _ F _ fs v2 (O2'.out.rd) SZ.out (I2.out.rd) HN.out HX.out
  rw [← HO.out] at hspec
  refine hspec.mono ?_
  clear hspec
  rintro e w3 ⟨s3, t3, rfl, ho3, hb3⟩
  obtain ⟨a3, p3, rfl, -⟩ := id ho3.1.2
  obtain ⟨a4, p4, rfl, -⟩ := id ho3.2.1.2
  have b3 := below_alloc1 w3 (.cells #[.slice a3 O.fl.sec.length p3, .slice a4 O.fl.dir.length p4, .string O.data, .int .i64 O.code] 35)
  have z3 := size_alloc1 w3 (.cells #[.slice a3 O.fl.sec.length p3, .slice a4 O.fl.dir.length p4, .string O.data, .int .i64 O.code] 35)
  have g3 : v2.heap.size ≤ w3.heap.size := hb3.size
  have b23 := hb3.trans (b3.mono g3)
  have x0 := X2'.out.next b23
  have c00 := x0.c0
  have c01 := x0.c1
  have TB := Lib.hid (bx_new w3 35 #[.slice a3 O.fl.sec.length p3, .slice a4 O.fl.dir.length p4, .string O.data, .int .i64 O.code])
  have X3 := Lib.hid x0
  have B3 := Lib.hid (B2'.out.trans (b23.mono (by omega)))
  have T3 := Lib.hid (ho3.below b3 (Nat.le_refl _))
  have IT := Lib.hid ho3.in
  clear ho3 hb3 b3 b23 x0 X2' B2' O2' I2
  go_wp2_with fail
  generalize w3.alloc (.cells #[.slice a3 O.fl.sec.length p3, .slice a4 O.fl.dir.length p4, .string O.data, .int .i64 O.code] 35) = W3 at *
  generalize w3.heap.size = n3 at *
  clear w3
  refine (toFlash_any _ _ F W3 (HR.out.below B3.out (Nat.le_refl _)) Q.out).mono ?_
  rintro e w4 ⟨s4, t4, rfl, ho4, hb4⟩
  obtain ⟨a5, p5, rfl, -⟩ := id ho4.1.2
  obtain ⟨a6, p6, rfl, -⟩ := id ho4.2.1.2
  have b4 := below_alloc1 w4 (.cells #[.slice a5 F.sec.length p5, .slice a6 F.dir.length p6] 33)
  have z4 := size_alloc1 w4 (.cells #[.slice a5 F.sec.length p5, .slice a6 F.dir.length p6] 33)
  have g4 : W3.heap.size ≤ w4.heap.size := hb4.size
  have b34 := hb4.trans (b4.mono g4)
  have XB := Lib.hid (bx_new w4 33 #[.slice a5 F.sec.length p5, .slice a6 F.dir.length p6])
  have X4 := Lib.hid (X3.out.next b34)
  have TB4 := Lib.hid (TB.out.next b34)
  have B4 := Lib.hid (B3.out.trans (b34.mono (by omega)))
  have T4 := Lib.hid (T3.out.below b34 (Nat.le_refl _))
  have O4 := Lib.hid (ho4.below b4 (Nat.le_refl _))
  have IX := Lib.hid ho4.in
  clear ho4 hb4 b4 b34 X3 TB B3 T3 c00 c01
  go_wp2_with fail
  generalize w4.alloc (.cells #[.slice a5 F.sec.length p5, .slice a6 F.dir.length p6] 33) = W4 at *
  generalize w4.heap.size = n4 at *
  clear w4
  refine (toActs_any _ fs W4 (HV.out.below B4.out (Nat.le_refl _)) HN.out).mono ?_
  rintro e v4 ⟨u4, rfl, hi4, hb4⟩
  obtain ⟨i2, j2, rfl, -⟩ := id hi4.2
  have g4' : W4.heap.size ≤ v4.heap.size := hb4.size
  have xb := XB.out.next hb4
  have k0 := xb.c0
  have k1 := xb.c1
  have XB' := Lib.hid xb
  have X4' := Lib.hid (X4.out.next hb4)
  have TB4' := Lib.hid (TB4.out.next hb4)
  have B4' := Lib.hid (B4.out.trans (hb4.mono (by omega)))
  have T4' := Lib.hid (T4.out.below hb4 (Nat.le_refl _))
  have O4' := Lib.hid (O4.out.below hb4 (Nat.le_refl _))
  have I4 := Lib.hid hi4
  have II := Lib.hid hi4.blk
  clear hi4 hb4 xb XB X4 TB4 B4 T4 O4
  go_wp2_with fail
  clear k0 k1
  have himpl := implActsDo _ _ F _ fs v4 (O4'.out.rd) SZ.out (I4.out.rd) HN.out HX.out
  rw [← HO.out] at himpl
  refine himpl.mono ?_
  clear himpl
  rintro e w5 ⟨s5, t5, rfl, ho5, hb5⟩
  obtain ⟨a7, p7, rfl, -⟩ := id ho5.1.2
  obtain ⟨a8, p8, rfl, -⟩ := id ho5.2.1.2
  have b5 := below_alloc1 w5 (.cells #[.slice a7 O.fl.sec.length p7, .slice a8 O.fl.dir.length p8, .string O.data, .int .i64 O.code] 35)
  have z5 := size_alloc1 w5 (.cells #[.slice a7 O.fl.sec.length p7, .slice a8 O.fl.dir.length p8, .string O.data, .int .i64 O.code] 35)
  have g5 : v4.heap.size ≤ w5.heap.size := hb5.size
  have b45 := hb5.trans (b5.mono g5)
  have GB := Lib.hid (bx_new w5 35 #[.slice a7 O.fl.sec.length p7, .slice a8 O.fl.dir.length p8, .string O.data, .int .i64 O.code])
  have t0 := TB4'.out.next b45
  have k0 := t0.q0
  have k1 := t0.q1
  have k2 := t0.q2
  have k3 := t0.q3
  have X5 := Lib.hid (X4'.out.next b45)
  have TB5 := Lib.hid t0
  have XB5 := Lib.hid (XB'.out.next b45)
  have B5 := Lib.hid (B4'.out.trans (b45.mono (by omega)))
  have T5 := Lib.hid (T4'.out.below b45 (Nat.le_refl _))
  have O5 := Lib.hid (O4'.out.below b45 (Nat.le_refl _))
  have I5 := Lib.hid (I4.out.below b45 (Nat.le_refl _))
  have G5 := Lib.hid (ho5.below b5 (Nat.le_refl _))
  have IG := Lib.hid ho5.in
  clear ho5 hb5 b5 b45 X4' TB4' XB' B4' T4' O4' I4 t0
  go_wp2_with fail
  generalize w5.alloc (.cells #[.slice a7 O.fl.sec.length p7, .slice a8 O.fl.dir.length p8, .string O.data, .int .i64 O.code] 35) = W5 at *
  generalize w5.heap.size = n5 at *
  clear w5
  clear k0 k1 k2 k3
  refine (eqFlashOut_any _ _ _ _ O W5 G5.out.rd T5.out.rd QO.out).mono ?_
  rintro e w6 ⟨rfl, hb6⟩
  have g6 : W5.heap.size ≤ w6.heap.size := hb6.size
  have x0 := X5.out.next hb6
  have y0 := XB5.out.next hb6
  have k0 := x0.c0
  have k1 := x0.c1
  have l0 := y0.c0
  have l1 := y0.c1
  have hm : w.heap.size < w6.heap.size := by omega
  have hn4 : n4 < w6.heap.size := by omega
  have X6 := Lib.hid x0
  have XB6 := Lib.hid y0
  have TB6 := Lib.hid (TB5.out.next hb6)
  have GB6 := Lib.hid (GB.out.next hb6)
  have B6 := Lib.hid (B5.out.trans (hb6.mono (by omega)))
  have T6 := Lib.hid (T5.out.below hb6 (Nat.le_refl _))
  have O6 := Lib.hid (O5.out.below hb6 (Nat.le_refl _))
  have I6 := Lib.hid (I5.out.below hb6 (Nat.le_refl _))
  have G6 := Lib.hid (G5.out.below hb6 (Nat.le_refl _))
  clear hb6 X5 XB5 TB5 GB B5 T5 O5 I5 G5 x0 y0
  go_wp2_with fail
  go_region_held3 (fun w' => w'.cell? ⟨w.heap.size, 0, none⟩ = some (.slice a F.sec.length c) ∧ w'.cell? ⟨w.heap.size, 1, none⟩ = some (.slice a' F.dir.length c') ∧ w'.cell? ⟨n4, 0, none⟩ = some (.slice a5 F.sec.length p5) ∧ w'.cell? ⟨n4, 1, none⟩ = some (.slice a6 F.dir.length p6) ∧ Below w6.heap.size w6 w')
    (first | (exact keepFour k0 k1 l0 l1 hm hn4 (drew_below w6)) | (go_split_ands; first | (exact keepFour k0 k1 l0 l1 hm hn4 (keep_next (by assumption) hbn)) | (exact keepFour k0 k1 l0 l1 hm hn4 (keep_next (by assumption) hbm))))
    (first | (go_at_call 10; go_split_ands; refine (toFlash_any _ _ F _ (HR.out.below (B6.out.trans (Below.mono (B := w6.heap.size) (by assumption) (by omega))) (Nat.le_refl _)) Q.out).mono ?_; rintro e w7 ⟨s7, t7, rfl, ho7, hbn⟩; obtain ⟨a9, p9, rfl, -⟩ := id ho7.1.2; obtain ⟨b9, q9, rfl, -⟩ := id ho7.2.1.2; have O7 := Lib.hid ho7; clear ho7) | (go_at_call 14; go_split_ands; refine (eqFlash_any _ _ _ _ F _ (O6.out.below (B := w6.heap.size) (by assumption) (Nat.le_refl _)).rd O7.out.rd Q.out).mono ?_; rintro e w8 ⟨rfl, hbm⟩))
  all_goals (
    go_split_ands
    have hb8 : Below w6.heap.size w6 w8 := by assumption
    have g8 : w6.heap.size ≤ w8.heap.size := hb8.size
    have X8 := Lib.hid (X6.out.next hb8)
    have XB8 := Lib.hid (XB6.out.next hb8)
    have TB8 := Lib.hid (TB6.out.next hb8)
    have GB8 := Lib.hid (GB6.out.next hb8)
    have B8 := Lib.hid (B6.out.trans (hb8.mono (by omega)))
    have T8 := Lib.hid (T6.out.below hb8 (Nat.le_refl _))
    have O8 := Lib.hid (O6.out.below hb8 (Nat.le_refl _))
    have I8 := Lib.hid (I6.out.below hb8 (Nat.le_refl _))
    have G8 := Lib.hid (G6.out.below hb8 (Nat.le_refl _))
    clear hb8 X6 XB6 TB6 GB6 B6 T6 O6 I6 G6 O7
    go_wp2_with fail
    refine (toActs_any _ fs w8 (HV.out.below B8.out (Nat.le_refl _)) HN.out).mono ?_
    rintro e v8 ⟨u8, rfl, hi8, hb8⟩
    obtain ⟨i3, j3, rfl, -⟩ := id hi8.2
    have g8' : w8.heap.size ≤ v8.heap.size := hb8.size
    have J8 := Lib.hid hi8.rd
    have X8' := Lib.hid (X8.out.next hb8)
    have XB8' := Lib.hid (XB8.out.next hb8)
    have TB8' := Lib.hid (TB8.out.next hb8)
    have GB8' := Lib.hid (GB8.out.next hb8)
    have B8' := Lib.hid (B8.out.trans (hb8.mono (by omega)))
    have T8' := Lib.hid (T8.out.below hb8 (Nat.le_refl _))
    have O8' := Lib.hid (O8.out.below hb8 (Nat.le_refl _))
    have I8' := Lib.hid (I8.out.below hb8 (Nat.le_refl _))
    have G8' := Lib.hid (G8.out.below hb8 (Nat.le_refl _))
    clear hi8 hb8 X8 XB8 TB8 GB8 B8 T8 O8 I8 G8
    go_wp2_with fail
    refine (eqActs_any _ _ fs v8 I8'.out.rd J8.out (by unfold maxLen; omega)).mono ?_
    rintro e x8 ⟨rfl, hb8⟩
    have g8x : v8.heap.size ≤ x8.heap.size := hb8.size
    have xb := XB8'.out.next hb8
    have l0 := xb.c0
    have l1 := xb.c1
    have X8 := Lib.hid (X8'.out.next hb8)
    have TB8 := Lib.hid (TB8'.out.next hb8)
    have GB8 := Lib.hid (GB8'.out.next hb8)
    have B8 := Lib.hid (B8'.out.trans (hb8.mono (by omega)))
    have T8 := Lib.hid (T8'.out.below hb8 (Nat.le_refl _))
    have O8 := Lib.hid (O8'.out.below hb8 (Nat.le_refl _))
    have I8 := Lib.hid (I8'.out.below hb8 (Nat.le_refl _))
    have G8 := Lib.hid (G8'.out.below hb8 (Nat.le_refl _))
    clear hb8 xb X8' XB8' TB8' GB8' B8' T8' O8' I8' G8' J8
    go_wp2_with fail
    refine (markFlash_any W3.heap.size _ _ F 1 x8 O8.out Q.out (by omega) (by omega)).mono ?_
    rintro e w9 ⟨rfl, -, ht⟩
    have hb9 : Below W3.heap.size x8 w9 := ht.keepBelow (fun k hk => (IX.out k hk).1) (by omega)
    have g9 : x8.heap.size ≤ w9.heap.size := hb9.size
    have X9 := Lib.hid (X8.out.below hb9 (by omega))
    have TB9 := Lib.hid (TB8.out.below hb9 (by omega))
    have GB9 := Lib.hid (GB8.out.two ht (fun e => by have := (IX.out n5 (.inl e.symm)).2; omega) (fun e => by have := (IX.out n5 (.inr e.symm)).2; omega))
    have T9 := Lib.hid (T8.out.two ht (fun k hk => by
      have h1 := (IT.out k hk).2
      exact ⟨fun e => by have := (IX.out k (.inl e.symm)).1; omega, fun e => by have := (IX.out k (.inr e.symm)).1; omega⟩))
    have G9 := Lib.hid (G8.out.two ht (fun k hk => by
      have h1 := (IG.out k hk).1
      exact ⟨fun e => by have := (IX.out k (.inl e.symm)).2; omega, fun e => by have := (IX.out k (.inr e.symm)).2; omega⟩))
    have I9 := Lib.hid (I8.out.two ht (fun k hk => by
      have h1 := (II.out k hk).1
      exact ⟨fun e => by have := (IX.out k (.inl e.symm)).2; omega, fun e => by have := (IX.out k (.inr e.symm)).2; omega⟩))
    have B9 := Lib.hid (B8.out.trans (hb9.mono (by omega)))
    clear hb9 ht X8 TB8 GB8 B8 T8 O8 I8 G8 l0 l1
    go_wp2_with fail
    refine (markActs_any W4.heap.size _ fs.length (1 + F.sec.length + F.dir.length * 2) _ w9 I9.out HN.out (by omega) (by have := Q.out.1; have := Q.out.2; omega)).mono ?_
    rintro e v9 ⟨rfl, -, hg⟩
    rw [← CK.out]
    have hb9 : Below W4.heap.size w9 v9 := ⟨hg.os, hg.tape, hg.output, hg.size, fun k hk => hg.block k (by omega) (fun e => by have := (II.out k e.symm).1; omega)⟩
    have g9' : w9.heap.size ≤ v9.heap.size := hb9.size
    have t0 := TB9.out.below hb9 (by omega)
    have u0 := GB9.out.grown hg (fun e => by have := (II.out n5 e.symm).2; omega)
    have k0 := t0.q0
    have k1 := t0.q1
    have k2 := t0.q2
    have k3 := t0.q3
    have l0 := u0.q0
    have l1 := u0.q1
    have l2 := u0.q2
    have l3 := u0.q3
    have X9' := Lib.hid (X9.out.below hb9 (by omega))
    have TB9' := Lib.hid t0
    have GB9' := Lib.hid u0
    have T9' := Lib.hid (T9.out.two (two_left (d := none) hg) (fun k hk => by
      have h1 := (IT.out k hk).2
      exact ⟨fun e => by have := (II.out k e.symm).1; omega, by simp⟩))
    have G9' := Lib.hid (G9.out.two (two_left (d := none) hg) (fun k hk => by
      have h1 := (IG.out k hk).1
      exact ⟨fun e => by have := (II.out k e.symm).2; omega, by simp⟩))
    have B9' := Lib.hid (B9.out.trans (hb9.mono (by omega)))
    clear hb9 hg X9 TB9 GB9 B9 T9 I9 G9 t0 u0
    go_wp2_with fail
    refine (eqFlashOut_any _ _ _ _ O v9 G9'.out.rd T9'.out.rd QO.out).mono ?_
    rintro e w10 ⟨rfl, hb10⟩
    have g10 : v9.heap.size ≤ w10.heap.size := hb10.size
    have u0 := GB9'.out.next hb10
    have m0 := u0.q0
    have m1 := u0.q1
    have m2 := u0.q2
    have m3 := u0.q3
    have X10 := Lib.hid (X9'.out.next hb10)
    have TB10 := Lib.hid (TB9'.out.next hb10)
    have GB10 := Lib.hid u0
    have T10 := Lib.hid (T9'.out.below hb10 (Nat.le_refl _))
    have G10 := Lib.hid (G9'.out.below hb10 (Nat.le_refl _))
    have B10 := Lib.hid (B9'.out.trans (hb10.mono (by omega)))
    clear hb10 X9' TB9' GB9' T9' G9' B9' u0 k0 k1 k2 k3 l0 l1 l2 l3
    go_wp2_with fail
    refine (markFlashOut_any v4.heap.size _ _ O 1 w10 G10.out QO.out (by omega) (by omega)).mono ?_
    rintro e w11 ⟨rfl, hm11, ht⟩
    rw [← CM.out]
    have hb11 : Below v4.heap.size w10 w11 := ht.keepBelow (fun k hk => (IG.out k hk).1) (by omega)
    have g11 : w10.heap.size ≤ w11.heap.size := hb11.size
    have u0 := GB10.out.two ht (fun e => by have := (IG.out n5 (.inl e.symm)).2; omega) (fun e => by have := (IG.out n5 (.inr e.symm)).2; omega)
    have k0 := u0.q0
    have k1 := u0.q1
    have k2 := u0.q2
    have k3 := u0.q3
    have X11 := Lib.hid (X10.out.below hb11 (by omega))
    have TB11 := Lib.hid (TB10.out.below hb11 (by omega))
    have GB11 := Lib.hid u0
    have T11 := Lib.hid (T10.out.two ht (fun k hk => by
      have h1 := (IT.out k hk).2
      exact ⟨fun e => by have := (IG.out k (.inl e.symm)).1; omega, fun e => by have := (IG.out k (.inr e.symm)).1; omega⟩))
    have M11 := Lib.hid hm11
    have B11 := Lib.hid (B10.out.trans (hb11.mono (by omega)))
    clear hb11 ht hm11 X10 TB10 GB10 T10 G10 B10 u0 m0 m1 m2 m3
    go_wp2_with fail
    refine (heldFlashOut_any v4.heap.size _ _ _ _ O.fl.sec.length O.fl.dir.length 1 w11 M11.out QO.out.1 QO.out.2 (by omega) (by omega)).mono ?_
    rintro e w12 ⟨rfl, hb12⟩
    rw [← CM.out]
    have g12 : w11.heap.size ≤ w12.heap.size := hb12.size
    have x0 := X11.out.next hb12
    have l0 := x0.c0
    have l1 := x0.c1
    have TB12 := Lib.hid (TB11.out.next hb12)
    have GB12 := Lib.hid (GB11.out.next hb12)
    have T12 := Lib.hid (T11.out.below hb12 (Nat.le_refl _))
    have M12 := Lib.hid (M11.out.below hb12 (Nat.le_refl _))
    have B12 := Lib.hid (B11.out.trans (hb12.mono (by omega)))
    clear hb12 X11 TB11 GB11 T11 M11 B11 x0 k0 k1 k2 k3
    go_wp2_with fail
    refine (toFlash_any _ _ F w12 (HR.out.below B12.out (Nat.le_refl _)) Q.out).mono ?_
    rintro e w13 ⟨s13, t13, rfl, ho13, hb13⟩
    obtain ⟨a11, p11, rfl, -⟩ := id ho13.1.2
    obtain ⟨a12, p12, rfl, -⟩ := id ho13.2.1.2
    have g13 : w12.heap.size ≤ w13.heap.size := hb13.size
    have TB13 := Lib.hid (TB12.out.next hb13)
    have GB13 := Lib.hid (GB12.out.next hb13)
    have T13 := Lib.hid (T12.out.below hb13 (Nat.le_refl _))
    have M13 := Lib.hid (M12.out.below hb13 (Nat.le_refl _))
    have B13 := Lib.hid (B12.out.trans (hb13.mono (by omega)))
    have O13 := Lib.hid ho13
    clear ho13 hb13 TB12 GB12 T12 M12 B12 l0 l1
    go_wp2_with fail
    refine (toActs_any _ fs w13 (HV.out.below B13.out (Nat.le_refl _)) HN.out).mono ?_
    rintro e v13 ⟨u13, rfl, hi13, hb13⟩
    obtain ⟨i4, j4, rfl, -⟩ := id hi13.2
    have g13' : w13.heap.size ≤ v13.heap.size := hb13.size
    have TB13' := Lib.hid (TB13.out.next hb13)
    have GB13' := Lib.hid (GB13.out.next hb13)
    have T13' := Lib.hid (T13.out.below hb13 (Nat.le_refl _))
    have M13' := Lib.hid (M13.out.below hb13 (Nat.le_refl _))
    have B13' := Lib.hid (B13.out.trans (hb13.mono (by omega)))
    have O13' := Lib.hid (O13.out.below hb13 (Nat.le_refl _))
    have I13 := Lib.hid hi13
    clear hi13 hb13 TB13 GB13 T13 M13 B13 O13
    go_wp2_with fail
    have himpl := implActsDo _ _ F _ fs v13 (O13'.out.rd) SZ.out (I13.out.rd) HN.out HX.out
    rw [← HO.out] at himpl
    refine himpl.mono ?_
    clear himpl
    rintro e w14 ⟨s14, t14, rfl, ho14, hb14⟩
    obtain ⟨a13, p13, rfl, -⟩ := id ho14.1.2
    obtain ⟨a14, p14, rfl, -⟩ := id ho14.2.1.2
    have b14 := below_alloc1 w14 (.cells #[.slice a13 O.fl.sec.length p13, .slice a14 O.fl.dir.length p14, .string O.data, .int .i64 O.code] 35)
    have g14 : v13.heap.size ≤ w14.heap.size := hb14.size
    have bb := hb14.trans (b14.mono g14)
    have t0 := TB13'.out.next bb
    have k0 := t0.q0
    have k1 := t0.q1
    have k2 := t0.q2
    have k3 := t0.q3
    have g15 : v13.heap.size ≤ (w14.alloc (.cells #[.slice a13 O.fl.sec.length p13, .slice a14 O.fl.dir.length p14, .string O.data, .int .i64 O.code] 35)).heap.size := bb.size
    have GB14 := Lib.hid (GB13'.out.next bb)
    have T14 := Lib.hid (T13'.out.below bb (Nat.le_refl _))
    have M14 := Lib.hid (M13'.out.below bb (Nat.le_refl _))
    have B14 := Lib.hid (B13'.out.trans (bb.mono (by omega)))
    have O14 := Lib.hid (ho14.below b14 (Nat.le_refl _))
    clear ho14 hb14 b14 bb t0 TB13' GB13' T13' M13' B13' O13' I13
    go_wp2_with fail
    generalize w14.alloc (.cells #[.slice a13 O.fl.sec.length p13, .slice a14 O.fl.dir.length p14, .string O.data, .int .i64 O.code] 35) = W14 at *
    clear k0 k1 k2 k3
    refine (eqFlashOut_any _ _ _ _ O W14 O14.out.rd T14.out.rd QO.out).mono ?_
    rintro e w16 ⟨rfl, hb16⟩
    have g16 : W14.heap.size ≤ w16.heap.size := hb16.size
    have u0 := GB14.out.next hb16
    have k0 := u0.q0
    have k1 := u0.q1
    have k2 := u0.q2
    have k3 := u0.q3
    have M16 := Lib.hid (M14.out.below hb16 (Nat.le_refl _))
    have B16 := Lib.hid (B14.out.trans (hb16.mono (by omega)))
    clear hb16 u0 GB14 T14 M14 B14 O14
    go_wp2_with fail
    refine (heldFlashOut_any v4.heap.size _ _ _ _ O.fl.sec.length O.fl.dir.length 1 w16 M16.out QO.out.1 QO.out.2 (by omega) (by omega)).mono ?_
    rintro e w17 ⟨rfl, hb17⟩
    rw [← CM.out]
    have B17 := Lib.hid (B16.out.trans (hb17.mono (by omega)))
    clear hb17
    go_wp2_with fail
    go_ret
    exact ⟨rfl, B17.out⟩)
end Go.Proofs.Ytocjjkjjojdpdaa
