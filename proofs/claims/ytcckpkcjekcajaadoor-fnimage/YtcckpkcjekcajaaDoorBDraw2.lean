/- The drawn steps: spec.l01Src.l06Any, spec.DrawStepRight. -/
import Derived.Test.YtcckpkcjekcajaaDoorBDraw1
namespace Go.Proofs.YtcckpkcjekcajaaDoor
open Go.RowKit

theorem ints3 (x0 x1 x2 : Int) (j : Nat) (h : j < 3) : ∃ z : Int, (#[Value.int .i64 x0, .int .i64 x1, .int .i64 x2])[j]? = some (.int .i64 z) := by
  match j, h with
  | 0, _ => exact ⟨_, rfl⟩
  | 1, _ => exact ⟨_, rfl⟩
  | 2, _ => exact ⟨_, rfl⟩
theorem ints3b (j : Nat) (h : j < 3) : ∃ z : Int, (#[Value.int .i64 (-1), .int .i64 7, .int .i64 8])[j]? = some (.int .i64 z) ∧ -9223372036854775808 ≤ z ∧ z ≤ 9223372036854775807 := by
  match j, h with
  | 0, _ => exact ⟨_, rfl, by decide, by decide⟩
  | 1, _ => exact ⟨_, rfl, by decide, by decide⟩
  | 2, _ => exact ⟨_, rfl, by decide, by decide⟩
theorem ints5 (x0 x1 x2 x3 x4 : Int) (j : Nat) (h : j < 5) : ∃ z : Int, (#[Value.int .i64 x0, .int .i64 x1, .int .i64 x2, .int .i64 x3, .int .i64 x4])[j]? = some (.int .i64 z) := by
  match j, h with
  | 0, _ => exact ⟨_, rfl⟩
  | 1, _ => exact ⟨_, rfl⟩
  | 2, _ => exact ⟨_, rfl⟩
  | 3, _ => exact ⟨_, rfl⟩
  | 4, _ => exact ⟨_, rfl⟩
theorem ints7 (x0 x1 x2 x3 x4 x5 x6 : Int) (j : Nat) (h : j < 7) : ∃ z : Int, (#[Value.int .i64 x0, .int .i64 x1, .int .i64 x2, .int .i64 x3, .int .i64 x4, .int .i64 x5, .int .i64 x6])[j]? = some (.int .i64 z) := by
  match j, h with
  | 0, _ => exact ⟨_, rfl⟩
  | 1, _ => exact ⟨_, rfl⟩
  | 2, _ => exact ⟨_, rfl⟩
  | 3, _ => exact ⟨_, rfl⟩
  | 4, _ => exact ⟨_, rfl⟩
  | 5, _ => exact ⟨_, rfl⟩
  | 6, _ => exact ⟨_, rfl⟩

set_option maxRecDepth 100000 in
set_option maxHeartbeats 4000000 in
theorem any_any (b : Nat) (a : Option Addr) (len cap : Nat) (w : World) (hS : Src w b a len cap) (hR : Row w a len b) :
    Calls Tryd.prog 40 #[.pointer (some ⟨b, 0, none⟩)] w (DrawnX b a len cap w) := by
  have hbl := hS.lt
  have Y0 := Lib.hid (bx_new w 33 #[.int .i64 0, .int .i64 0, .int .i64 0, .string { data := #[] }])
  have K0 := Lib.hid ((Kept.refl b w).alloc (.cells #[.int .i64 0, .int .i64 0, .int .i64 0, .string { data := #[] }] 33))
  have S0 := Lib.hid (hS.below (below_alloc1 w (.cells #[.int .i64 0, .int .i64 0, .int .i64 0, .string { data := #[] }] 33)))
  have z0 := size_alloc1 w (.cells #[.int .i64 0, .int .i64 0, .int .i64 0, .string { data := #[] }] 33)
  have HR := Lib.hid hR
  clear hS hR
  go_enter Tryd.func40, Tryd.ntmps40
  go_wp2_with fail
  generalize w.alloc (.cells #[.int .i64 0, .int .i64 0, .int .i64 0, .string { data := #[] }] 33) = W0 at *
  refine (step_any b a len cap W0 S0.out (HR.out.kept K0.out)).mono ?_
  rintro e w1 ⟨x, hx0, rfl, hs1, hk1⟩
  have hx := Lib.hid hx0
  clear hx0
  have g1 : W0.heap.size ≤ w1.heap.size := hk1.size
  unfold stpV
  have ST1 := Lib.hid (show XSt b a len cap w w.heap.size w1.heap.size x (w1.alloc (.cells #[.int .i64 x.1, .int .i64 x.2.1, .int .i64 x.2.2.1, .string x.2.2.2] 33)) from
    ⟨(Y0.out.kept hk1 (by omega)).next (below_alloc1 w1 _), bx_new w1 _ _, hs1.below (below_alloc1 w1 _), (K0.out.trans hk1).alloc _, by omega, by omega, by omega, Nat.le_refl _, by omega⟩)
  clear hs1 hk1 Y0 K0 S0
  go_wp2_with fail
  generalize w1.alloc (.cells #[.int .i64 x.1, .int .i64 x.2.1, .int .i64 x.2.2.1, .string x.2.2.2] 33) = W1 at *
  generalize w1.heap.size = n at *
  refine (one_any b a len cap 6 W1 ST1.out.src (HR.out.kept ST1.out.kept) (by omega) (by omega)).mono ?_
  rintro e w2 ⟨bb, rfl, hs2, hk2⟩
  have ST2 := Lib.hid (ST1.out.keep hk2 hs2)
  clear hs2 hk2 ST1
  cases bb with
  | false =>
    go_wp2_with fail
    refine (one_any b a len cap 10 _ ST2.out.src (HR.out.kept ST2.out.kept) (by omega) (by omega)).mono ?_
    rintro e w4 ⟨cc, rfl, hs4, hk4⟩
    have T4 := Lib.hid (ST2.out.keep hk4 hs4)
    clear hs4 hk4 ST2
    cases cc with
    | false =>
      obtain ⟨⟨r0, r1, r2, r3⟩, s0, s1, s2, s3⟩ := T4.out.ans.cf4
      obtain ⟨⟨u0, u1, u2, u3⟩, v0, v1, v2, v3⟩ := T4.out.box.cf4
      go_wp2_with fail
      refine bodyPost_ret (v := stpV (x.1, x.2.1, x.2.2.1, x.2.2.2)) (by simp [stpV, results, Tryd.results40, go_sem, r0, r1, r2, r3]) rfl ⟨(x.1, x.2.1, x.2.2.1, x.2.2.2), hx.out, rfl, ?_⟩
      exact T4.out.fin _ _ _ _
    | true =>
      go_wp2_with fail
      refine (n_any b a len cap 5 _ T4.out.src (HR.out.kept T4.out.kept) (by omega) (by omega)).mono ?_
      rintro e w5 ⟨y, ⟨hy0, hy1⟩, rfl, hs5, hk5⟩
      have T5 := Lib.hid (T4.out.keep hk5 hs5)
      clear hs5 hk5 T4
      have hy : y = 0 ∨ y = 1 ∨ y = 2 ∨ y = 3 ∨ y = 4 := by omega
      clear hy0 hy1
      rcases hy with rfl | rfl | rfl | rfl | rfl
      · go_wp2_with fail
        refine (n_any b a len cap 7 _ T5.out.src (HR.out.kept T5.out.kept) (by omega) (by omega)).mono ?_
        rintro e w6 ⟨z, -, rfl, hs6, hk6⟩
        have T6 := Lib.hid (T5.out.keep hk6 hs6)
        obtain ⟨⟨q0, q1, q2, q3⟩, t0, t1, t2, t3⟩ := T6.out.box.cf4
        have T7 := Lib.hid (T6.out.set0 z)
        clear hs6 hk6
        obtain ⟨⟨r0, r1, r2, r3⟩, s0, s1, s2, s3⟩ := T7.out.ans.cf4
        obtain ⟨⟨u0, u1, u2, u3⟩, v0, v1, v2, v3⟩ := T7.out.box.cf4
        go_wp2_with fail
        refine bodyPost_ret (v := stpV (z, x.2.1, x.2.2.1, x.2.2.2)) (by simp [stpV, results, Tryd.results40, go_sem, r0, r1, r2, r3]) rfl ⟨(z, x.2.1, x.2.2.1, x.2.2.2), hx.out, rfl, ?_⟩
        exact T7.out.fin _ _ _ _
      · have T6 := Lib.hid (T5.out.next (below_alloc1 w5 (.cells #[.int .i64 (-1), .int .i64 7, .int .i64 8] 2)))
        have BX := Lib.hid (bx_new w5 2 #[.int .i64 (-1), .int .i64 7, .int .i64 8])
        have hgb : w5.heap.size ≠ b := by have := T5.out.src.lt; omega
        go_wp2_with fail
        generalize w5.alloc (.cells #[.int .i64 (-1), .int .i64 7, .int .i64 8] 2) = W6 at *
        generalize w5.heap.size = g5 at *
        refine (n_any b a len cap 3 _ T6.out.src (HR.out.kept T6.out.kept) (by omega) (by omega)).mono ?_
        rintro e w7 ⟨v, ⟨hv0, hv1⟩, rfl, hs7, hk7⟩
        obtain ⟨j, rfl⟩ := Int.eq_ofNat_of_zero_le hv0
        obtain ⟨zz, hzz, hzb⟩ := ints3b j (by omega)
        have HZB := Lib.hid hzb
        clear hzb
        have hcell := (BX.out.kept hk7 hgb).cell j
        rw [hzz] at hcell
        have T7 := Lib.hid (T6.out.keep hk7 hs7)
        obtain ⟨⟨q0, q1, q2, q3⟩, t0, t1, t2, t3⟩ := T7.out.box.cf4
        have T8 := Lib.hid (T7.out.set1 zz)
        clear hs7 hk7 hzz BX
        obtain ⟨⟨r0, r1, r2, r3⟩, s0, s1, s2, s3⟩ := T8.out.ans.cf4
        obtain ⟨⟨u0, u1, u2, u3⟩, v0, v1, v2, v3⟩ := T8.out.box.cf4
        go_wp2_with fail
        refine bodyPost_ret (v := stpV (x.1, zz, x.2.2.1, x.2.2.2)) (by simp [stpV, results, Tryd.results40, go_sem, r0, r1, r2, r3]) rfl ⟨(x.1, zz, x.2.2.1, x.2.2.2), ⟨hx.out.1, HZB.out⟩, rfl, ?_⟩
        exact T8.out.fin _ _ _ _
      · have T6 := Lib.hid (T5.out.next (below_alloc1 w5 (.cells #[.int .i64 (-1), .int .i64 7, .int .i64 8, .int .i64 1000000, .int .i64 1000001] 2)))
        have BX := Lib.hid (bx_new w5 2 #[.int .i64 (-1), .int .i64 7, .int .i64 8, .int .i64 1000000, .int .i64 1000001])
        have hgb : w5.heap.size ≠ b := by have := T5.out.src.lt; omega
        go_wp2_with fail
        generalize w5.alloc (.cells #[.int .i64 (-1), .int .i64 7, .int .i64 8, .int .i64 1000000, .int .i64 1000001] 2) = W6 at *
        generalize w5.heap.size = g5 at *
        refine (n_any b a len cap 5 _ T6.out.src (HR.out.kept T6.out.kept) (by omega) (by omega)).mono ?_
        rintro e w7 ⟨v, ⟨hv0, hv1⟩, rfl, hs7, hk7⟩
        obtain ⟨j, rfl⟩ := Int.eq_ofNat_of_zero_le hv0
        obtain ⟨zz, hzz⟩ := ints5 (-1) (7) (8) (1000000) (1000001) j (by omega)
        have hcell := (BX.out.kept hk7 hgb).cell j
        rw [hzz] at hcell
        have T7 := Lib.hid (T6.out.keep hk7 hs7)
        obtain ⟨⟨q0, q1, q2, q3⟩, t0, t1, t2, t3⟩ := T7.out.box.cf4
        have T8 := Lib.hid (T7.out.set2 zz)
        clear hs7 hk7 hzz BX
        obtain ⟨⟨r0, r1, r2, r3⟩, s0, s1, s2, s3⟩ := T8.out.ans.cf4
        obtain ⟨⟨u0, u1, u2, u3⟩, v0, v1, v2, v3⟩ := T8.out.box.cf4
        go_wp2_with fail
        refine bodyPost_ret (v := stpV (x.1, x.2.1, zz, x.2.2.2)) (by simp [stpV, results, Tryd.results40, go_sem, r0, r1, r2, r3]) rfl ⟨(x.1, x.2.1, zz, x.2.2.2), hx.out, rfl, ?_⟩
        exact T8.out.fin _ _ _ _
      · go_wp2_with fail
        refine (n_any b a len cap 3 _ T5.out.src (HR.out.kept T5.out.kept) (by omega) (by omega)).mono ?_
        rintro e w6 ⟨v, ⟨hv0, hv1⟩, rfl, hs6, hk6⟩
        obtain ⟨j, rfl⟩ := Int.eq_ofNat_of_zero_le hv0
        have T6 := Lib.hid (T5.out.keep hk6 hs6)
        have hw : wrap64 (7 + (j : Int)) = ((7 + j : Nat) : Int) := by rw [IntWalk.wrap64_in _ (by omega)]; omega
        clear hs6 hk6
        go_wp2_with fail
        refine (bytes_any b a len cap (7 + j) _ T6.out.src (HR.out.kept T6.out.kept) (by omega)).mono ?_
        rintro e w7 ⟨d, hd, rfl, hs7, hk7⟩
        have T7 := Lib.hid (T6.out.keep hk7 hs7)
        obtain ⟨⟨q0, q1, q2, q3⟩, t0, t1, t2, t3⟩ := T7.out.box.cf4
        have T8 := Lib.hid (T7.out.set3 d)
        clear hs7 hk7 hw
        obtain ⟨⟨r0, r1, r2, r3⟩, s0, s1, s2, s3⟩ := T8.out.ans.cf4
        obtain ⟨⟨u0, u1, u2, u3⟩, v0, v1, v2, v3⟩ := T8.out.box.cf4
        go_wp2_with fail
        refine bodyPost_ret (v := stpV (x.1, x.2.1, x.2.2.1, d)) (by simp [stpV, results, Tryd.results40, go_sem, r0, r1, r2, r3]) rfl ⟨(x.1, x.2.1, x.2.2.1, d), ⟨by simp only; omega, hx.out.2⟩, rfl, ?_⟩
        exact T8.out.fin _ _ _ _
      · obtain ⟨⟨q0, q1, q2, q3⟩, t0, t1, t2, t3⟩ := T5.out.box.cf4
        have T8 := Lib.hid (T5.out.set3 ⟨#[]⟩)
        obtain ⟨⟨r0, r1, r2, r3⟩, s0, s1, s2, s3⟩ := T8.out.ans.cf4
        obtain ⟨⟨u0, u1, u2, u3⟩, v0, v1, v2, v3⟩ := T8.out.box.cf4
        go_wp2_with fail
        refine bodyPost_ret (v := stpV (x.1, x.2.1, x.2.2.1, ⟨#[]⟩)) (by simp [stpV, results, Tryd.results40, go_sem, r0, r1, r2, r3]) rfl ⟨(x.1, x.2.1, x.2.2.1, ⟨#[]⟩), ⟨Nat.zero_le _, hx.out.2⟩, rfl, ?_⟩
        exact T8.out.fin _ _ _ _
  | true =>
    go_wp2_with fail
    refine (n_any b a len cap 9 _ ST2.out.src (HR.out.kept ST2.out.kept) (by omega) (by omega)).mono ?_
    rintro e w3 ⟨f, -, rfl, hs3, hk3⟩
    have ST3 := Lib.hid (ST2.out.keep hk3 hs3)
    obtain ⟨⟨q0, q1, q2, q3⟩, t0, t1, t2, t3⟩ := ST3.out.box.cf4
    have ST4 := Lib.hid (ST3.out.all (5, 0, f, ⟨#[]⟩))
    clear hs3 hk3 ST2
    go_wp2_with fail
    clear q0 q1 q2 q3 t0 t1 t2 t3
    refine (one_any b a len cap 10 _ ST4.out.src (HR.out.kept ST4.out.kept) (by omega) (by omega)).mono ?_
    rintro e w4 ⟨cc, rfl, hs4, hk4⟩
    have T4 := Lib.hid (ST4.out.keep hk4 hs4)
    clear hs4 hk4 ST4
    cases cc with
    | false =>
      obtain ⟨⟨r0, r1, r2, r3⟩, s0, s1, s2, s3⟩ := T4.out.ans.cf4
      obtain ⟨⟨u0, u1, u2, u3⟩, v0, v1, v2, v3⟩ := T4.out.box.cf4
      go_wp2_with fail
      refine bodyPost_ret (v := stpV (5, 0, f, ⟨#[]⟩)) (by simp [stpV, results, Tryd.results40, go_sem, r0, r1, r2, r3]) rfl ⟨(5, 0, f, ⟨#[]⟩), ⟨Nat.zero_le _, by simp, by simp⟩, rfl, ?_⟩
      exact T4.out.fin _ _ _ _
    | true =>
      go_wp2_with fail
      refine (n_any b a len cap 5 _ T4.out.src (HR.out.kept T4.out.kept) (by omega) (by omega)).mono ?_
      rintro e w5 ⟨y, ⟨hy0, hy1⟩, rfl, hs5, hk5⟩
      have T5 := Lib.hid (T4.out.keep hk5 hs5)
      clear hs5 hk5 T4
      have hy : y = 0 ∨ y = 1 ∨ y = 2 ∨ y = 3 ∨ y = 4 := by omega
      clear hy0 hy1
      rcases hy with rfl | rfl | rfl | rfl | rfl
      · go_wp2_with fail
        refine (n_any b a len cap 7 _ T5.out.src (HR.out.kept T5.out.kept) (by omega) (by omega)).mono ?_
        rintro e w6 ⟨z, -, rfl, hs6, hk6⟩
        have T6 := Lib.hid (T5.out.keep hk6 hs6)
        obtain ⟨⟨q0, q1, q2, q3⟩, t0, t1, t2, t3⟩ := T6.out.box.cf4
        have T7 := Lib.hid (T6.out.set0 z)
        clear hs6 hk6
        obtain ⟨⟨r0, r1, r2, r3⟩, s0, s1, s2, s3⟩ := T7.out.ans.cf4
        obtain ⟨⟨u0, u1, u2, u3⟩, v0, v1, v2, v3⟩ := T7.out.box.cf4
        go_wp2_with fail
        refine bodyPost_ret (v := stpV (z, 0, f, ⟨#[]⟩)) (by simp [stpV, results, Tryd.results40, go_sem, r0, r1, r2, r3]) rfl ⟨(z, 0, f, ⟨#[]⟩), ⟨Nat.zero_le _, by simp, by simp⟩, rfl, ?_⟩
        exact T7.out.fin _ _ _ _
      · have T6 := Lib.hid (T5.out.next (below_alloc1 w5 (.cells #[.int .i64 (-1), .int .i64 7, .int .i64 8] 2)))
        have BX := Lib.hid (bx_new w5 2 #[.int .i64 (-1), .int .i64 7, .int .i64 8])
        have hgb : w5.heap.size ≠ b := by have := T5.out.src.lt; omega
        go_wp2_with fail
        generalize w5.alloc (.cells #[.int .i64 (-1), .int .i64 7, .int .i64 8] 2) = W6 at *
        generalize w5.heap.size = g5 at *
        refine (n_any b a len cap 3 _ T6.out.src (HR.out.kept T6.out.kept) (by omega) (by omega)).mono ?_
        rintro e w7 ⟨v, ⟨hv0, hv1⟩, rfl, hs7, hk7⟩
        obtain ⟨j, rfl⟩ := Int.eq_ofNat_of_zero_le hv0
        obtain ⟨zz, hzz, hzb⟩ := ints3b j (by omega)
        have HZB := Lib.hid hzb
        clear hzb
        have hcell := (BX.out.kept hk7 hgb).cell j
        rw [hzz] at hcell
        have T7 := Lib.hid (T6.out.keep hk7 hs7)
        obtain ⟨⟨q0, q1, q2, q3⟩, t0, t1, t2, t3⟩ := T7.out.box.cf4
        have T8 := Lib.hid (T7.out.set1 zz)
        clear hs7 hk7 hzz BX
        obtain ⟨⟨r0, r1, r2, r3⟩, s0, s1, s2, s3⟩ := T8.out.ans.cf4
        obtain ⟨⟨u0, u1, u2, u3⟩, v0, v1, v2, v3⟩ := T8.out.box.cf4
        go_wp2_with fail
        refine bodyPost_ret (v := stpV (5, zz, f, ⟨#[]⟩)) (by simp [stpV, results, Tryd.results40, go_sem, r0, r1, r2, r3]) rfl ⟨(5, zz, f, ⟨#[]⟩), ⟨Nat.zero_le _, HZB.out⟩, rfl, ?_⟩
        exact T8.out.fin _ _ _ _
      · have T6 := Lib.hid (T5.out.next (below_alloc1 w5 (.cells #[.int .i64 (-1), .int .i64 7, .int .i64 8, .int .i64 1000000, .int .i64 1000001] 2)))
        have BX := Lib.hid (bx_new w5 2 #[.int .i64 (-1), .int .i64 7, .int .i64 8, .int .i64 1000000, .int .i64 1000001])
        have hgb : w5.heap.size ≠ b := by have := T5.out.src.lt; omega
        go_wp2_with fail
        generalize w5.alloc (.cells #[.int .i64 (-1), .int .i64 7, .int .i64 8, .int .i64 1000000, .int .i64 1000001] 2) = W6 at *
        generalize w5.heap.size = g5 at *
        refine (n_any b a len cap 5 _ T6.out.src (HR.out.kept T6.out.kept) (by omega) (by omega)).mono ?_
        rintro e w7 ⟨v, ⟨hv0, hv1⟩, rfl, hs7, hk7⟩
        obtain ⟨j, rfl⟩ := Int.eq_ofNat_of_zero_le hv0
        obtain ⟨zz, hzz⟩ := ints5 (-1) (7) (8) (1000000) (1000001) j (by omega)
        have hcell := (BX.out.kept hk7 hgb).cell j
        rw [hzz] at hcell
        have T7 := Lib.hid (T6.out.keep hk7 hs7)
        obtain ⟨⟨q0, q1, q2, q3⟩, t0, t1, t2, t3⟩ := T7.out.box.cf4
        have T8 := Lib.hid (T7.out.set2 zz)
        clear hs7 hk7 hzz BX
        obtain ⟨⟨r0, r1, r2, r3⟩, s0, s1, s2, s3⟩ := T8.out.ans.cf4
        obtain ⟨⟨u0, u1, u2, u3⟩, v0, v1, v2, v3⟩ := T8.out.box.cf4
        go_wp2_with fail
        refine bodyPost_ret (v := stpV (5, 0, zz, ⟨#[]⟩)) (by simp [stpV, results, Tryd.results40, go_sem, r0, r1, r2, r3]) rfl ⟨(5, 0, zz, ⟨#[]⟩), ⟨Nat.zero_le _, by simp, by simp⟩, rfl, ?_⟩
        exact T8.out.fin _ _ _ _
      · go_wp2_with fail
        refine (n_any b a len cap 3 _ T5.out.src (HR.out.kept T5.out.kept) (by omega) (by omega)).mono ?_
        rintro e w6 ⟨v, ⟨hv0, hv1⟩, rfl, hs6, hk6⟩
        obtain ⟨j, rfl⟩ := Int.eq_ofNat_of_zero_le hv0
        have T6 := Lib.hid (T5.out.keep hk6 hs6)
        have hw : wrap64 (7 + (j : Int)) = ((7 + j : Nat) : Int) := by rw [IntWalk.wrap64_in _ (by omega)]; omega
        clear hs6 hk6
        go_wp2_with fail
        refine (bytes_any b a len cap (7 + j) _ T6.out.src (HR.out.kept T6.out.kept) (by omega)).mono ?_
        rintro e w7 ⟨d, hd, rfl, hs7, hk7⟩
        have T7 := Lib.hid (T6.out.keep hk7 hs7)
        obtain ⟨⟨q0, q1, q2, q3⟩, t0, t1, t2, t3⟩ := T7.out.box.cf4
        have T8 := Lib.hid (T7.out.set3 d)
        clear hs7 hk7 hw
        obtain ⟨⟨r0, r1, r2, r3⟩, s0, s1, s2, s3⟩ := T8.out.ans.cf4
        obtain ⟨⟨u0, u1, u2, u3⟩, v0, v1, v2, v3⟩ := T8.out.box.cf4
        go_wp2_with fail
        refine bodyPost_ret (v := stpV (5, 0, f, d)) (by simp [stpV, results, Tryd.results40, go_sem, r0, r1, r2, r3]) rfl ⟨(5, 0, f, d), ⟨by simp only; omega, by simp, by simp⟩, rfl, ?_⟩
        exact T8.out.fin _ _ _ _
      · obtain ⟨⟨q0, q1, q2, q3⟩, t0, t1, t2, t3⟩ := T5.out.box.cf4
        have T8 := Lib.hid (T5.out.set3 ⟨#[]⟩)
        obtain ⟨⟨r0, r1, r2, r3⟩, s0, s1, s2, s3⟩ := T8.out.ans.cf4
        obtain ⟨⟨u0, u1, u2, u3⟩, v0, v1, v2, v3⟩ := T8.out.box.cf4
        go_wp2_with fail
        refine bodyPost_ret (v := stpV (5, 0, f, ⟨#[]⟩)) (by simp [stpV, results, Tryd.results40, go_sem, r0, r1, r2, r3]) rfl ⟨(5, 0, f, ⟨#[]⟩), ⟨Nat.zero_le _, by simp, by simp⟩, rfl, ?_⟩
        exact T8.out.fin _ _ _ _
end Go.Proofs.YtcckpkcjekcajaaDoor
