/- impl.StepRead, and the law. -/
import Derived.Test.YthkbllkhomjmbaaDoorBSRead
namespace Go.Proofs.YthkbllkhomjmbaaDoor
open Go.RowKit

theorem p_at (s : ByteArray) (hs : s.size ≤ maxLen) : (p1 s).2.1 ≤ 9223372036854775807 ∧ (p2 s).2.1 ≤ 9223372036854775807 ∧ (p3 s).2.1 ≤ 9223372036854775807 := by
  have h1 := getR_at s 0 hs
  have h2 := getR_at s (p1 s).2.1 hs
  have h3 := getR_at s (p2 s).2.1 hs
  exact ⟨by unfold p1; omega, by unfold p2; omega, by unfold p3; omega⟩
set_option maxRecDepth 100000 in
set_option maxHeartbeats 4000000 in
theorem implStepRead (s : ByteArray) (w : World) (hs : s.size ≤ maxLen) (hL : Laid w) :
    Calls Tryd.prog 31 #[.string s] w fun e w' => e = .returned (soV (rdR s)) ∧ Below w.heap.size w w' := by
  have Y0 := Lib.hid (bx_new w 46 #[.int .i64 0, .int .i64 0, .int .i64 0, .string { data := #[] }, .int .i64 0])
  have B0 := Lib.hid (below_alloc1 w (.cells #[.int .i64 0, .int .i64 0, .int .i64 0, .string { data := #[] }, .int .i64 0] 46))
  have z0 := size_alloc1 w (.cells #[.int .i64 0, .int .i64 0, .int .i64 0, .string { data := #[] }, .int .i64 0] 46)
  have HS := Lib.hid hs
  have HL := Lib.hid hL
  unfold maxLen at hs
  clear hL
  obtain ⟨l1, l2, l3⟩ := p_at s HS.out
  by_cases hbig : 8000 < s.size
  · have e : rdR s = ((0, 0, 0, ⟨#[]⟩), 2) := by unfold rdR; rw [if_pos hbig]
    rw [e]
    clear e l1 l2 l3
    have d0 : decide ((8000 : Int) < (s.size : Int)) = true := decide_eq_true (by omega)
    go_enter Tryd.func31, Tryd.ntmps31
    go_wp2_with fail
    refine bodyPost_ret (v := soV ((0, 0, 0, ⟨#[]⟩), 2)) (by simp [soV, results, Tryd.results31, go_sem]) rfl ⟨rfl, ?_⟩
    exact below_alloc1 w _
  have d0 : decide ((8000 : Int) < (s.size : Int)) = false := decide_eq_false (by omega)
  obtain ⟨R, hR⟩ : ∃ R, R = rdR s := ⟨_, rfl⟩
  rw [← hR]
  unfold rdR at hR
  rw [if_neg hbig] at hR
  have hrdB : rdB s = (stepB 8 (p1 s).1 (p2 s).1 (p3 s).1 (p4 s).1 && ((stepBs (p1 s).1 (p2 s).1 (p3 s).1 (p4 s).1).toList == s.toList)) := rfl
  have hrs : rdStp s = ((p1 s).1, (p2 s).1, (p3 s).1, (p4 s).1) := rfl
  rw [hrdB, hrs] at hR
  clear hrdB hrs
  have HR := Lib.hid hR
  have HN1 := Lib.hid (fun w hL => implGet_any s 0 w HS.out (by decide) hL)
  have HN2 := Lib.hid (fun w hL => implGet_any s (p1 s).2.1 w HS.out l1 hL)
  have HN3 := Lib.hid (fun w hL => implGet_any s (p2 s).2.1 w HS.out l2 hL)
  have HN4 := Lib.hid (fun w hL => implTextR s (p3 s).2.1 w HS.out l3 hL)
  have HSR := Lib.hid (fun w => implRight (p1 s).1 (p2 s).1 (p3 s).1 8 (p4 s).1 w)
  have HSB := Lib.hid (fun w => implStepBs (p1 s).1 (p2 s).1 (p3 s).1 (p4 s).1 w)
  rw [show getR s 0 = p1 s from rfl] at HN1
  rw [show getR s (p1 s).2.1 = p2 s from rfl] at HN2
  rw [show getR s (p2 s).2.1 = p3 s from rfl] at HN3
  rw [show textR s (p3 s).2.1 = p4 s from rfl] at HN4
  obtain ⟨ok, hok⟩ : ∃ b, b = stepB 8 (p1 s).1 (p2 s).1 (p3 s).1 (p4 s).1 := ⟨_, rfl⟩
  obtain ⟨M, hM⟩ : ∃ M, M = stepBs (p1 s).1 (p2 s).1 (p3 s).1 (p4 s).1 := ⟨_, rfl⟩
  rw [← hok] at HR HSR
  rw [← hM] at HR HSB
  clear l1 l2 l3 hR hok hM
  unfold numV at HN1 HN2 HN3
  unfold textV at HN4
  generalize p1 s = P1 at *
  generalize p2 s = P2 at *
  generalize p3 s = P3 at *
  generalize p4 s = P4 at *
  obtain ⟨k, kq, kc⟩ := P1
  obtain ⟨t, tq, tc⟩ := P2
  obtain ⟨f, fq, fc⟩ := P3
  obtain ⟨d, dq, dc⟩ := P4
  dsimp only at HR HN1 HN2 HN3 HN4 HSR HSB
  go_enter Tryd.func31, Tryd.ntmps31
  go_wp2_with fail
  generalize w.alloc (.cells #[.int .i64 0, .int .i64 0, .int .i64 0, .string { data := #[] }, .int .i64 0] 46) = W0 at *
  refine (HN1.out W0 (HL.out.below B0.out)).mono ?_
  rintro e w1 ⟨rfl, hb⟩
  have b1 := below_alloc1 w1 (.cells #[.int .i64 k, .int .i64 kq, .int .i64 kc] 26)
  have z1 := size_alloc1 w1 (.cells #[.int .i64 k, .int .i64 kq, .int .i64 kc] 26)
  have hbb := below_more hb b1
  have N1 := Lib.hid (bx_new w1 26 #[.int .i64 k, .int .i64 kq, .int .i64 kc])
  replace Y0 := Lib.hid (Y0.out.next hbb)
  replace B0 := Lib.hid (below_more B0.out hbb)
  clear hb hbb b1 HN1
  have q0 := N1.out.t1
  go_wp2_with fail
  clear q0
  generalize w1.alloc (.cells #[.int .i64 k, .int .i64 kq, .int .i64 kc] 26) = W1 at *
  generalize w1.heap.size = n1 at *
  refine (HN2.out W1 (HL.out.below B0.out)).mono ?_
  rintro e w2 ⟨rfl, hb⟩
  have b2 := below_alloc1 w2 (.cells #[.int .i64 t, .int .i64 tq, .int .i64 tc] 26)
  have z2 := size_alloc1 w2 (.cells #[.int .i64 t, .int .i64 tq, .int .i64 tc] 26)
  have hbb := below_more hb b2
  have N2 := Lib.hid (bx_new w2 26 #[.int .i64 t, .int .i64 tq, .int .i64 tc])
  replace Y0 := Lib.hid (Y0.out.next hbb)
  replace N1 := Lib.hid (N1.out.next hbb)
  replace B0 := Lib.hid (below_more B0.out hbb)
  clear hb hbb b2 HN2
  have q0 := N2.out.t1
  go_wp2_with fail
  clear q0
  generalize w2.alloc (.cells #[.int .i64 t, .int .i64 tq, .int .i64 tc] 26) = W2 at *
  generalize w2.heap.size = n2 at *
  refine (HN3.out W2 (HL.out.below B0.out)).mono ?_
  rintro e w3 ⟨rfl, hb⟩
  have b3 := below_alloc1 w3 (.cells #[.int .i64 f, .int .i64 fq, .int .i64 fc] 26)
  have z3 := size_alloc1 w3 (.cells #[.int .i64 f, .int .i64 fq, .int .i64 fc] 26)
  have hbb := below_more hb b3
  have N3 := Lib.hid (bx_new w3 26 #[.int .i64 f, .int .i64 fq, .int .i64 fc])
  replace Y0 := Lib.hid (Y0.out.next hbb)
  replace N1 := Lib.hid (N1.out.next hbb)
  replace N2 := Lib.hid (N2.out.next hbb)
  replace B0 := Lib.hid (below_more B0.out hbb)
  clear hb hbb b3 HN3
  have q0 := N3.out.t1
  go_wp2_with fail
  clear q0
  generalize w3.alloc (.cells #[.int .i64 f, .int .i64 fq, .int .i64 fc] 26) = W3 at *
  generalize w3.heap.size = n3 at *
  refine (HN4.out W3 (HL.out.below B0.out)).mono ?_
  rintro e w4 ⟨rfl, hb⟩
  have b4 := below_alloc1 w4 (.cells #[.string d, .int .i64 dq, .int .i64 dc] 31)
  have z4 := size_alloc1 w4 (.cells #[.string d, .int .i64 dq, .int .i64 dc] 31)
  have hbb := below_more hb b4
  have N4 := Lib.hid (bx_new w4 31 #[.string d, .int .i64 dq, .int .i64 dc])
  replace Y0 := Lib.hid (Y0.out.next hbb)
  replace N1 := Lib.hid (N1.out.next hbb)
  replace N2 := Lib.hid (N2.out.next hbb)
  replace N3 := Lib.hid (N3.out.next hbb)
  replace B0 := Lib.hid (below_more B0.out hbb)
  clear hb hbb b4 HN4
  have q0 := N1.out.t0
  have q1 := N2.out.t0
  have q2 := N3.out.t0
  have q3 := N4.out.t0
  have b5 := below_alloc1 (w4.alloc (.cells #[.string d, .int .i64 dq, .int .i64 dc] 31)) (.cells #[.int .i64 k, .int .i64 t, .int .i64 f, .string d] 41)
  have s5 := (bx_new (w4.alloc (.cells #[.string d, .int .i64 dq, .int .i64 dc] 31)) 41 #[.int .i64 k, .int .i64 t, .int .i64 f, .string d])
  rw [z4] at s5
  have S5 := Lib.hid s5
  replace Y0 := Lib.hid (Y0.out.next b5)
  replace B0 := Lib.hid (below_more B0.out b5)
  clear b5 s5 N1 N2 N3 N4
  go_wp2_with fail
  clear q0 q1 q2 q3
  generalize (w4.alloc (.cells #[.string d, .int .i64 dq, .int .i64 dc] 31)).alloc (.cells #[.int .i64 k, .int .i64 t, .int .i64 f, .string d] 41) = W5 at *
  refine (HSR.out _).mono ?_
  rintro e w6 ⟨rfl, hb6⟩
  replace S5 := Lib.hid (S5.out.next hb6)
  replace Y0 := Lib.hid (Y0.out.next hb6)
  replace B0 := Lib.hid (below_more B0.out hb6)
  clear hb6 HSR
  cases ok with
  | false =>
    obtain ⟨y0, y1, y2, y3, y4⟩ := Y0.out.s0
    obtain ⟨f0, f1, f2, f3, f4⟩ := Y0.out.f5
    have hr : R = ((0, 0, 0, ⟨#[]⟩), 3) := by rw [HR.out]; rfl
    subst hr
    clear HR
    go_wp2_with fail
    refine bodyPost_ret (v := soV ((0, 0, 0, ⟨#[]⟩), 3)) (by simp [soV, results, Tryd.results31, go_sem, y0, y1, y2, y3, y4]) rfl ⟨rfl, ?_⟩
    exact set5 B0.out _ (Nat.le_refl _) _ _ _ _ _
  | true =>
    have q0 := S5.out.q0
    have q1 := S5.out.q1
    have q2 := S5.out.q2
    have q3 := S5.out.q3
    go_wp2_with fail
    clear q0 q1 q2 q3
    refine (HSB.out _).mono ?_
    rintro e w7 ⟨rfl, hb7⟩
    have q0 := (S5.out.next hb7).q0
    have q1 := (S5.out.next hb7).q1
    have q2 := (S5.out.next hb7).q2
    have q3 := (S5.out.next hb7).q3
    obtain ⟨y0, y1, y2, y3, y4⟩ := (Y0.out.next hb7).s0
    obtain ⟨f0, f1, f2, f3, f4⟩ := (Y0.out.next hb7).f5
    have B7 := Lib.hid (below_more B0.out hb7)
    clear hb7 HSB
    cases hm : (M.toList == s.toList) with
    | true =>
      have hr : R = ((k, t, f, d), 0) := by rw [HR.out, hm]; rfl
      subst hr
      clear HR
      go_wp2_with fail
      refine bodyPost_ret (v := soV ((k, t, f, d), 0)) (by simp [soV, results, Tryd.results31, go_sem, y0, y1, y2, y3, y4]) rfl ⟨rfl, ?_⟩
      exact set5 B7.out _ (Nat.le_refl _) _ _ _ _ _
    | false =>
      have hr : R = ((0, 0, 0, ⟨#[]⟩), 3) := by rw [HR.out, hm]; rfl
      subst hr
      clear HR
      go_wp2_with fail
      refine bodyPost_ret (v := soV ((0, 0, 0, ⟨#[]⟩), 3)) (by simp [soV, results, Tryd.results31, go_sem, y0, y1, y2, y3, y4]) rfl ⟨rfl, ?_⟩
      exact set5 B7.out _ (Nat.le_refl _) _ _ _ _ _

set_option maxHeartbeats 1000000 in
set_option maxRecDepth 100000 in
theorem eqStepOut_same (k t f : Int) (d : ByteArray) (c : Int) (w : World) :
    Calls Tryd.prog 46 #[.agg #[.int .i64 k, .int .i64 t, .int .i64 f, .string d, .int .i64 c], .agg #[.int .i64 k, .int .i64 t, .int .i64 f, .string d, .int .i64 c]] w fun e w' => e = .returned (.bool true) ∧ Below w.heap.size w w' := by
  have d0 : (c != c) = false := by simp
  have b1 := below_alloc1 w (.cells #[.int .i64 k, .int .i64 t, .int .i64 f, .string d, .int .i64 c] 46)
  have z1 := size_alloc1 w (.cells #[.int .i64 k, .int .i64 t, .int .i64 f, .string d, .int .i64 c] 46)
  have b2 := below_alloc1 (w.alloc (.cells #[.int .i64 k, .int .i64 t, .int .i64 f, .string d, .int .i64 c] 46)) (.cells #[.int .i64 k, .int .i64 t, .int .i64 f, .string d, .int .i64 c] 46)
  have x1 := (bx_new w 46 #[.int .i64 k, .int .i64 t, .int .i64 f, .string d, .int .i64 c]).next b2
  have x2 := bx_new (w.alloc (.cells #[.int .i64 k, .int .i64 t, .int .i64 f, .string d, .int .i64 c] 46)) 46 #[.int .i64 k, .int .i64 t, .int .i64 f, .string d, .int .i64 c]
  rw [z1] at x2
  have X1 := Lib.hid x1
  have X2 := Lib.hid x2
  have B := Lib.hid (below_more b1 b2)
  clear b1 b2 x1 x2 z1
  go_enter Tryd.func46, Tryd.ntmps46
  go_wp2_with fail
  refine (eqStep_any k t f d _).mono ?_
  rintro e w1 ⟨rfl, hb⟩
  have y4 := (X1.out.next hb).cell 4
  have u4 := (X2.out.next hb).cell 4
  simp at y4 u4
  have B1 := Lib.hid (below_more B.out hb)
  clear hb
  go_wp2_with fail
  go_ret
  exact ⟨rfl, B1.out⟩

set_option maxHeartbeats 1000000 in
set_option maxRecDepth 100000 in
theorem stepReadLaw (s : ByteArray) (w : World) (hs : s.size ≤ maxLen) (hL : Laid w) :
    Calls Tryd.prog 8 #[.string s] w fun e w' => e = .returned (.bool true) ∧ Below w.heap.size w w' := by
  have hs' := hs
  unfold maxLen at hs'
  by_cases hl : s.size ≤ 1048576
  · have d0 : decide ((1048576 : Int) < (s.size : Int)) = false := decide_eq_false (by omega)
    have HS := Lib.hid (fun w => specStepRead s w hs)
    have HI := Lib.hid (fun w => implStepRead s w hs)
    obtain ⟨R, hR⟩ : ∃ R, R = rdR s := ⟨_, rfl⟩
    rw [← hR] at HS HI
    clear hR
    obtain ⟨⟨k, t, f, d⟩, c⟩ := R
    unfold soV at HS HI
    dsimp only at HS HI
    have HL := Lib.hid hL
    clear hL
    go_enter Tryd.func8, Tryd.ntmps8
    go_wp2_with fail
    refine (HS.out _).mono ?_
    rintro e w1 ⟨rfl, hb1⟩
    have b1 := below_alloc1 w1 (.cells #[.int .i64 k, .int .i64 t, .int .i64 f, .string d, .int .i64 c] 46)
    have T1 := Lib.hid (bx_new w1 46 #[.int .i64 k, .int .i64 t, .int .i64 f, .string d, .int .i64 c])
    have B1 := Lib.hid (hb1.trans (b1.mono hb1.size))
    clear hb1 b1
    go_wp2_with fail
    generalize w1.alloc (.cells #[.int .i64 k, .int .i64 t, .int .i64 f, .string d, .int .i64 c] 46) = W1 at *
    generalize w1.heap.size = n1 at *
    refine (HI.out _ (HL.out.below B1.out)).mono ?_
    rintro e w2 ⟨rfl, hb2⟩
    have b2 := below_alloc1 w2 (.cells #[.int .i64 k, .int .i64 t, .int .i64 f, .string d, .int .i64 c] 46)
    have T2 := Lib.hid (bx_new w2 46 #[.int .i64 k, .int .i64 t, .int .i64 f, .string d, .int .i64 c])
    have hbb := below_more hb2 b2
    obtain ⟨y0, y1, y2, y3, y4⟩ := (T1.out.next hbb).s0
    have B2 := Lib.hid (below_more B1.out hbb)
    clear hb2 b2 hbb HS HI
    obtain ⟨u0, u1, u2, u3, u4⟩ := T2.out.s0
    go_wp2_with fail
    clear y0 y1 y2 y3 y4 u0 u1 u2 u3 u4
    generalize w2.alloc (.cells #[.int .i64 k, .int .i64 t, .int .i64 f, .string d, .int .i64 c] 46) = W2 at *
    refine (eqStepOut_same k t f d c _).mono ?_
    rintro e w3 ⟨rfl, hb3⟩
    have B3 := Lib.hid (below_more B2.out hb3)
    clear hb3
    go_wp2_with fail
    go_ret
    exact ⟨rfl, B3.out⟩
  · have d0 : decide ((1048576 : Int) < (s.size : Int)) = true := decide_eq_true (by omega)
    go_enter Tryd.func8, Tryd.ntmps8
    go_wp2_with fail
    go_ret
    exact ⟨rfl, Below.refl _ _⟩
end Go.Proofs.YthkbllkhomjmbaaDoor
