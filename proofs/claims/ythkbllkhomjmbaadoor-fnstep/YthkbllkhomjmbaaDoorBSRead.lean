/- StepRead: the specification's and the program's, and the law. -/
import Derived.Test.YthkbllkhomjmbaaDoorBNum
namespace Go.Proofs.YthkbllkhomjmbaaDoor
open Go.RowKit

/-- What StepRead gives, as a value. -/
def soV (R : stpT × Int) : Value := .agg #[.int .i64 R.1.1, .int .i64 R.1.2.1, .int .i64 R.1.2.2.1, .string R.1.2.2.2, .int .i64 R.2]
theorem Bx.s0 {w : World} {n : Nat} {T : TypeId} {a b c d e : Value} (h : Bx w n T #[a, b, c, d, e]) : w.cell? ⟨n, 0, none⟩ = some a ∧ w.cell? ⟨n, 1, none⟩ = some b ∧ w.cell? ⟨n, 2, none⟩ = some c ∧ w.cell? ⟨n, 3, none⟩ = some d ∧ w.cell? ⟨n, 4, none⟩ = some e := ⟨h.cell 0, h.cell 1, h.cell 2, h.cell 3, h.cell 4⟩
theorem Bx.f5 {w : World} {n : Nat} {T : TypeId} {vs : Array Value} (h : Bx w n T vs) : w.frozen? ⟨n, 0, none⟩ = false ∧ w.frozen? ⟨n, 1, none⟩ = false ∧ w.frozen? ⟨n, 2, none⟩ = false ∧ w.frozen? ⟨n, 3, none⟩ = false ∧ w.frozen? ⟨n, 4, none⟩ = false := ⟨h.frozen 0, h.frozen 1, h.frozen 2, h.frozen 3, h.frozen 4⟩
theorem set5 {B : Nat} {w0 w : World} (h : Below B w0 w) (n : Nat) (hn : B ≤ n) (a b c d e : Value) : Below B w0 (((((w.setCell ⟨n, 0, none⟩ a).setCell ⟨n, 1, none⟩ b).setCell ⟨n, 2, none⟩ c).setCell ⟨n, 3, none⟩ d).setCell ⟨n, 4, none⟩ e) :=
  ((((h.setCell (p := ⟨n, 0, none⟩) hn a).setCell (p := ⟨n, 1, none⟩) hn b).setCell (p := ⟨n, 2, none⟩) hn c).setCell (p := ⟨n, 3, none⟩) hn d).setCell (p := ⟨n, 4, none⟩) hn e
theorem below_gr {B p : Nat} {w0 w w' : World} (h : Below B w0 w) (hg : w.grownBy w' (some p)) (hB : B ≤ w.heap.size) (hp : B ≤ p) : Below B w0 w' := h.grown hg hB (fun k hk => by cases hk; exact hp)

set_option maxRecDepth 100000 in
set_option maxHeartbeats 4000000 in
theorem specStepRead (s : ByteArray) (w : World) (hs : s.size ≤ maxLen) :
    Calls Tryd.prog 36 #[.string s] w fun e w' => e = .returned (soV (rdR s)) ∧ Below w.heap.size w w' := by
  have Y0 := Lib.hid (bx_new w 46 #[.int .i64 0, .int .i64 0, .int .i64 0, .string { data := #[] }, .int .i64 0])
  have B0 := Lib.hid (below_alloc1 w (.cells #[.int .i64 0, .int .i64 0, .int .i64 0, .string { data := #[] }, .int .i64 0] 46))
  have z0 := size_alloc1 w (.cells #[.int .i64 0, .int .i64 0, .int .i64 0, .string { data := #[] }, .int .i64 0] 46)
  have HS := Lib.hid hs
  unfold maxLen at hs
  by_cases hbig : 8000 < s.size
  · have e : rdR s = ((0, 0, 0, ⟨#[]⟩), 2) := by unfold rdR; rw [if_pos hbig]
    rw [e]
    clear e
    have d0 : decide ((8000 : Int) < (s.size : Int)) = true := decide_eq_true (by omega)
    go_enter Tryd.func36, Tryd.ntmps36
    go_wp2_with fail
    refine bodyPost_ret (v := soV ((0, 0, 0, ⟨#[]⟩), 2)) (by simp [soV, results, Tryd.results36, go_sem]) rfl ⟨rfl, ?_⟩
    exact below_alloc1 w _
  have d0 : decide ((8000 : Int) < (s.size : Int)) = false := decide_eq_false (by omega)
  obtain ⟨R, hR⟩ : ∃ R, R = rdR s := ⟨_, rfl⟩
  rw [← hR]
  rw [← spR_eq s hbig] at hR
  unfold spR at hR
  have HR := Lib.hid hR
  clear hR
  have B1 := Lib.hid (below_alloc1 (w.alloc (.cells #[.int .i64 0, .int .i64 0, .int .i64 0, .string { data := #[] }, .int .i64 0] 46)) (.cells #[.string s, .int .i64 0, .bool false] 104))
  have z1 := size_alloc1 (w.alloc (.cells #[.int .i64 0, .int .i64 0, .int .i64 0, .string { data := #[] }, .int .i64 0] 46)) (.cells #[.string s, .int .i64 0, .bool false] 104)
  have X0 := bx_new (w.alloc (.cells #[.int .i64 0, .int .i64 0, .int .i64 0, .string { data := #[] }, .int .i64 0] 46)) 104 #[.string s, .int .i64 0, .bool false]
  rw [z0] at z1 X0
  replace Y0 := Lib.hid (Y0.out.next B1.out)
  replace B0 := Lib.hid (below_more B0.out B1.out)
  go_enter Tryd.func36, Tryd.ntmps36
  go_wp2_with fail
  generalize (w.alloc (.cells #[.int .i64 0, .int .i64 0, .int .i64 0, .string { data := #[] }, .int .i64 0] 46)).alloc (.cells #[.string s, .int .i64 0, .bool false] 104) = W1 at *
  clear B1
  have l1 : (a1 s).2.1 ≤ 9223372036854775807 := numS_lim s 0 false HS.out (by decide)
  have l2 : (a2 s).2.1 ≤ 9223372036854775807 := numS_lim s _ _ HS.out l1
  have l3 : (a3 s).2.1 ≤ 9223372036854775807 := numS_lim s _ _ HS.out l2
  have HN1 := Lib.hid (fun w p hB => num_any s 0 false p w HS.out (by decide) hB)
  have HN2 := Lib.hid (fun w p hB => num_any s (a1 s).2.1 (a1 s).2.2 p w HS.out l1 hB)
  have HN3 := Lib.hid (fun w p hB => num_any s (a2 s).2.1 (a2 s).2.2 p w HS.out l2 hB)
  have HN4 := Lib.hid (fun w p hB => txt_any s (a3 s).2.1 (a3 s).2.2 p w HS.out l3 hB)
  rw [show numS s 0 false = a1 s from rfl] at HN1
  rw [show numS s (a1 s).2.1 (a1 s).2.2 = a2 s from rfl] at HN2
  rw [show numS s (a2 s).2.1 (a2 s).2.2 = a3 s from rfl] at HN3
  rw [show txtS s (a3 s).2.1 (a3 s).2.2 = a4 s from rfl] at HN4
  clear l1 l2 l3
  generalize a1 s = A1 at *
  generalize a2 s = A2 at *
  generalize a3 s = A3 at *
  generalize a4 s = A4 at *
  have X1 := Lib.hid X0
  clear X0
  refine (HN1.out W1 (w.heap.size + 1) X1.out).mono ?_
  rintro e w2 ⟨rfl, hx, hg⟩
  have X2 := Lib.hid hx
  have Y2 := Lib.hid (Y0.out.grown hg (by simp))
  have B2 := Lib.hid (below_gr B0.out hg B0.out.size (by omega))
  have g2 := hg.size
  clear hx hg X1 Y0 B0 HN1
  -- the step's box
  have b3 := below_alloc1 w2 (.cells #[.int .i64 A1.1, .int .i64 0, .int .i64 0, .string { data := #[] }] 41)
  have z3 := size_alloc1 w2 (.cells #[.int .i64 A1.1, .int .i64 0, .int .i64 0, .string { data := #[] }] 41)
  have S3 := Lib.hid (bx_new w2 41 #[.int .i64 A1.1, .int .i64 0, .int .i64 0, .string { data := #[] }])
  replace X2 := Lib.hid (X2.out.next b3)
  replace Y2 := Lib.hid (Y2.out.next b3)
  replace B2 := Lib.hid (B2.out.trans (b3.mono B2.out.size))
  clear b3
  go_wp2_with fail
  generalize w2.alloc (.cells #[.int .i64 A1.1, .int .i64 0, .int .i64 0, .string { data := #[] }] 41) = W3 at *
  have hn : w.heap.size + 1 < w2.heap.size := by omega
  generalize w2.heap.size = n at *
  clear w2
  refine (HN2.out W3 (w.heap.size + 1) X2.out).mono ?_
  rintro e w4 ⟨rfl, hx, hg⟩
  have s3 := S3.out.grown hg (by simp; omega)
  have hc := s3.q1
  have hf := s3.frozen 1
  have S4 := Lib.hid (s3.set (j := 1) (.int .i64 A2.1))
  have X4 := Lib.hid (hx.other ⟨n, 1, none⟩ (.int .i64 A2.1) (by simp; omega))
  have Y4 := Lib.hid ((Y2.out.grown hg (by simp)).other ⟨n, 1, none⟩ (.int .i64 A2.1) (by simp; omega))
  have B4 := Lib.hid ((below_gr B2.out hg B2.out.size (by omega)).setCell (p := ⟨n, 1, none⟩) (by simp; omega) (.int .i64 A2.1))
  have g4 := hg.size
  clear hx hg s3 S3 X2 Y2 B2 HN2
  go_wp2_with fail
  clear hc hf
  have hsz : (w4.setCell ⟨n, 1, none⟩ (.int .i64 A2.1)).heap.size = w4.heap.size := by simp
  generalize w4.setCell ⟨n, 1, none⟩ (.int .i64 A2.1) = W3' at *
  have S3 : Hid (Bx W3' n 41 #[.int .i64 A1.1, .int .i64 A2.1, .int .i64 0, .string { data := #[] }]) := S4
  have X2 := X4
  have Y2 := Y4
  have B2 := B4
  clear S4 X4 Y4 B4
  refine (HN3.out W3' (w.heap.size + 1) X2.out).mono ?_
  rintro e w5 ⟨rfl, hx, hg⟩
  have s3 := S3.out.grown hg (by simp; omega)
  have hc := s3.q2
  have hf := s3.frozen 2
  have S4 := Lib.hid (s3.set (j := 2) (.int .i64 A3.1))
  have X4 := Lib.hid (hx.other ⟨n, 2, none⟩ (.int .i64 A3.1) (by simp; omega))
  have Y4 := Lib.hid ((Y2.out.grown hg (by simp)).other ⟨n, 2, none⟩ (.int .i64 A3.1) (by simp; omega))
  have B4 := Lib.hid ((below_gr B2.out hg B2.out.size (by omega)).setCell (p := ⟨n, 2, none⟩) (by simp; omega) (.int .i64 A3.1))
  have g4 := hg.size
  clear hx hg s3 S3 X2 Y2 B2 HN3
  go_wp2_with fail
  clear hc hf
  have hsz : (w5.setCell ⟨n, 2, none⟩ (.int .i64 A3.1)).heap.size = w5.heap.size := by simp
  generalize w5.setCell ⟨n, 2, none⟩ (.int .i64 A3.1) = W3'' at *
  have S3 : Hid (Bx W3'' n 41 #[.int .i64 A1.1, .int .i64 A2.1, .int .i64 A3.1, .string { data := #[] }]) := S4
  have X2 := X4
  have Y2 := Y4
  have B2 := B4
  clear S4 X4 Y4 B4
  refine (HN4.out W3'' (w.heap.size + 1) X2.out).mono ?_
  rintro e w6 ⟨rfl, hx, hg⟩
  have s3 := S3.out.grown hg (by simp; omega)
  have hc := s3.q3
  have hf := s3.frozen 3
  have S4 := Lib.hid (s3.set (j := 3) (.string A4.1))
  have X4 := Lib.hid (hx.other ⟨n, 3, none⟩ (.string A4.1) (by simp; omega))
  have Y4 := Lib.hid ((Y2.out.grown hg (by simp)).other ⟨n, 3, none⟩ (.string A4.1) (by simp; omega))
  have B4 := Lib.hid ((below_gr B2.out hg B2.out.size (by omega)).setCell (p := ⟨n, 3, none⟩) (by simp; omega) (.string A4.1))
  have g4 := hg.size
  clear hx hg s3 S3 X2 Y2 B2 HN4
  have S3 : Hid (Bx (w6.setCell ⟨n, 3, none⟩ (.string A4.1)) n 41 #[.int .i64 A1.1, .int .i64 A2.1, .int .i64 A3.1, .string A4.1]) := S4
  have X2 := X4
  have Y2 := Y4
  have B2 := B4
  clear S4 X4 Y4 B4
  have k2 := X2.out.t2
  obtain ⟨y0, y1, y2, y3, y4⟩ := Y2.out.s0
  obtain ⟨f0, f1, f2, f3, f4⟩ := Y2.out.f5
  cases hbad : A4.2.2 with
  | true =>
    rw [hbad] at k2
    have hr : R = ((0, 0, 0, ⟨#[]⟩), 3) := by rw [HR.out, if_neg (by rw [hbad]; simp)]
    subst hr
    clear HR hbad
    go_wp2_with fail
    refine bodyPost_ret (v := soV ((0, 0, 0, ⟨#[]⟩), 3)) (by simp [soV, results, Tryd.results36, go_sem, y0, y1, y2, y3, y4]) rfl ⟨rfl, ?_⟩
    exact set5 B2.out _ (Nat.le_refl _) _ _ _ _ _
  | false =>
    rw [hbad] at k2
    have q0 := S3.out.q0
    have q1 := S3.out.q1
    have q2 := S3.out.q2
    have q3 := S3.out.q3
    have HBAD := Lib.hid hbad
    clear hbad
    go_wp2_with fail
    clear q0 q1 q2 q3 y0 y1 y2 y3 y4 f0 f1 f2 f3 f4 k2
    have HM := Lib.hid (fun w => specStepBs A1.1 A2.1 A3.1 A4.1 w)
    obtain ⟨M, hM⟩ : ∃ M, M = stepBs A1.1 A2.1 A3.1 A4.1 := ⟨_, rfl⟩
    rw [← hM] at HM HR
    clear hM
    refine (HM.out _).mono ?_
    rintro e w7 ⟨rfl, hb7⟩
    have q0 := (S3.out.next hb7).q0
    have q1 := (S3.out.next hb7).q1
    have q2 := (S3.out.next hb7).q2
    have q3 := (S3.out.next hb7).q3
    obtain ⟨y0, y1, y2, y3, y4⟩ := (Y2.out.next hb7).s0
    obtain ⟨f0, f1, f2, f3, f4⟩ := (Y2.out.next hb7).f5
    have B7 := Lib.hid (B2.out.trans (hb7.mono B2.out.size))
    clear hb7 HM
    cases hm : (M.toList == s.toList) with
    | true =>
      have hr : R = ((A1.1, A2.1, A3.1, A4.1), 0) := by rw [HR.out, if_pos ⟨HBAD.out, hm⟩]
      subst hr
      clear HR
      go_wp2_with fail
      refine bodyPost_ret (v := soV ((A1.1, A2.1, A3.1, A4.1), 0)) (by simp [soV, results, Tryd.results36, go_sem, y0, y1, y2, y3, y4]) rfl ⟨rfl, ?_⟩
      exact set5 B7.out _ (Nat.le_refl _) _ _ _ _ _
    | false =>
      have hr : R = ((0, 0, 0, ⟨#[]⟩), 3) := by rw [HR.out, if_neg (fun h => by rw [hm] at h; cases h.2)]
      subst hr
      clear HR
      go_wp2_with fail
      refine bodyPost_ret (v := soV ((0, 0, 0, ⟨#[]⟩), 3)) (by simp [soV, results, Tryd.results36, go_sem, y0, y1, y2, y3, y4]) rfl ⟨rfl, ?_⟩
      exact set5 B7.out _ (Nat.le_refl _) _ _ _ _ _
end Go.Proofs.YthkbllkhomjmbaaDoor
