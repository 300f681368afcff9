/- impl.StepRight. -/
import Derived.Test.YtcckpkcjekcajaaDoorBIKind
import Derived.Test.YtcckpkcjekcajaaDoorLBox
import Derived.Deep.RegionWith
namespace Go.Proofs.YtcckpkcjekcajaaDoor
open Go.RowKit


set_option maxRecDepth 100000 in
set_option maxHeartbeats 1000000 in
theorem implR2 (t f n : Int) (d : ByteArray) (w : World) (h0 : 1 ≤ n) (h1 : n ≤ 8) :
    Calls Tryd.prog 48 #[.agg #[.int .i64 2, .int .i64 t, .int .i64 f, .string d], .int .i64 n] w fun e w' => e = .returned (.bool (stepB n 2 t f d)) ∧ Below w.heap.size w w' := by
  have mf := method2f
  have ms := method2s
  obtain ⟨bb, hbb⟩ : ∃ b, (inB t n && decide (d.size = 8)) = b := ⟨_, rfl⟩
  have HBB := Lib.hid hbb
  clear hbb
  have b0 := below_alloc1 w (.cells #[.int .i64 2, .int .i64 t, .int .i64 f, .string d] 33)
  have z0 := size_alloc1 w (.cells #[.int .i64 2, .int .i64 t, .int .i64 f, .string d] 33)
  have X0 := Lib.hid (bx_new w 33 #[.int .i64 2, .int .i64 t, .int .i64 f, .string d])
  have B0 := Lib.hid b0
  clear b0
  cases bb with
  | false =>
    have no : stepB n 2 t f d = false := stepB_no (by have := HBB.out; simp [StepOk]; try (intros; simp_all))
    rw [no]
    go_enter Tryd.func48, Tryd.ntmps48
    go_wp2_with fail
    refine (op2 _ _ _ _).mono ?_
    rintro e w1 ⟨rfl, hb1⟩
    have X1 := X0.out.next hb1
    have B1 := Lib.hid (B0.out.trans (hb1.mono (by omega)))
    have s1 := hb1.size
    have c0 := X1.q0
    have c1 := X1.q1
    have c2 := X1.q2
    have c3 := X1.q3
    have HX1 := Lib.hid X1
    clear X1 hb1
    go_wp2_with fail
    refine (isCount_yes n _ h0 h1).mono ?_
    rintro e w1 ⟨rfl, rfl⟩
    go_wp2_with fail
    (first | go_region_with ((first | (go_at_call 118; go_loud ( refine (fits2 t d n _ _ HBB.out).mono ?_; rintro e w2 ⟨rfl, hb2⟩; have X2 := HX1.out.next ((Below.refl w1.heap.size w1).drew.trans hb2); have B2 := Lib.hid (B1.out.trans (((Below.refl w1.heap.size w1).drew.trans hb2).mono B1.out.size)); have c0 := X2.q0; have c1 := X2.q1; have c2 := X2.q2; have c3 := X2.q3; have s2 := hb2.size; have HX2 := Lib.hid X2; clear X2 hb2)) | (go_at_call 119; go_loud ( refine (step2 t d _).mono ?_; rintro e w3 ⟨rfl, hb3⟩; have X3 := HX2.out.next hb3; have B3 := Lib.hid (B2.out.trans (hb3.mono B2.out.size)); have c0 := X3.q0; have c1 := X3.q1; have c2 := X3.q2; have c3 := X3.q3; clear X3 hb3)))) | fail "region")
    all_goals (go_wp2_with fail; go_ret; first | exact ⟨rfl, B3.out⟩ | exact ⟨rfl, B2.out⟩)
  | true =>
    by_cases hzf : f = 0
    · subst hzf
      have ys : stepB n 2 t 0 d = true := stepB_yes (by have := HBB.out; (try simp at this); simp [StepOk, h0, h1, this]; try rfl)
      rw [ys]
      go_enter Tryd.func48, Tryd.ntmps48
      go_wp2_with fail
      refine (op2 _ _ _ _).mono ?_
      rintro e w1 ⟨rfl, hb1⟩
      have X1 := X0.out.next hb1
      have B1 := Lib.hid (B0.out.trans (hb1.mono (by omega)))
      have s1 := hb1.size
      have c0 := X1.q0
      have c1 := X1.q1
      have c2 := X1.q2
      have c3 := X1.q3
      have HX1 := Lib.hid X1
      clear X1 hb1
      go_wp2_with fail
      refine (isCount_yes n _ h0 h1).mono ?_
      rintro e w1 ⟨rfl, rfl⟩
      go_wp2_with fail
      (first | go_region_with ((first | (go_at_call 118; go_loud ( refine (fits2 t d n _ _ HBB.out).mono ?_; rintro e w2 ⟨rfl, hb2⟩; have X2 := HX1.out.next ((Below.refl w1.heap.size w1).drew.trans hb2); have B2 := Lib.hid (B1.out.trans (((Below.refl w1.heap.size w1).drew.trans hb2).mono B1.out.size)); have c0 := X2.q0; have c1 := X2.q1; have c2 := X2.q2; have c3 := X2.q3; have s2 := hb2.size; have HX2 := Lib.hid X2; clear X2 hb2)) | (go_at_call 119; go_loud ( refine (step2 t d _).mono ?_; rintro e w3 ⟨rfl, hb3⟩; have X3 := HX2.out.next hb3; have B3 := Lib.hid (B2.out.trans (hb3.mono B2.out.size)); have c0 := X3.q0; have c1 := X3.q1; have c2 := X3.q2; have c3 := X3.q3; clear X3 hb3)))) | fail "region")
      all_goals (go_wp2_with fail; go_ret; first | exact ⟨rfl, B3.out⟩ | exact ⟨rfl, B2.out⟩)
    · have no : stepB n 2 t f d = false := stepB_no (by simp [StepOk, hzf])
      have dzf : ((0 : Int) == f) = false := by simp; omega
      rw [no]
      go_enter Tryd.func48, Tryd.ntmps48
      go_wp2_with fail
      refine (op2 _ _ _ _).mono ?_
      rintro e w1 ⟨rfl, hb1⟩
      have X1 := X0.out.next hb1
      have B1 := Lib.hid (B0.out.trans (hb1.mono (by omega)))
      have s1 := hb1.size
      have c0 := X1.q0
      have c1 := X1.q1
      have c2 := X1.q2
      have c3 := X1.q3
      have HX1 := Lib.hid X1
      clear X1 hb1
      go_wp2_with fail
      refine (isCount_yes n _ h0 h1).mono ?_
      rintro e w1 ⟨rfl, rfl⟩
      go_wp2_with fail
      (first | go_region_with ((first | (go_at_call 118; go_loud ( refine (fits2 t d n _ _ HBB.out).mono ?_; rintro e w2 ⟨rfl, hb2⟩; have X2 := HX1.out.next ((Below.refl w1.heap.size w1).drew.trans hb2); have B2 := Lib.hid (B1.out.trans (((Below.refl w1.heap.size w1).drew.trans hb2).mono B1.out.size)); have c0 := X2.q0; have c1 := X2.q1; have c2 := X2.q2; have c3 := X2.q3; have s2 := hb2.size; have HX2 := Lib.hid X2; clear X2 hb2)) | (go_at_call 119; go_loud ( refine (step2 t d _).mono ?_; rintro e w3 ⟨rfl, hb3⟩; have X3 := HX2.out.next hb3; have B3 := Lib.hid (B2.out.trans (hb3.mono B2.out.size)); have c0 := X3.q0; have c1 := X3.q1; have c2 := X3.q2; have c3 := X3.q3; clear X3 hb3)))) | fail "region")
      all_goals (go_wp2_with fail; go_ret; first | exact ⟨rfl, B3.out⟩ | exact ⟨rfl, B2.out⟩)
end Go.Proofs.YtcckpkcjekcajaaDoor
