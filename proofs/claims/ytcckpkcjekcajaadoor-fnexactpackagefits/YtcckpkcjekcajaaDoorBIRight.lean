/- impl.StepRight, whole. -/
import Derived.Test.YtcckpkcjekcajaaDoorBIR1
import Derived.Test.YtcckpkcjekcajaaDoorBIR2
import Derived.Test.YtcckpkcjekcajaaDoorBIR3
import Derived.Test.YtcckpkcjekcajaaDoorBIR4
import Derived.Test.YtcckpkcjekcajaaDoorBIR5
namespace Go.Proofs.YtcckpkcjekcajaaDoor
open Go.RowKit

set_option maxRecDepth 100000 in
set_option maxHeartbeats 2000000 in
theorem implRight (k t f n : Int) (d : ByteArray) (w : World) :
    Calls Tryd.prog 48 #[.agg #[.int .i64 k, .int .i64 t, .int .i64 f, .string d], .int .i64 n] w fun e w' => e = .returned (.bool (stepB n k t f d)) ∧ Below w.heap.size w w' := by
  by_cases hn : 1 ≤ n ∧ n ≤ 8
  · obtain ⟨h0, h1⟩ := hn
    by_cases k1 : k = 1
    · subst k1; exact implR1 t f n d w h0 h1
    by_cases k2 : k = 2
    · subst k2; exact implR2 t f n d w h0 h1
    by_cases k3 : k = 3
    · subst k3; exact implR3 t f n d w h0 h1
    by_cases k4 : k = 4
    · subst k4; exact implR4 t f n d w h0 h1
    by_cases k5 : k = 5
    · subst k5; exact implR5 t f n d w h0 h1
    rw [show stepB n k t f d = false from stepB_no (by simp [StepOk, k1, k2, k3, k4, k5])]
    have HB := Lib.hid (below_alloc1 w (.cells #[.int .i64 k, .int .i64 t, .int .i64 f, .string d] 33))
    go_enter Tryd.func48, Tryd.ntmps48
    go_wp2_with fail
    refine (op0 k t f d _ k1 k2 k3 k4 k5).mono ?_
    rintro e w1 ⟨rfl, hb⟩
    have HB2 := Lib.hid (HB.out.trans (hb.mono HB.out.size))
    clear hb
    go_wp2_with fail
    go_ret
    exact ⟨rfl, HB2.out⟩
  · rw [show stepB n k t f d = false from stepB_no (fun h => hn h.1)]
    have HB := Lib.hid (below_alloc1 w (.cells #[.int .i64 k, .int .i64 t, .int .i64 f, .string d] 33))
    have HN := Lib.hid hn
    clear hn
    have all : ∃ v, Calls Tryd.prog 70 #[.agg #[.int .i64 k, .int .i64 t, .int .i64 f, .string d]] (w.alloc (.cells #[.int .i64 k, .int .i64 t, .int .i64 f, .string d] 33)) (fun e w' => e = .returned v ∧ Below (w.alloc (.cells #[.int .i64 k, .int .i64 t, .int .i64 f, .string d] 33)).heap.size (w.alloc (.cells #[.int .i64 k, .int .i64 t, .int .i64 f, .string d] 33)) w') ∧ (v = .nilIface ∨ ∃ T x, v = .iface T x) := by
      by_cases k1 : k = 1
      · subst k1; exact ⟨_, op1 t f d _, .inr ⟨_, _, rfl⟩⟩
      by_cases k2 : k = 2
      · subst k2; exact ⟨_, op2 t f d _, .inr ⟨_, _, rfl⟩⟩
      by_cases k3 : k = 3
      · subst k3; exact ⟨_, op3 t f d _, .inr ⟨_, _, rfl⟩⟩
      by_cases k4 : k = 4
      · subst k4; exact ⟨_, op4 t f d _, .inr ⟨_, _, rfl⟩⟩
      by_cases k5 : k = 5
      · subst k5; exact ⟨_, op5 t f d _, .inr ⟨_, _, rfl⟩⟩
      exact ⟨_, op0 k t f d _ k1 k2 k3 k4 k5, .inl rfl⟩
    obtain ⟨v, hc, hv⟩ := all
    rcases hv with rfl | ⟨T, x, rfl⟩
    · go_enter Tryd.func48, Tryd.ntmps48
      go_wp2_with fail
      refine hc.mono ?_
      rintro e w1 ⟨rfl, hb⟩
      have HB2 := Lib.hid (HB.out.trans (hb.mono HB.out.size))
      clear hb
      go_wp2_with fail
      go_ret
      exact ⟨rfl, HB2.out⟩
    · go_enter Tryd.func48, Tryd.ntmps48
      go_wp2_with fail
      refine hc.mono ?_
      rintro e w1 ⟨rfl, hb⟩
      have HB2 := Lib.hid (HB.out.trans (hb.mono HB.out.size))
      clear hb
      go_wp2_with fail
      refine (isCount_no n _ HN.out).mono ?_
      rintro e w2 ⟨rfl, rfl⟩
      go_wp2_with fail
      go_ret
      exact ⟨rfl, HB2.out⟩
end Go.Proofs.YtcckpkcjekcajaaDoor
