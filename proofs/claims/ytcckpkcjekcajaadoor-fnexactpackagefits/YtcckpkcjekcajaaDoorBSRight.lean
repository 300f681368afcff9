/- spec.StepRight. -/
import Derived.Test.YtcckpkcjekcajaaDoorBStepM
import Derived.Test.YtcckpkcjekcajaaDoorSRight
namespace Go.Proofs.YtcckpkcjekcajaaDoor
open Go.RowKit

theorem is_dec (x lo hi : Int) (b : Bool) (w : World) (h : (decide (lo ≤ x) && decide (x ≤ hi)) = b) :
    Calls Tryd.prog 69 #[.int .i64 x, .int .i64 lo, .int .i64 hi] w fun e w' => e = .returned (.bool b) ∧ w' = w := by
  cases b with
  | true => simp at h; exact is_yes x lo hi w h.1 h.2
  | false =>
    refine is_no x lo hi w ?_
    rcases Int.lt_or_le x lo with h0 | h0
    · exact .inl h0
    · refine .inr ⟨h0, ?_⟩
      simp [h0] at h; omega


set_option maxRecDepth 100000 in
set_option maxHeartbeats 4000000 in
theorem specR1 (t f n : Int) (d : ByteArray) (w : World) (h0 : 1 ≤ n) (h1 : n ≤ 8) :
    Calls Tryd.prog 49 #[.agg #[.int .i64 1, .int .i64 t, .int .i64 f, .string d], .int .i64 n] w fun e w' => e = .returned (.bool (stepB n 1 t f d)) ∧ Below w.heap.size w w' := by
  have HB := Lib.hid ((Below.refl w.heap.size w).alloc (Nat.le_refl _) (.cells #[.int .i64 1, .int .i64 t, .int .i64 f, .string d] 33))
  have m0 : IntKind.i64.wrap (n - 1) = n - 1 := IntWalk.i64_in _ (by omega)
  obtain ⟨bt, ht⟩ : ∃ b, inB t n = b := ⟨_, rfl⟩
  obtain ⟨bf, hf⟩ : ∃ b, inB f n = b := ⟨_, rfl⟩
  have HT := Lib.hid ht
  have HF := Lib.hid hf
  clear ht hf
  cases bt with
  | false =>
    rw [show stepB n _ _ _ _ = false from stepB_no (by simp [StepOk, HT.out])]
    go_enter Tryd.func49, Tryd.ntmps49
    go_wp2_with fail
    refine (is_yes _ _ _ _ h0 h1).mono ?_
    rintro e w1 ⟨rfl, rfl⟩
    go_wp2_with fail
    go_quiet ((go_at_call 69; first | exact Calls.quiet_of_same (is_dec _ _ _ _ _ HT.out) | exact Calls.quiet_of_same (is_dec _ _ _ _ _ HF.out)))
    go_wp2_with fail
    go_ret
    exact ⟨rfl, below_drewN HB.out _⟩
  | true =>
    by_cases hzf : f = 0
    · subst hzf
      by_cases hd : d.size = 0
      · obtain rfl := empty_of hd
        have hd0 : (ByteArray.mk #[]).size = 0 := rfl
        clear hd
        rw [show stepB n _ _ _ _ = true from stepB_yes (by simp [StepOk, h0, h1, HT.out, hd0])]
        go_enter Tryd.func49, Tryd.ntmps49
        go_wp2_with fail
        refine (is_yes _ _ _ _ h0 h1).mono ?_
        rintro e w1 ⟨rfl, rfl⟩
        go_wp2_with fail
        go_quiet ((go_at_call 69; first | exact Calls.quiet_of_same (is_dec _ _ _ _ _ HT.out) | exact Calls.quiet_of_same (is_dec _ _ _ _ _ HF.out)))
        go_wp2_with fail
        go_ret
        exact ⟨rfl, below_drewN HB.out _⟩
      · have hd1 : d.toList.isEmpty = false := by have := toList_ne hd; simpa using this
        rw [show stepB n _ _ _ _ = false from stepB_no (by simp [StepOk, HT.out, hd])]
        go_enter Tryd.func49, Tryd.ntmps49
        go_wp2_with fail
        refine (is_yes _ _ _ _ h0 h1).mono ?_
        rintro e w1 ⟨rfl, rfl⟩
        go_wp2_with fail
        go_quiet ((go_at_call 69; first | exact Calls.quiet_of_same (is_dec _ _ _ _ _ HT.out) | exact Calls.quiet_of_same (is_dec _ _ _ _ _ HF.out)))
        go_wp2_with fail
        go_ret
        exact ⟨rfl, below_drewN HB.out _⟩
    · have dzf : (f == 0) = false := by simpa using hzf
      rw [show stepB n _ _ _ _ = false from stepB_no (by simp [StepOk, HT.out, hzf])]
      go_enter Tryd.func49, Tryd.ntmps49
      go_wp2_with fail
      refine (is_yes _ _ _ _ h0 h1).mono ?_
      rintro e w1 ⟨rfl, rfl⟩
      go_wp2_with fail
      go_quiet ((go_at_call 69; first | exact Calls.quiet_of_same (is_dec _ _ _ _ _ HT.out) | exact Calls.quiet_of_same (is_dec _ _ _ _ _ HF.out)))
      go_wp2_with fail
      go_ret
      exact ⟨rfl, below_drewN HB.out _⟩

set_option maxRecDepth 100000 in
set_option maxHeartbeats 4000000 in
theorem specR2 (t f n : Int) (d : ByteArray) (w : World) (h0 : 1 ≤ n) (h1 : n ≤ 8) :
    Calls Tryd.prog 49 #[.agg #[.int .i64 2, .int .i64 t, .int .i64 f, .string d], .int .i64 n] w fun e w' => e = .returned (.bool (stepB n 2 t f d)) ∧ Below w.heap.size w w' := by
  have HB := Lib.hid ((Below.refl w.heap.size w).alloc (Nat.le_refl _) (.cells #[.int .i64 2, .int .i64 t, .int .i64 f, .string d] 33))
  have m0 : IntKind.i64.wrap (n - 1) = n - 1 := IntWalk.i64_in _ (by omega)
  obtain ⟨bt, ht⟩ : ∃ b, inB t n = b := ⟨_, rfl⟩
  obtain ⟨bf, hf⟩ : ∃ b, inB f n = b := ⟨_, rfl⟩
  have HT := Lib.hid ht
  have HF := Lib.hid hf
  clear ht hf
  cases bt with
  | false =>
    rw [show stepB n _ _ _ _ = false from stepB_no (by simp [StepOk, HT.out])]
    go_enter Tryd.func49, Tryd.ntmps49
    go_wp2_with fail
    refine (is_yes _ _ _ _ h0 h1).mono ?_
    rintro e w1 ⟨rfl, rfl⟩
    go_wp2_with fail
    go_quiet ((go_at_call 69; first | exact Calls.quiet_of_same (is_dec _ _ _ _ _ HT.out) | exact Calls.quiet_of_same (is_dec _ _ _ _ _ HF.out)))
    go_wp2_with fail
    go_ret
    exact ⟨rfl, below_drewN HB.out _⟩
  | true =>
    by_cases hzf : f = 0
    · subst hzf
      by_cases hd : d.size = 8
      · have hd1 : ((d.size : Int) == 8) = true := by simp; omega
        rw [show stepB n _ _ _ _ = true from stepB_yes (by simp [StepOk, h0, h1, HT.out, hd])]
        go_enter Tryd.func49, Tryd.ntmps49
        go_wp2_with fail
        refine (is_yes _ _ _ _ h0 h1).mono ?_
        rintro e w1 ⟨rfl, rfl⟩
        go_wp2_with fail
        go_quiet ((go_at_call 69; first | exact Calls.quiet_of_same (is_dec _ _ _ _ _ HT.out) | exact Calls.quiet_of_same (is_dec _ _ _ _ _ HF.out)))
        go_wp2_with fail
        go_ret
        exact ⟨rfl, below_drewN HB.out _⟩
      · have hd1 : ((d.size : Int) == 8) = false := by simp; omega
        rw [show stepB n _ _ _ _ = false from stepB_no (by simp [StepOk, HT.out, hd])]
        go_enter Tryd.func49, Tryd.ntmps49
        go_wp2_with fail
        refine (is_yes _ _ _ _ h0 h1).mono ?_
        rintro e w1 ⟨rfl, rfl⟩
        go_wp2_with fail
        go_quiet ((go_at_call 69; first | exact Calls.quiet_of_same (is_dec _ _ _ _ _ HT.out) | exact Calls.quiet_of_same (is_dec _ _ _ _ _ HF.out)))
        go_wp2_with fail
        go_ret
        exact ⟨rfl, below_drewN HB.out _⟩
    · have dzf : (f == 0) = false := by simpa using hzf
      rw [show stepB n _ _ _ _ = false from stepB_no (by simp [StepOk, HT.out, hzf])]
      go_enter Tryd.func49, Tryd.ntmps49
      go_wp2_with fail
      refine (is_yes _ _ _ _ h0 h1).mono ?_
      rintro e w1 ⟨rfl, rfl⟩
      go_wp2_with fail
      go_quiet ((go_at_call 69; first | exact Calls.quiet_of_same (is_dec _ _ _ _ _ HT.out) | exact Calls.quiet_of_same (is_dec _ _ _ _ _ HF.out)))
      go_wp2_with fail
      go_ret
      exact ⟨rfl, below_drewN HB.out _⟩

set_option maxRecDepth 100000 in
set_option maxHeartbeats 4000000 in
theorem specR3 (t f n : Int) (d : ByteArray) (w : World) (h0 : 1 ≤ n) (h1 : n ≤ 8) :
    Calls Tryd.prog 49 #[.agg #[.int .i64 3, .int .i64 t, .int .i64 f, .string d], .int .i64 n] w fun e w' => e = .returned (.bool (stepB n 3 t f d)) ∧ Below w.heap.size w w' := by
  have HB := Lib.hid ((Below.refl w.heap.size w).alloc (Nat.le_refl _) (.cells #[.int .i64 3, .int .i64 t, .int .i64 f, .string d] 33))
  have m0 : IntKind.i64.wrap (n - 1) = n - 1 := IntWalk.i64_in _ (by omega)
  obtain ⟨bt, ht⟩ : ∃ b, inB t n = b := ⟨_, rfl⟩
  obtain ⟨bf, hf⟩ : ∃ b, inB f n = b := ⟨_, rfl⟩
  have HT := Lib.hid ht
  have HF := Lib.hid hf
  clear ht hf
  cases bt with
  | false =>
    rw [show stepB n _ _ _ _ = false from stepB_no (by simp [StepOk, HT.out])]
    go_enter Tryd.func49, Tryd.ntmps49
    go_wp2_with fail
    refine (is_yes _ _ _ _ h0 h1).mono ?_
    rintro e w1 ⟨rfl, rfl⟩
    go_wp2_with fail
    go_quiet ((go_at_call 69; first | exact Calls.quiet_of_same (is_dec _ _ _ _ _ HT.out) | exact Calls.quiet_of_same (is_dec _ _ _ _ _ HF.out)))
    go_wp2_with fail
    go_ret
    exact ⟨rfl, below_drewN HB.out _⟩
  | true =>
    cases bf with
    | false =>
      rw [show stepB n _ _ _ _ = false from stepB_no (by simp [StepOk, HT.out, HF.out])]
      go_enter Tryd.func49, Tryd.ntmps49
      go_wp2_with fail
      refine (is_yes _ _ _ _ h0 h1).mono ?_
      rintro e w1 ⟨rfl, rfl⟩
      go_wp2_with fail
      go_quiet ((go_at_call 69; first | exact Calls.quiet_of_same (is_dec _ _ _ _ _ HT.out) | exact Calls.quiet_of_same (is_dec _ _ _ _ _ HF.out)))
      go_wp2_with fail
      go_ret
      exact ⟨rfl, below_drewN HB.out _⟩
    | true =>
      by_cases hd : d.size = 0
      · obtain rfl := empty_of hd
        have hd0 : (ByteArray.mk #[]).size = 0 := rfl
        clear hd
        rw [show stepB n _ _ _ _ = true from stepB_yes (by simp [StepOk, h0, h1, HT.out, HF.out, hd0])]
        go_enter Tryd.func49, Tryd.ntmps49
        go_wp2_with fail
        refine (is_yes _ _ _ _ h0 h1).mono ?_
        rintro e w1 ⟨rfl, rfl⟩
        go_wp2_with fail
        go_quiet ((go_at_call 69; first | exact Calls.quiet_of_same (is_dec _ _ _ _ _ HT.out) | exact Calls.quiet_of_same (is_dec _ _ _ _ _ HF.out)))
        go_wp2_with fail
        go_ret
        exact ⟨rfl, below_drewN HB.out _⟩
      · have hd1 : d.toList.isEmpty = false := by have := toList_ne hd; simpa using this
        rw [show stepB n _ _ _ _ = false from stepB_no (by simp [StepOk, HT.out, HF.out, hd])]
        go_enter Tryd.func49, Tryd.ntmps49
        go_wp2_with fail
        refine (is_yes _ _ _ _ h0 h1).mono ?_
        rintro e w1 ⟨rfl, rfl⟩
        go_wp2_with fail
        go_quiet ((go_at_call 69; first | exact Calls.quiet_of_same (is_dec _ _ _ _ _ HT.out) | exact Calls.quiet_of_same (is_dec _ _ _ _ _ HF.out)))
        go_wp2_with fail
        go_ret
        exact ⟨rfl, below_drewN HB.out _⟩

set_option maxRecDepth 100000 in
set_option maxHeartbeats 4000000 in
theorem specR4 (t f n : Int) (d : ByteArray) (w : World) (h0 : 1 ≤ n) (h1 : n ≤ 8) :
    Calls Tryd.prog 49 #[.agg #[.int .i64 4, .int .i64 t, .int .i64 f, .string d], .int .i64 n] w fun e w' => e = .returned (.bool (stepB n 4 t f d)) ∧ Below w.heap.size w w' := by
  have HB := Lib.hid ((Below.refl w.heap.size w).alloc (Nat.le_refl _) (.cells #[.int .i64 4, .int .i64 t, .int .i64 f, .string d] 33))
  have m0 : IntKind.i64.wrap (n - 1) = n - 1 := IntWalk.i64_in _ (by omega)
  obtain ⟨bt, ht⟩ : ∃ b, inB t n = b := ⟨_, rfl⟩
  obtain ⟨bf, hf⟩ : ∃ b, inB f n = b := ⟨_, rfl⟩
  have HT := Lib.hid ht
  have HF := Lib.hid hf
  clear ht hf
  cases bt with
  | false =>
    rw [show stepB n _ _ _ _ = false from stepB_no (by simp [StepOk, HT.out])]
    go_enter Tryd.func49, Tryd.ntmps49
    go_wp2_with fail
    refine (is_yes _ _ _ _ h0 h1).mono ?_
    rintro e w1 ⟨rfl, rfl⟩
    go_wp2_with fail
    go_quiet ((go_at_call 69; first | exact Calls.quiet_of_same (is_dec _ _ _ _ _ HT.out) | exact Calls.quiet_of_same (is_dec _ _ _ _ _ HF.out)))
    go_wp2_with fail
    go_ret
    exact ⟨rfl, below_drewN HB.out _⟩
  | true =>
    cases bf with
    | false =>
      rw [show stepB n _ _ _ _ = false from stepB_no (by simp [StepOk, HT.out, HF.out])]
      go_enter Tryd.func49, Tryd.ntmps49
      go_wp2_with fail
      refine (is_yes _ _ _ _ h0 h1).mono ?_
      rintro e w1 ⟨rfl, rfl⟩
      go_wp2_with fail
      go_quiet ((go_at_call 69; first | exact Calls.quiet_of_same (is_dec _ _ _ _ _ HT.out) | exact Calls.quiet_of_same (is_dec _ _ _ _ _ HF.out)))
      go_wp2_with fail
      go_ret
      exact ⟨rfl, below_drewN HB.out _⟩
    | true =>
      by_cases hd : d.size = 8
      · have hd1 : ((d.size : Int) == 8) = true := by simp; omega
        rw [show stepB n _ _ _ _ = true from stepB_yes (by simp [StepOk, h0, h1, HT.out, HF.out, hd])]
        go_enter Tryd.func49, Tryd.ntmps49
        go_wp2_with fail
        refine (is_yes _ _ _ _ h0 h1).mono ?_
        rintro e w1 ⟨rfl, rfl⟩
        go_wp2_with fail
        go_quiet ((go_at_call 69; first | exact Calls.quiet_of_same (is_dec _ _ _ _ _ HT.out) | exact Calls.quiet_of_same (is_dec _ _ _ _ _ HF.out)))
        go_wp2_with fail
        go_ret
        exact ⟨rfl, below_drewN HB.out _⟩
      · have hd1 : ((d.size : Int) == 8) = false := by simp; omega
        rw [show stepB n _ _ _ _ = false from stepB_no (by simp [StepOk, HT.out, HF.out, hd])]
        go_enter Tryd.func49, Tryd.ntmps49
        go_wp2_with fail
        refine (is_yes _ _ _ _ h0 h1).mono ?_
        rintro e w1 ⟨rfl, rfl⟩
        go_wp2_with fail
        go_quiet ((go_at_call 69; first | exact Calls.quiet_of_same (is_dec _ _ _ _ _ HT.out) | exact Calls.quiet_of_same (is_dec _ _ _ _ _ HF.out)))
        go_wp2_with fail
        go_ret
        exact ⟨rfl, below_drewN HB.out _⟩

set_option maxRecDepth 100000 in
set_option maxHeartbeats 4000000 in
theorem specR5 (t f n : Int) (d : ByteArray) (w : World) (h0 : 1 ≤ n) (h1 : n ≤ 8) :
    Calls Tryd.prog 49 #[.agg #[.int .i64 5, .int .i64 t, .int .i64 f, .string d], .int .i64 n] w fun e w' => e = .returned (.bool (stepB n 5 t f d)) ∧ Below w.heap.size w w' := by
  have HB := Lib.hid ((Below.refl w.heap.size w).alloc (Nat.le_refl _) (.cells #[.int .i64 5, .int .i64 t, .int .i64 f, .string d] 33))
  have m0 : IntKind.i64.wrap (n - 1) = n - 1 := IntWalk.i64_in _ (by omega)
  obtain ⟨bt, ht⟩ : ∃ b, inB t n = b := ⟨_, rfl⟩
  obtain ⟨bf, hf⟩ : ∃ b, inB f n = b := ⟨_, rfl⟩
  have HT := Lib.hid ht
  have HF := Lib.hid hf
  clear ht hf
  by_cases hzt : t = 0
  · subst hzt
    obtain ⟨bT, hT⟩ : ∃ b, isT f = b := ⟨_, rfl⟩
    have HTT := Lib.hid hT
    clear hT
    cases bT with
    | false =>
      rw [show stepB n _ _ _ _ = false from stepB_no (by simp [StepOk, HTT.out])]
      go_enter Tryd.func49, Tryd.ntmps49
      go_wp2_with fail
      refine (is_yes _ _ _ _ h0 h1).mono ?_
      rintro e w1 ⟨rfl, rfl⟩
      go_wp2_with fail
      go_quiet ((go_at_call 69; first | exact Calls.quiet_of_same (is_dec _ _ _ _ _ HT.out) | exact Calls.quiet_of_same (is_dec _ _ _ _ _ HF.out)))
      go_wp2_with fail
      refine (is_dec _ _ _ _ _ HTT.out).mono ?_
      rintro e w2 ⟨rfl, rfl⟩
      go_wp2_with fail
      go_ret
      exact ⟨rfl, below_drewN HB.out _⟩
    | true =>
      by_cases hd : d.size = 0
      · obtain rfl := empty_of hd
        have hd0 : (ByteArray.mk #[]).size = 0 := rfl
        clear hd
        rw [show stepB n _ _ _ _ = true from stepB_yes (by simp [StepOk, h0, h1, HTT.out, hd0])]
        go_enter Tryd.func49, Tryd.ntmps49
        go_wp2_with fail
        refine (is_yes _ _ _ _ h0 h1).mono ?_
        rintro e w1 ⟨rfl, rfl⟩
        go_wp2_with fail
        go_quiet ((go_at_call 69; first | exact Calls.quiet_of_same (is_dec _ _ _ _ _ HT.out) | exact Calls.quiet_of_same (is_dec _ _ _ _ _ HF.out)))
        go_wp2_with fail
        refine (is_dec _ _ _ _ _ HTT.out).mono ?_
        rintro e w2 ⟨rfl, rfl⟩
        go_wp2_with fail
        go_ret
        exact ⟨rfl, below_drewN HB.out _⟩
      · have hd1 : d.toList.isEmpty = false := by have := toList_ne hd; simpa using this
        rw [show stepB n _ _ _ _ = false from stepB_no (by simp [StepOk, HTT.out, hd])]
        go_enter Tryd.func49, Tryd.ntmps49
        go_wp2_with fail
        refine (is_yes _ _ _ _ h0 h1).mono ?_
        rintro e w1 ⟨rfl, rfl⟩
        go_wp2_with fail
        go_quiet ((go_at_call 69; first | exact Calls.quiet_of_same (is_dec _ _ _ _ _ HT.out) | exact Calls.quiet_of_same (is_dec _ _ _ _ _ HF.out)))
        go_wp2_with fail
        refine (is_dec _ _ _ _ _ HTT.out).mono ?_
        rintro e w2 ⟨rfl, rfl⟩
        go_wp2_with fail
        go_ret
        exact ⟨rfl, below_drewN HB.out _⟩
  · have dzt : (t == 0) = false := by simpa using hzt
    rw [show stepB n _ _ _ _ = false from stepB_no (by simp [StepOk, hzt])]
    go_enter Tryd.func49, Tryd.ntmps49
    go_wp2_with fail
    refine (is_yes _ _ _ _ h0 h1).mono ?_
    rintro e w1 ⟨rfl, rfl⟩
    go_wp2_with fail
    go_quiet ((go_at_call 69; first | exact Calls.quiet_of_same (is_dec _ _ _ _ _ HT.out) | exact Calls.quiet_of_same (is_dec _ _ _ _ _ HF.out)))
    go_wp2_with fail
    go_ret
    exact ⟨rfl, below_drewN HB.out _⟩

set_option maxRecDepth 100000 in
set_option maxHeartbeats 4000000 in
theorem specRightS (k t f n : Int) (d : ByteArray) (w : World) :
    Calls Tryd.prog 49 #[.agg #[.int .i64 k, .int .i64 t, .int .i64 f, .string d], .int .i64 n] w fun e w' => e = .returned (.bool (stepB n k t f d)) ∧ Below w.heap.size w w' := by
  by_cases hn : 1 ≤ n ∧ n ≤ 8
  · obtain ⟨h0, h1⟩ := hn
    by_cases k1 : k = 1
    · subst k1; exact specR1 t f n d w h0 h1
    by_cases k2 : k = 2
    · subst k2; exact specR2 t f n d w h0 h1
    by_cases k3 : k = 3
    · subst k3; exact specR3 t f n d w h0 h1
    by_cases k4 : k = 4
    · subst k4; exact specR4 t f n d w h0 h1
    by_cases k5 : k = 5
    · subst k5; exact specR5 t f n d w h0 h1
    rw [show stepB n k t f d = false from stepB_no (by simp [StepOk, k1, k2, k3, k4, k5])]
    have HB := Lib.hid ((Below.refl w.heap.size w).alloc (Nat.le_refl _) (.cells #[.int .i64 k, .int .i64 t, .int .i64 f, .string d] 33))
    have m0 : IntKind.i64.wrap (n - 1) = n - 1 := IntWalk.i64_in _ (by omega)
    have e1 : (k == 1) = false := by simpa using k1
    have e2 : (k == 2) = false := by simpa using k2
    have e3 : (k == 3) = false := by simpa using k3
    have e4 : (k == 4) = false := by simpa using k4
    have e5 : (k == 5) = false := by simpa using k5
    clear k1 k2 k3 k4 k5
    go_enter Tryd.func49, Tryd.ntmps49
    go_wp2_with fail
    refine (is_yes _ _ _ _ h0 h1).mono ?_
    rintro e w1 ⟨rfl, rfl⟩
    go_wp2_with fail
    go_quiet ((go_at_call 69; exact Calls.quiet_of_same (is_dec _ _ _ _ _ rfl)))
    go_wp2_with fail
    go_ret
    exact ⟨rfl, below_drewN HB.out _⟩
  · rw [show stepB n k t f d = false from stepB_no (fun h => hn h.1)]
    have HB := Lib.hid ((Below.refl w.heap.size w).alloc (Nat.le_refl _) (.cells #[.int .i64 k, .int .i64 t, .int .i64 f, .string d] 33))
    have HN := Lib.hid (show (decide (1 ≤ n) && decide (n ≤ 8)) = false by cases h : (decide (1 ≤ n) && decide (n ≤ 8)) with | false => rfl | true => simp at h; exact absurd h hn)
    clear hn
    go_enter Tryd.func49, Tryd.ntmps49
    go_wp2_with fail
    refine (is_dec _ _ _ _ _ HN.out).mono ?_
    rintro e w1 ⟨rfl, rfl⟩
    go_wp2_with fail
    go_ret
    exact ⟨rfl, HB.out⟩
end Go.Proofs.YtcckpkcjekcajaaDoor
