/- The program's kinds of steps: what fits, what a step of them is, which kind a step has. -/
import Derived.Test.YtcckpkcjekcajaaDoorBStepM
import Derived.Deep.RegionHeld3
namespace Go.Proofs.YtcckpkcjekcajaaDoor
open Go.RowKit

set_option maxRecDepth 100000 in
theorem isBlock_any (x n : Int) (b : Bool) (w : World) (h : inB x n = b) :
    Calls Tryd.prog 117 #[.int .i64 x, .int .i64 n] w fun e w' => e = .returned (.bool b) ∧ w' = w := by
  subst h
  by_cases h0 : 0 ≤ x
  · by_cases h1 : x < n
    · rw [(inB_iff x n).2 ⟨h0, h1⟩]
      go_enter Tryd.func117, Tryd.ntmps117
      go_wp2
      go_ret
      exact ⟨rfl, rfl⟩
    · rw [(inB_no x n).2 (fun h => h1 h.2)]
      have d1 : decide (x < n) = false := decide_eq_false h1
      go_enter Tryd.func117, Tryd.ntmps117
      go_wp2
      go_ret
      exact ⟨rfl, rfl⟩
  · rw [(inB_no x n).2 (fun h => h0 h.1)]
    have d1 : decide (0 ≤ x) = false := decide_eq_false h0
    go_enter Tryd.func117, Tryd.ntmps117
    go_wp2
    go_ret
    exact ⟨rfl, rfl⟩
set_option maxRecDepth 100000 in
theorem isTime_any (x : Int) (b : Bool) (w : World) (h : isT x = b) :
    Calls Tryd.prog 126 #[.int .i64 x] w fun e w' => e = .returned (.bool b) ∧ w' = w := by
  subst h
  by_cases h0 : 0 ≤ x
  · by_cases h1 : x ≤ 1000000
    · rw [(isT_iff x).2 ⟨h0, h1⟩]
      go_enter Tryd.func126, Tryd.ntmps126
      go_wp2
      go_ret
      exact ⟨rfl, rfl⟩
    · rw [(isT_no x).2 (fun h => h1 h.2)]
      have d1 : decide (x ≤ 1000000) = false := decide_eq_false h1
      go_enter Tryd.func126, Tryd.ntmps126
      go_wp2
      go_ret
      exact ⟨rfl, rfl⟩
  · rw [(isT_no x).2 (fun h => h0 h.1)]
    have d1 : decide (0 ≤ x) = false := decide_eq_false h0
    go_enter Tryd.func126, Tryd.ntmps126
    go_wp2
    go_ret
    exact ⟨rfl, rfl⟩
set_option maxRecDepth 100000 in
theorem isCount_yes (n : Int) (w : World) (h0 : 1 ≤ n) (h1 : n ≤ 8) :
    Calls Tryd.prog 56 #[.int .i64 n] w fun e w' => e = .returned (.bool true) ∧ w' = w := by
  go_enter Tryd.func56, Tryd.ntmps56
  go_wp2
  go_ret
  exact ⟨rfl, rfl⟩
set_option maxRecDepth 100000 in
theorem isCount_no (n : Int) (w : World) (h : ¬ (1 ≤ n ∧ n ≤ 8)) :
    Calls Tryd.prog 56 #[.int .i64 n] w fun e w' => e = .returned (.bool false) ∧ w' = w := by
  by_cases h0 : 1 ≤ n
  · have d1 : decide (n ≤ 8) = false := decide_eq_false (fun h1 => h ⟨h0, h1⟩)
    clear h
    go_enter Tryd.func56, Tryd.ntmps56
    go_wp2
    go_ret
    exact ⟨rfl, rfl⟩
  · have d1 : decide (1 ≤ n) = false := decide_eq_false h0
    clear h
    go_enter Tryd.func56, Tryd.ntmps56
    go_wp2
    go_ret
    exact ⟨rfl, rfl⟩


set_option maxRecDepth 100000 in
set_option maxHeartbeats 1000000 in
theorem fits1 (t : Int) (n : Int) (b : Bool) (w : World) (h : (inB t n) = b) :
    Calls Tryd.prog 115 #[.agg #[.int .i64 t], .int .i64 n] w fun e w' => e = .returned (.bool b) ∧ Below w.heap.size w w' := by
  have HB := Lib.hid ((Below.refl w.heap.size w).alloc (Nat.le_refl _) (.cells #[.int .i64 t] 122))
  cases h0 : inB t n with
  | false =>
    have hb : b = false := by rw [← h]; simp [h0]
    clear h
    subst hb
    go_enter Tryd.func115, Tryd.ntmps115
    go_wp2_with fail
    refine (isBlock_any _ _ _ _ h0).mono ?_
    rintro e w1 ⟨rfl, rfl⟩
    go_wp2_with fail
    go_ret
    exact ⟨rfl, HB.out⟩
  | true =>
    have hb : b = true := by rw [← h]; simp [h0]
    clear h
    subst hb
    go_enter Tryd.func115, Tryd.ntmps115
    go_wp2_with fail
    refine (isBlock_any _ _ _ _ h0).mono ?_
    rintro e w1 ⟨rfl, rfl⟩
    go_wp2_with fail
    go_ret
    exact ⟨rfl, HB.out⟩

set_option maxRecDepth 100000 in
set_option maxHeartbeats 1000000 in
theorem step1 (t : Int) (w : World) :
    Calls Tryd.prog 116 #[.agg #[.int .i64 t]] w fun e w' => e = .returned (.agg #[.int .i64 1, .int .i64 t, .int .i64 0, .string ⟨#[]⟩]) ∧ Below w.heap.size w w' := by
  go_enter Tryd.func116, Tryd.ntmps116
  go_wp2_with fail
  refine bodyPost_ret (v := .agg #[.int .i64 1, .int .i64 t, .int .i64 0, .string ⟨#[]⟩]) (by simp [results, Tryd.results116, go_sem]) rfl ⟨rfl, ?_⟩
  exact ((Below.refl w.heap.size w).alloc (Nat.le_refl _) _).alloc (by simp) _
theorem method1f (v : Value) (w : World) : (Go.method 262 122 v "loop.example/g00668/impl.fits").run Tryd.prog w = .ok (115, v) w := by kernel_rfl
theorem method1s (v : Value) (w : World) : (Go.method 262 122 v "loop.example/g00668/impl.step").run Tryd.prog w = .ok (116, v) w := by kernel_rfl
set_option maxRecDepth 100000 in
set_option maxHeartbeats 1000000 in
theorem op1 (t f : Int) (d : ByteArray) (w : World) :
    Calls Tryd.prog 70 #[.agg #[.int .i64 1, .int .i64 t, .int .i64 f, .string d]] w fun e w' => e = .returned (.iface 122 (.agg #[.int .i64 t])) ∧ Below w.heap.size w w' := by
  go_enter Tryd.func70, Tryd.ntmps70
  go_wp2_with fail
  go_ret
  exact ⟨rfl, (Below.refl w.heap.size w).alloc (Nat.le_refl _) _⟩

set_option maxRecDepth 100000 in
set_option maxHeartbeats 1000000 in
theorem fits2 (t : Int) (d : ByteArray) (n : Int) (b : Bool) (w : World) (h : (inB t n && decide (d.size = 8)) = b) :
    Calls Tryd.prog 118 #[.agg #[.int .i64 t, .string d], .int .i64 n] w fun e w' => e = .returned (.bool b) ∧ Below w.heap.size w w' := by
  have HB := Lib.hid ((Below.refl w.heap.size w).alloc (Nat.le_refl _) (.cells #[.int .i64 t, .string d] 124))
  cases h0 : inB t n with
  | false =>
    have hb : b = false := by rw [← h]; simp [h0]
    clear h
    subst hb
    go_enter Tryd.func118, Tryd.ntmps118
    go_wp2_with fail
    refine (isBlock_any _ _ _ _ h0).mono ?_
    rintro e w1 ⟨rfl, rfl⟩
    go_wp2_with fail
    go_ret
    exact ⟨rfl, HB.out⟩
  | true =>
    cases h1 : decide (d.size = 8) with
    | false =>
      have hb : b = false := by rw [← h]; simp [h0, h1]
      clear h
      subst hb
      have hd1 : ((d.size : Int) == 8) = false := by simp at h1; simp; omega
      clear h1
      go_enter Tryd.func118, Tryd.ntmps118
      go_wp2_with fail
      refine (isBlock_any _ _ _ _ h0).mono ?_
      rintro e w1 ⟨rfl, rfl⟩
      go_wp2_with fail
      go_ret
      exact ⟨rfl, HB.out⟩
    | true =>
      have hd1 : ((d.size : Int) == 8) = true := by simp at h1; simp; omega
      have hb : b = true := by rw [← h]; simp [h0, h1]
      clear h
      subst hb
      go_enter Tryd.func118, Tryd.ntmps118
      go_wp2_with fail
      refine (isBlock_any _ _ _ _ h0).mono ?_
      rintro e w1 ⟨rfl, rfl⟩
      go_wp2_with fail
      go_ret
      exact ⟨rfl, HB.out⟩

set_option maxRecDepth 100000 in
set_option maxHeartbeats 1000000 in
theorem step2 (t : Int) (d : ByteArray) (w : World) :
    Calls Tryd.prog 119 #[.agg #[.int .i64 t, .string d]] w fun e w' => e = .returned (.agg #[.int .i64 2, .int .i64 t, .int .i64 0, .string d]) ∧ Below w.heap.size w w' := by
  go_enter Tryd.func119, Tryd.ntmps119
  go_wp2_with fail
  refine bodyPost_ret (v := .agg #[.int .i64 2, .int .i64 t, .int .i64 0, .string d]) (by simp [results, Tryd.results119, go_sem]) rfl ⟨rfl, ?_⟩
  exact ((Below.refl w.heap.size w).alloc (Nat.le_refl _) _).alloc (by simp) _
theorem method2f (v : Value) (w : World) : (Go.method 262 124 v "loop.example/g00668/impl.fits").run Tryd.prog w = .ok (118, v) w := by kernel_rfl
theorem method2s (v : Value) (w : World) : (Go.method 262 124 v "loop.example/g00668/impl.step").run Tryd.prog w = .ok (119, v) w := by kernel_rfl
set_option maxRecDepth 100000 in
set_option maxHeartbeats 1000000 in
theorem op2 (t f : Int) (d : ByteArray) (w : World) :
    Calls Tryd.prog 70 #[.agg #[.int .i64 2, .int .i64 t, .int .i64 f, .string d]] w fun e w' => e = .returned (.iface 124 (.agg #[.int .i64 t, .string d])) ∧ Below w.heap.size w w' := by
  go_enter Tryd.func70, Tryd.ntmps70
  go_wp2_with fail
  go_ret
  exact ⟨rfl, (Below.refl w.heap.size w).alloc (Nat.le_refl _) _⟩

set_option maxRecDepth 100000 in
set_option maxHeartbeats 1000000 in
theorem fits3 (t : Int) (f : Int) (n : Int) (b : Bool) (w : World) (h : (inB t n && inB f n) = b) :
    Calls Tryd.prog 120 #[.agg #[.int .i64 t, .int .i64 f], .int .i64 n] w fun e w' => e = .returned (.bool b) ∧ Below w.heap.size w w' := by
  have HB := Lib.hid ((Below.refl w.heap.size w).alloc (Nat.le_refl _) (.cells #[.int .i64 t, .int .i64 f] 126))
  cases h0 : inB t n with
  | false =>
    have hb : b = false := by rw [← h]; simp [h0]
    clear h
    subst hb
    go_enter Tryd.func120, Tryd.ntmps120
    go_wp2_with fail
    refine (isBlock_any _ _ _ _ h0).mono ?_
    rintro e w1 ⟨rfl, rfl⟩
    go_wp2_with fail
    go_ret
    exact ⟨rfl, HB.out⟩
  | true =>
    cases h1 : inB f n with
    | false =>
      have hb : b = false := by rw [← h]; simp [h0, h1]
      clear h
      subst hb
      go_enter Tryd.func120, Tryd.ntmps120
      go_wp2_with fail
      refine (isBlock_any _ _ _ _ h0).mono ?_
      rintro e w1 ⟨rfl, rfl⟩
      go_wp2_with fail
      refine (isBlock_any _ _ _ _ h1).mono ?_
      rintro e w2 ⟨rfl, rfl⟩
      go_wp2_with fail
      go_ret
      exact ⟨rfl, HB.out⟩
    | true =>
      have hb : b = true := by rw [← h]; simp [h0, h1]
      clear h
      subst hb
      go_enter Tryd.func120, Tryd.ntmps120
      go_wp2_with fail
      refine (isBlock_any _ _ _ _ h0).mono ?_
      rintro e w1 ⟨rfl, rfl⟩
      go_wp2_with fail
      refine (isBlock_any _ _ _ _ h1).mono ?_
      rintro e w2 ⟨rfl, rfl⟩
      go_wp2_with fail
      go_ret
      exact ⟨rfl, HB.out⟩

set_option maxRecDepth 100000 in
set_option maxHeartbeats 1000000 in
theorem step3 (t : Int) (f : Int) (w : World) :
    Calls Tryd.prog 121 #[.agg #[.int .i64 t, .int .i64 f]] w fun e w' => e = .returned (.agg #[.int .i64 3, .int .i64 t, .int .i64 f, .string ⟨#[]⟩]) ∧ Below w.heap.size w w' := by
  go_enter Tryd.func121, Tryd.ntmps121
  go_wp2_with fail
  refine bodyPost_ret (v := .agg #[.int .i64 3, .int .i64 t, .int .i64 f, .string ⟨#[]⟩]) (by simp [results, Tryd.results121, go_sem]) rfl ⟨rfl, ?_⟩
  exact ((Below.refl w.heap.size w).alloc (Nat.le_refl _) _).alloc (by simp) _
theorem method3f (v : Value) (w : World) : (Go.method 262 126 v "loop.example/g00668/impl.fits").run Tryd.prog w = .ok (120, v) w := by kernel_rfl
theorem method3s (v : Value) (w : World) : (Go.method 262 126 v "loop.example/g00668/impl.step").run Tryd.prog w = .ok (121, v) w := by kernel_rfl
set_option maxRecDepth 100000 in
set_option maxHeartbeats 1000000 in
theorem op3 (t f : Int) (d : ByteArray) (w : World) :
    Calls Tryd.prog 70 #[.agg #[.int .i64 3, .int .i64 t, .int .i64 f, .string d]] w fun e w' => e = .returned (.iface 126 (.agg #[.int .i64 t, .int .i64 f])) ∧ Below w.heap.size w w' := by
  go_enter Tryd.func70, Tryd.ntmps70
  go_wp2_with fail
  go_ret
  exact ⟨rfl, (Below.refl w.heap.size w).alloc (Nat.le_refl _) _⟩

set_option maxRecDepth 100000 in
set_option maxHeartbeats 1000000 in
theorem fits4 (t : Int) (f : Int) (d : ByteArray) (n : Int) (b : Bool) (w : World) (h : (inB t n && inB f n && decide (d.size = 8)) = b) :
    Calls Tryd.prog 122 #[.agg #[.int .i64 t, .int .i64 f, .string d], .int .i64 n] w fun e w' => e = .returned (.bool b) ∧ Below w.heap.size w w' := by
  have HB := Lib.hid ((Below.refl w.heap.size w).alloc (Nat.le_refl _) (.cells #[.int .i64 t, .int .i64 f, .string d] 128))
  cases h0 : inB t n with
  | false =>
    have hb : b = false := by rw [← h]; simp [h0]
    clear h
    subst hb
    go_enter Tryd.func122, Tryd.ntmps122
    go_wp2_with fail
    refine (isBlock_any _ _ _ _ h0).mono ?_
    rintro e w1 ⟨rfl, rfl⟩
    go_wp2_with fail
    go_ret
    exact ⟨rfl, HB.out⟩
  | true =>
    cases h1 : inB f n with
    | false =>
      have hb : b = false := by rw [← h]; simp [h0, h1]
      clear h
      subst hb
      go_enter Tryd.func122, Tryd.ntmps122
      go_wp2_with fail
      refine (isBlock_any _ _ _ _ h0).mono ?_
      rintro e w1 ⟨rfl, rfl⟩
      go_wp2_with fail
      refine (isBlock_any _ _ _ _ h1).mono ?_
      rintro e w2 ⟨rfl, rfl⟩
      go_wp2_with fail
      go_ret
      exact ⟨rfl, HB.out⟩
    | true =>
      cases h2 : decide (d.size = 8) with
      | false =>
        have hb : b = false := by rw [← h]; simp [h0, h1, h2]
        clear h
        subst hb
        have hd1 : ((d.size : Int) == 8) = false := by simp at h2; simp; omega
        clear h2
        go_enter Tryd.func122, Tryd.ntmps122
        go_wp2_with fail
        refine (isBlock_any _ _ _ _ h0).mono ?_
        rintro e w1 ⟨rfl, rfl⟩
        go_wp2_with fail
        refine (isBlock_any _ _ _ _ h1).mono ?_
        rintro e w2 ⟨rfl, rfl⟩
        go_wp2_with fail
        go_ret
        exact ⟨rfl, HB.out⟩
      | true =>
        have hd1 : ((d.size : Int) == 8) = true := by simp at h2; simp; omega
        have hb : b = true := by rw [← h]; simp [h0, h1, h2]
        clear h
        subst hb
        go_enter Tryd.func122, Tryd.ntmps122
        go_wp2_with fail
        refine (isBlock_any _ _ _ _ h0).mono ?_
        rintro e w1 ⟨rfl, rfl⟩
        go_wp2_with fail
        refine (isBlock_any _ _ _ _ h1).mono ?_
        rintro e w2 ⟨rfl, rfl⟩
        go_wp2_with fail
        go_ret
        exact ⟨rfl, HB.out⟩

set_option maxRecDepth 100000 in
set_option maxHeartbeats 1000000 in
theorem step4 (t : Int) (f : Int) (d : ByteArray) (w : World) :
    Calls Tryd.prog 123 #[.agg #[.int .i64 t, .int .i64 f, .string d]] w fun e w' => e = .returned (.agg #[.int .i64 4, .int .i64 t, .int .i64 f, .string d]) ∧ Below w.heap.size w w' := by
  go_enter Tryd.func123, Tryd.ntmps123
  go_wp2_with fail
  refine bodyPost_ret (v := .agg #[.int .i64 4, .int .i64 t, .int .i64 f, .string d]) (by simp [results, Tryd.results123, go_sem]) rfl ⟨rfl, ?_⟩
  exact ((Below.refl w.heap.size w).alloc (Nat.le_refl _) _).alloc (by simp) _
theorem method4f (v : Value) (w : World) : (Go.method 262 128 v "loop.example/g00668/impl.fits").run Tryd.prog w = .ok (122, v) w := by kernel_rfl
theorem method4s (v : Value) (w : World) : (Go.method 262 128 v "loop.example/g00668/impl.step").run Tryd.prog w = .ok (123, v) w := by kernel_rfl
set_option maxRecDepth 100000 in
set_option maxHeartbeats 1000000 in
theorem op4 (t f : Int) (d : ByteArray) (w : World) :
    Calls Tryd.prog 70 #[.agg #[.int .i64 4, .int .i64 t, .int .i64 f, .string d]] w fun e w' => e = .returned (.iface 128 (.agg #[.int .i64 t, .int .i64 f, .string d])) ∧ Below w.heap.size w w' := by
  go_enter Tryd.func70, Tryd.ntmps70
  go_wp2_with fail
  go_ret
  exact ⟨rfl, (Below.refl w.heap.size w).alloc (Nat.le_refl _) _⟩

set_option maxRecDepth 100000 in
set_option maxHeartbeats 1000000 in
theorem fits5 (f : Int) (n : Int) (b : Bool) (w : World) (h : (isT f) = b) :
    Calls Tryd.prog 124 #[.agg #[.int .i64 f], .int .i64 n] w fun e w' => e = .returned (.bool b) ∧ Below w.heap.size w w' := by
  have HB := Lib.hid ((Below.refl w.heap.size w).alloc (Nat.le_refl _) (.cells #[.int .i64 f] 130))
  cases h0 : isT f with
  | false =>
    have hb : b = false := by rw [← h]; simp [h0]
    clear h
    subst hb
    go_enter Tryd.func124, Tryd.ntmps124
    go_wp2_with fail
    refine (isTime_any _ _ _ h0).mono ?_
    rintro e w1 ⟨rfl, rfl⟩
    go_wp2_with fail
    go_ret
    exact ⟨rfl, HB.out⟩
  | true =>
    have hb : b = true := by rw [← h]; simp [h0]
    clear h
    subst hb
    go_enter Tryd.func124, Tryd.ntmps124
    go_wp2_with fail
    refine (isTime_any _ _ _ h0).mono ?_
    rintro e w1 ⟨rfl, rfl⟩
    go_wp2_with fail
    go_ret
    exact ⟨rfl, HB.out⟩

set_option maxRecDepth 100000 in
set_option maxHeartbeats 1000000 in
theorem step5 (f : Int) (w : World) :
    Calls Tryd.prog 125 #[.agg #[.int .i64 f]] w fun e w' => e = .returned (.agg #[.int .i64 5, .int .i64 0, .int .i64 f, .string ⟨#[]⟩]) ∧ Below w.heap.size w w' := by
  go_enter Tryd.func125, Tryd.ntmps125
  go_wp2_with fail
  refine bodyPost_ret (v := .agg #[.int .i64 5, .int .i64 0, .int .i64 f, .string ⟨#[]⟩]) (by simp [results, Tryd.results125, go_sem]) rfl ⟨rfl, ?_⟩
  exact ((Below.refl w.heap.size w).alloc (Nat.le_refl _) _).alloc (by simp) _
theorem method5f (v : Value) (w : World) : (Go.method 262 130 v "loop.example/g00668/impl.fits").run Tryd.prog w = .ok (124, v) w := by kernel_rfl
theorem method5s (v : Value) (w : World) : (Go.method 262 130 v "loop.example/g00668/impl.step").run Tryd.prog w = .ok (125, v) w := by kernel_rfl
set_option maxRecDepth 100000 in
set_option maxHeartbeats 1000000 in
theorem op5 (t f : Int) (d : ByteArray) (w : World) :
    Calls Tryd.prog 70 #[.agg #[.int .i64 5, .int .i64 t, .int .i64 f, .string d]] w fun e w' => e = .returned (.iface 130 (.agg #[.int .i64 f])) ∧ Below w.heap.size w w' := by
  go_enter Tryd.func70, Tryd.ntmps70
  go_wp2_with fail
  go_ret
  exact ⟨rfl, (Below.refl w.heap.size w).alloc (Nat.le_refl _) _⟩

set_option maxRecDepth 100000 in
set_option maxHeartbeats 1000000 in
theorem op0 (k t f : Int) (d : ByteArray) (w : World) (k1 : k ≠ 1) (k2 : k ≠ 2) (k3 : k ≠ 3) (k4 : k ≠ 4) (k5 : k ≠ 5) :
    Calls Tryd.prog 70 #[.agg #[.int .i64 k, .int .i64 t, .int .i64 f, .string d]] w fun e w' => e = .returned .nilIface ∧ Below w.heap.size w w' := by
  have e1 : (k == 1) = false := by simpa using k1
  have e2 : (k == 2) = false := by simpa using k2
  have e3 : (k == 3) = false := by simpa using k3
  have e4 : (k == 4) = false := by simpa using k4
  have e5 : (k == 5) = false := by simpa using k5
  clear k1 k2 k3 k4 k5
  go_enter Tryd.func70, Tryd.ntmps70
  go_wp2_with fail
  go_ret
  exact ⟨rfl, (Below.refl w.heap.size w).alloc (Nat.le_refl _) _⟩
end Go.Proofs.YtcckpkcjekcajaaDoor
