/- The program's kinds of steps: what fits, what a step of them is, which kind a step has. -/
import Derived.Test.YtcckpkcjekcajaaBStepM
import Derived.Deep.RegionHeld3
namespace Go.Proofs.Ytcckpkcjekcajaa
open Go.RowKit

set_option maxRecDepth 100000 in
theorem isBlock_any (x n : Int) (b : Bool) (w : World) (h : inB x n = b) :
    Calls Try.prog 44 #[.int .i64 x, .int .i64 n] w fun e w' => e = .returned (.bool b) ∧ w' = w := by
  subst h
  by_cases h0 : 0 ≤ x
  · by_cases h1 : x < n
    · rw [(inB_iff x n).2 ⟨h0, h1⟩]
      go_enter Try.func44, Try.ntmps44
      go_wp2
      go_ret
      exact ⟨rfl, rfl⟩
    · rw [(inB_no x n).2 (fun h => h1 h.2)]
      have d1 : decide (x < n) = false := decide_eq_false h1
      go_enter Try.func44, Try.ntmps44
      go_wp2
      go_ret
      exact ⟨rfl, rfl⟩
  · rw [(inB_no x n).2 (fun h => h0 h.1)]
    have d1 : decide (0 ≤ x) = false := decide_eq_false h0
    go_enter Try.func44, Try.ntmps44
    go_wp2
    go_ret
    exact ⟨rfl, rfl⟩
set_option maxRecDepth 100000 in
theorem isTime_any (x : Int) (b : Bool) (w : World) (h : isT x = b) :
    Calls Try.prog 118 #[.int .i64 x] w fun e w' => e = .returned (.bool b) ∧ w' = w := by
  subst h
  by_cases h0 : 0 ≤ x
  · by_cases h1 : x ≤ 1000000
    · rw [(isT_iff x).2 ⟨h0, h1⟩]
      go_enter Try.func118, Try.ntmps118
      go_wp2
      go_ret
      exact ⟨rfl, rfl⟩
    · rw [(isT_no x).2 (fun h => h1 h.2)]
      have d1 : decide (x ≤ 1000000) = false := decide_eq_false h1
      go_enter Try.func118, Try.ntmps118
      go_wp2
      go_ret
      exact ⟨rfl, rfl⟩
  · rw [(isT_no x).2 (fun h => h0 h.1)]
    have d1 : decide (0 ≤ x) = false := decide_eq_false h0
    go_enter Try.func118, Try.ntmps118
    go_wp2
    go_ret
    exact ⟨rfl, rfl⟩
set_option maxRecDepth 100000 in
theorem isCount_yes (n : Int) (w : World) (h0 : 1 ≤ n) (h1 : n ≤ 8) :
    Calls Try.prog 90 #[.int .i64 n] w fun e w' => e = .returned (.bool true) ∧ w' = w := by
  go_enter Try.func90, Try.ntmps90
  go_wp2
  go_ret
  exact ⟨rfl, rfl⟩
set_option maxRecDepth 100000 in
theorem isCount_no (n : Int) (w : World) (h : ¬ (1 ≤ n ∧ n ≤ 8)) :
    Calls Try.prog 90 #[.int .i64 n] w fun e w' => e = .returned (.bool false) ∧ w' = w := by
  by_cases h0 : 1 ≤ n
  · have d1 : decide (n ≤ 8) = false := decide_eq_false (fun h1 => h ⟨h0, h1⟩)
    clear h
    go_enter Try.func90, Try.ntmps90
    go_wp2
    go_ret
    exact ⟨rfl, rfl⟩
  · have d1 : decide (1 ≤ n) = false := decide_eq_false h0
    clear h
    go_enter Try.func90, Try.ntmps90
    go_wp2
    go_ret
    exact ⟨rfl, rfl⟩


set_option maxRecDepth 100000 in
set_option maxHeartbeats 1000000 in
theorem fits1 (t : Int) (n : Int) (b : Bool) (w : World) (h : (inB t n) = b) :
    Calls Try.prog 119 #[.agg #[.int .i64 t], .int .i64 n] w fun e w' => e = .returned (.bool b) ∧ Below w.heap.size w w' := by
  have HB := Lib.hid ((Below.refl w.heap.size w).alloc (Nat.le_refl _) (.cells #[.int .i64 t] 127))
  cases h0 : inB t n with
  | false =>
    have hb : b = false := by rw [← h]; simp [h0]
    clear h
    subst hb
    go_enter Try.func119, Try.ntmps119
    go_wp2_with fail
    refine (isBlock_any _ _ _ _ h0).mono ?_
    rintro e w1 ⟨rfl, rfl⟩
    go_wp2_with fail
    go_ret
    exact ⟨rfl, HB.out⟩
  | true =>
    have hb : b = true := by rw [← h]; simp [h0]
    clear h
    subst hb
    go_enter Try.func119, Try.ntmps119
    go_wp2_with fail
    refine (isBlock_any _ _ _ _ h0).mono ?_
    rintro e w1 ⟨rfl, rfl⟩
    go_wp2_with fail
    go_ret
    exact ⟨rfl, HB.out⟩

set_option maxRecDepth 100000 in
set_option maxHeartbeats 1000000 in
theorem step1 (t : Int) (w : World) :
    Calls Try.prog 120 #[.agg #[.int .i64 t]] w fun e w' => e = .returned (.agg #[.int .i64 1, .int .i64 t, .int .i64 0, .string ⟨#[]⟩]) ∧ Below w.heap.size w w' := by
  go_enter Try.func120, Try.ntmps120
  go_wp2_with fail
  refine bodyPost_ret (v := .agg #[.int .i64 1, .int .i64 t, .int .i64 0, .string ⟨#[]⟩]) (by simp [results, Try.results120, go_sem]) rfl ⟨rfl, ?_⟩
  exact ((Below.refl w.heap.size w).alloc (Nat.le_refl _) _).alloc (by simp) _
theorem method1f (v : Value) (w : World) : (Go.method 251 127 v "loop.example/g00668/impl.fits").run Try.prog w = .ok (119, v) w := by kernel_rfl
theorem method1s (v : Value) (w : World) : (Go.method 251 127 v "loop.example/g00668/impl.step").run Try.prog w = .ok (120, v) w := by kernel_rfl
set_option maxRecDepth 100000 in
set_option maxHeartbeats 1000000 in
theorem op1 (t f : Int) (d : ByteArray) (w : World) :
    Calls Try.prog 98 #[.agg #[.int .i64 1, .int .i64 t, .int .i64 f, .string d]] w fun e w' => e = .returned (.iface 127 (.agg #[.int .i64 t])) ∧ Below w.heap.size w w' := by
  go_enter Try.func98, Try.ntmps98
  go_wp2_with fail
  go_ret
  exact ⟨rfl, (Below.refl w.heap.size w).alloc (Nat.le_refl _) _⟩

set_option maxRecDepth 100000 in
set_option maxHeartbeats 1000000 in
theorem fits2 (t : Int) (d : ByteArray) (n : Int) (b : Bool) (w : World) (h : (inB t n && decide (d.size = 8)) = b) :
    Calls Try.prog 121 #[.agg #[.int .i64 t, .string d], .int .i64 n] w fun e w' => e = .returned (.bool b) ∧ Below w.heap.size w w' := by
  have HB := Lib.hid ((Below.refl w.heap.size w).alloc (Nat.le_refl _) (.cells #[.int .i64 t, .string d] 129))
  cases h0 : inB t n with
  | false =>
    have hb : b = false := by rw [← h]; simp [h0]
    clear h
    subst hb
    go_enter Try.func121, Try.ntmps121
    go_wp2_with fail
    refine (isBlock_any _ _ _ _ h0).mono ?_
    rintro e w1 ⟨rfl, rfl⟩
    go_wp2_with fail
    go_ret
    exact ⟨rfl, HB.out⟩
  | true =>
    cases h1 : decide (d.size = 8) with
    | false =>
      have hb : b = false := by rw [← h]; simp [h0, h1]
      clear h
      subst hb
      have hd1 : ((d.size : Int) == 8) = false := by simp at h1; simp; omega
      clear h1
      go_enter Try.func121, Try.ntmps121
      go_wp2_with fail
      refine (isBlock_any _ _ _ _ h0).mono ?_
      rintro e w1 ⟨rfl, rfl⟩
      go_wp2_with fail
      go_ret
      exact ⟨rfl, HB.out⟩
    | true =>
      have hd1 : ((d.size : Int) == 8) = true := by simp at h1; simp; omega
      have hb : b = true := by rw [← h]; simp [h0, h1]
      clear h
      subst hb
      go_enter Try.func121, Try.ntmps121
      go_wp2_with fail
      refine (isBlock_any _ _ _ _ h0).mono ?_
      rintro e w1 ⟨rfl, rfl⟩
      go_wp2_with fail
      go_ret
      exact ⟨rfl, HB.out⟩

set_option maxRecDepth 100000 in
set_option maxHeartbeats 1000000 in
theorem step2 (t : Int) (d : ByteArray) (w : World) :
    Calls Try.prog 122 #[.agg #[.int .i64 t, .string d]] w fun e w' => e = .returned (.agg #[.int .i64 2, .int .i64 t, .int .i64 0, .string d]) ∧ Below w.heap.size w w' := by
  go_enter Try.func122, Try.ntmps122
  go_wp2_with fail
  refine bodyPost_ret (v := .agg #[.int .i64 2, .int .i64 t, .int .i64 0, .string d]) (by simp [results, Try.results122, go_sem]) rfl ⟨rfl, ?_⟩
  exact ((Below.refl w.heap.size w).alloc (Nat.le_refl _) _).alloc (by simp) _
theorem method2f (v : Value) (w : World) : (Go.method 251 129 v "loop.example/g00668/impl.fits").run Try.prog w = .ok (121, v) w := by kernel_rfl
theorem method2s (v : Value) (w : World) : (Go.method 251 129 v "loop.example/g00668/impl.step").run Try.prog w = .ok (122, v) w := by kernel_rfl
set_option maxRecDepth 100000 in
set_option maxHeartbeats 1000000 in
theorem op2 (t f : Int) (d : ByteArray) (w : World) :
    Calls Try.prog 98 #[.agg #[.int .i64 2, .int .i64 t, .int .i64 f, .string d]] w fun e w' => e = .returned (.iface 129 (.agg #[.int .i64 t, .string d])) ∧ Below w.heap.size w w' := by
  go_enter Try.func98, Try.ntmps98
  go_wp2_with fail
  go_ret
  exact ⟨rfl, (Below.refl w.heap.size w).alloc (Nat.le_refl _) _⟩

set_option maxRecDepth 100000 in
set_option maxHeartbeats 1000000 in
theorem fits3 (t : Int) (f : Int) (n : Int) (b : Bool) (w : World) (h : (inB t n && inB f n) = b) :
    Calls Try.prog 123 #[.agg #[.int .i64 t, .int .i64 f], .int .i64 n] w fun e w' => e = .returned (.bool b) ∧ Below w.heap.size w w' := by
  have HB := Lib.hid ((Below.refl w.heap.size w).alloc (Nat.le_refl _) (.cells #[.int .i64 t, .int .i64 f] 131))
  cases h0 : inB t n with
  | false =>
    have hb : b = false := by rw [← h]; simp [h0]
    clear h
    subst hb
    go_enter Try.func123, Try.ntmps123
    go_wp2_with fail
    refine (isBlock_any _ _ _ _ h0).mono ?_
    rintro e w1 ⟨rfl, rfl⟩
    go_wp2_with fail
    go_ret
    exact ⟨rfl, HB.out⟩
  | true =>
    cases h1 : inB f n with
    | false =>
      have hb : b = false := by rw [← h]; simp [h0, h1]
      clear h
      subst hb
      go_enter Try.func123, Try.ntmps123
      go_wp2_with fail
      refine (isBlock_any _ _ _ _ h0).mono ?_
      rintro e w1 ⟨rfl, rfl⟩
      go_wp2_with fail
      refine (isBlock_any _ _ _ _ h1).mono ?_
      rintro e w2 ⟨rfl, rfl⟩
      go_wp2_with fail
      go_ret
      exact ⟨rfl, HB.out⟩
    | true =>
      have hb : b = true := by rw [← h]; simp [h0, h1]
      clear h
      subst hb
      go_enter Try.func123, Try.ntmps123
      go_wp2_with fail
      refine (isBlock_any _ _ _ _ h0).mono ?_
      rintro e w1 ⟨rfl, rfl⟩
      go_wp2_with fail
      refine (isBlock_any _ _ _ _ h1).mono ?_
      rintro e w2 ⟨rfl, rfl⟩
      go_wp2_with fail
      go_ret
      exact ⟨rfl, HB.out⟩

set_option maxRecDepth 100000 in
set_option maxHeartbeats 1000000 in
theorem step3 (t : Int) (f : Int) (w : World) :
    Calls Try.prog 124 #[.agg #[.int .i64 t, .int .i64 f]] w fun e w' => e = .returned (.agg #[.int .i64 3, .int .i64 t, .int .i64 f, .string ⟨#[]⟩]) ∧ Below w.heap.size w w' := by
  go_enter Try.func124, Try.ntmps124
  go_wp2_with fail
  refine bodyPost_ret (v := .agg #[.int .i64 3, .int .i64 t, .int .i64 f, .string ⟨#[]⟩]) (by simp [results, Try.results124, go_sem]) rfl ⟨rfl, ?_⟩
  exact ((Below.refl w.heap.size w).alloc (Nat.le_refl _) _).alloc (by simp) _
theorem method3f (v : Value) (w : World) : (Go.method 251 131 v "loop.example/g00668/impl.fits").run Try.prog w = .ok (123, v) w := by kernel_rfl
theorem method3s (v : Value) (w : World) : (Go.method 251 131 v "loop.example/g00668/impl.step").run Try.prog w = .ok (124, v) w := by kernel_rfl
set_option maxRecDepth 100000 in
set_option maxHeartbeats 1000000 in
theorem op3 (t f : Int) (d : ByteArray) (w : World) :
    Calls Try.prog 98 #[.agg #[.int .i64 3, .int .i64 t, .int .i64 f, .string d]] w fun e w' => e = .returned (.iface 131 (.agg #[.int .i64 t, .int .i64 f])) ∧ Below w.heap.size w w' := by
  go_enter Try.func98, Try.ntmps98
  go_wp2_with fail
  go_ret
  exact ⟨rfl, (Below.refl w.heap.size w).alloc (Nat.le_refl _) _⟩

set_option maxRecDepth 100000 in
set_option maxHeartbeats 1000000 in
theorem fits4 (t : Int) (f : Int) (d : ByteArray) (n : Int) (b : Bool) (w : World) (h : (inB t n && inB f n && decide (d.size = 8)) = b) :
    Calls Try.prog 125 #[.agg #[.int .i64 t, .int .i64 f, .string d], .int .i64 n] w fun e w' => e = .returned (.bool b) ∧ Below w.heap.size w w' := by
  have HB := Lib.hid ((Below.refl w.heap.size w).alloc (Nat.le_refl _) (.cells #[.int .i64 t, .int .i64 f, .string d] 133))
  cases h0 : inB t n with
  | false =>
    have hb : b = false := by rw [← h]; simp [h0]
    clear h
    subst hb
    go_enter Try.func125, Try.ntmps125
    go_wp2_with fail
    refine (isBlock_any _ _ _ _ h0).mono ?_
    rintro e w1 ⟨rfl, rfl⟩
    go_wp2_with fail
    go_ret
    exact ⟨rfl, HB.out⟩
  | true =>
    cases h1 : inB f n with
    | false =>
      have hb : b = false := by rw [← h]; simp [h0, h1]
      clear h
      subst hb
      go_enter Try.func125, Try.ntmps125
      go_wp2_with fail
      refine (isBlock_any _ _ _ _ h0).mono ?_
      rintro e w1 ⟨rfl, rfl⟩
      go_wp2_with fail
      refine (isBlock_any _ _ _ _ h1).mono ?_
      rintro e w2 ⟨rfl, rfl⟩
      go_wp2_with fail
      go_ret
      exact ⟨rfl, HB.out⟩
    | true =>
      cases h2 : decide (d.size = 8) with
      | false =>
        have hb : b = false := by rw [← h]; simp [h0, h1, h2]
        clear h
        subst hb
        have hd1 : ((d.size : Int) == 8) = false := by simp at h2; simp; omega
        clear h2
        go_enter Try.func125, Try.ntmps125
        go_wp2_with fail
        refine (isBlock_any _ _ _ _ h0).mono ?_
        rintro e w1 ⟨rfl, rfl⟩
        go_wp2_with fail
        refine (isBlock_any _ _ _ _ h1).mono ?_
        rintro e w2 ⟨rfl, rfl⟩
        go_wp2_with fail
        go_ret
        exact ⟨rfl, HB.out⟩
      | true =>
        have hd1 : ((d.size : Int) == 8) = true := by simp at h2; simp; omega
        have hb : b = true := by rw [← h]; simp [h0, h1, h2]
        clear h
        subst hb
        go_enter Try.func125, Try.ntmps125
        go_wp2_with fail
        refine (isBlock_any _ _ _ _ h0).mono ?_
        rintro e w1 ⟨rfl, rfl⟩
        go_wp2_with fail
        refine (isBlock_any _ _ _ _ h1).mono ?_
        rintro e w2 ⟨rfl, rfl⟩
        go_wp2_with fail
        go_ret
        exact ⟨rfl, HB.out⟩

set_option maxRecDepth 100000 in
set_option maxHeartbeats 1000000 in
theorem step4 (t : Int) (f : Int) (d : ByteArray) (w : World) :
    Calls Try.prog 126 #[.agg #[.int .i64 t, .int .i64 f, .string d]] w fun e w' => e = .returned (.agg #[.int .i64 4, .int .i64 t, .int .i64 f, .string d]) ∧ Below w.heap.size w w' := by
  go_enter Try.func126, Try.ntmps126
  go_wp2_with fail
  refine bodyPost_ret (v := .agg #[.int .i64 4, .int .i64 t, .int .i64 f, .string d]) (by simp [results, Try.results126, go_sem]) rfl ⟨rfl, ?_⟩
  exact ((Below.refl w.heap.size w).alloc (Nat.le_refl _) _).alloc (by simp) _
theorem method4f (v : Value) (w : World) : (Go.method 251 133 v "loop.example/g00668/impl.fits").run Try.prog w = .ok (125, v) w := by kernel_rfl
theorem method4s (v : Value) (w : World) : (Go.method 251 133 v "loop.example/g00668/impl.step").run Try.prog w = .ok (126, v) w := by kernel_rfl
set_option maxRecDepth 100000 in
set_option maxHeartbeats 1000000 in
theorem op4 (t f : Int) (d : ByteArray) (w : World) :
    Calls Try.prog 98 #[.agg #[.int .i64 4, .int .i64 t, .int .i64 f, .string d]] w fun e w' => e = .returned (.iface 133 (.agg #[.int .i64 t, .int .i64 f, .string d])) ∧ Below w.heap.size w w' := by
  go_enter Try.func98, Try.ntmps98
  go_wp2_with fail
  go_ret
  exact ⟨rfl, (Below.refl w.heap.size w).alloc (Nat.le_refl _) _⟩

set_option maxRecDepth 100000 in
set_option maxHeartbeats 1000000 in
theorem fits5 (f : Int) (n : Int) (b : Bool) (w : World) (h : (isT f) = b) :
    Calls Try.prog 116 #[.agg #[.int .i64 f], .int .i64 n] w fun e w' => e = .returned (.bool b) ∧ Below w.heap.size w w' := by
  have HB := Lib.hid ((Below.refl w.heap.size w).alloc (Nat.le_refl _) (.cells #[.int .i64 f] 125))
  cases h0 : isT f with
  | false =>
    have hb : b = false := by rw [← h]; simp [h0]
    clear h
    subst hb
    go_enter Try.func116, Try.ntmps116
    go_wp2_with fail
    refine (isTime_any _ _ _ h0).mono ?_
    rintro e w1 ⟨rfl, rfl⟩
    go_wp2_with fail
    go_ret
    exact ⟨rfl, HB.out⟩
  | true =>
    have hb : b = true := by rw [← h]; simp [h0]
    clear h
    subst hb
    go_enter Try.func116, Try.ntmps116
    go_wp2_with fail
    refine (isTime_any _ _ _ h0).mono ?_
    rintro e w1 ⟨rfl, rfl⟩
    go_wp2_with fail
    go_ret
    exact ⟨rfl, HB.out⟩

set_option maxRecDepth 100000 in
set_option maxHeartbeats 1000000 in
theorem step5 (f : Int) (w : World) :
    Calls Try.prog 117 #[.agg #[.int .i64 f]] w fun e w' => e = .returned (.agg #[.int .i64 5, .int .i64 0, .int .i64 f, .string ⟨#[]⟩]) ∧ Below w.heap.size w w' := by
  go_enter Try.func117, Try.ntmps117
  go_wp2_with fail
  refine bodyPost_ret (v := .agg #[.int .i64 5, .int .i64 0, .int .i64 f, .string ⟨#[]⟩]) (by simp [results, Try.results117, go_sem]) rfl ⟨rfl, ?_⟩
  exact ((Below.refl w.heap.size w).alloc (Nat.le_refl _) _).alloc (by simp) _
theorem method5f (v : Value) (w : World) : (Go.method 251 125 v "loop.example/g00668/impl.fits").run Try.prog w = .ok (116, v) w := by kernel_rfl
theorem method5s (v : Value) (w : World) : (Go.method 251 125 v "loop.example/g00668/impl.step").run Try.prog w = .ok (117, v) w := by kernel_rfl
set_option maxRecDepth 100000 in
set_option maxHeartbeats 1000000 in
theorem op5 (t f : Int) (d : ByteArray) (w : World) :
    Calls Try.prog 98 #[.agg #[.int .i64 5, .int .i64 t, .int .i64 f, .string d]] w fun e w' => e = .returned (.iface 125 (.agg #[.int .i64 f])) ∧ Below w.heap.size w w' := by
  go_enter Try.func98, Try.ntmps98
  go_wp2_with fail
  go_ret
  exact ⟨rfl, (Below.refl w.heap.size w).alloc (Nat.le_refl _) _⟩

set_option maxRecDepth 100000 in
set_option maxHeartbeats 1000000 in
theorem op0 (k t f : Int) (d : ByteArray) (w : World) (k1 : k ≠ 1) (k2 : k ≠ 2) (k3 : k ≠ 3) (k4 : k ≠ 4) (k5 : k ≠ 5) :
    Calls Try.prog 98 #[.agg #[.int .i64 k, .int .i64 t, .int .i64 f, .string d]] w fun e w' => e = .returned .nilIface ∧ Below w.heap.size w w' := by
  have e1 : (k == 1) = false := by simpa using k1
  have e2 : (k == 2) = false := by simpa using k2
  have e3 : (k == 3) = false := by simpa using k3
  have e4 : (k == 4) = false := by simpa using k4
  have e5 : (k == 5) = false := by simpa using k5
  clear k1 k2 k3 k4 k5
  go_enter Try.func98, Try.ntmps98
  go_wp2_with fail
  go_ret
  exact ⟨rfl, (Below.refl w.heap.size w).alloc (Nat.le_refl _) _⟩
end Go.Proofs.Ytcckpkcjekcajaa
