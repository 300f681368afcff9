/- Unseal: the model. -/
import Derived.Test.YthkbllkhomjmbaaDoorSeal
import Derived.Deep.RegionHeld3
import Derived.Deep.DrawnRows
namespace Go.Proofs.YthkbllkhomjmbaaDoor
open Go.RowKit

attribute [local go_sem ↓] Go.wp_at_zero Go.wp_at_succ

set_option maxHeartbeats 400000 in
theorem specUnseal_bad (s : ByteArray) (n : Nat) (w : World) (hs : s.size ≤ 8000) (h4 : 4 ≤ s.size) (hn : (s.size : Int) - 4 = n)
    (hcmp : ((fourS (crcF 0 (s.extract 0 n))).toList == (s.extract n s.size).toList) = false) :
    Calls Tryd.prog 41 #[.string s] w fun e w' => e = .returned (.agg #[.string ⟨#[]⟩, .int .i64 0, .int .i64 5]) ∧ Below w.heap.size w w' := by
  have b0 : (0 : Int) ≤ (n : Int) := by omega
  have b1 : (n : Int) ≤ (s.size : Int) := by omega
  have b2 : n ≤ s.size := by omega
  have HZ := Lib.hid (show (s.extract 0 n).size ≤ maxLen by unfold maxLen; simp; omega)
  have HC := Lib.hid (crcF_bound 0 (s.extract 0 n))
  have hw : IntKind.i64.wrap (n : Int) = n := IntWalk.i64_in _ (by omega)
  go_enter Tryd.func41, Tryd.ntmps41
  go_wp2_with fail
  go_region_held3 (fun _ => True) (trivial) (first | (go_at_call 69; refine (specCrc_any _ _ _ HZ.out (by omega) (by omega)).mono ?_; rintro e w' ⟨rfl, rfl⟩) | (go_at_call 68; refine (four_any _ _ HC.out.1 HC.out.2).mono ?_; rintro e w' ⟨rfl, hb⟩))
  obtain ⟨q0, q1, q2, f0, f1, f2⟩ := res_cells hb (res_size _ _)
  go_wp2
  exact bodyPost_ret (v := .agg #[.string ⟨#[]⟩, .int .i64 0, .int .i64 5]) (by simp [results, Tryd.results41, go_sem, q0, q1, q2]) rfl ⟨rfl, res_below hb (res_size _ _) _ _ _⟩

set_option maxHeartbeats 400000 in
theorem specUnseal_good (s : ByteArray) (n : Nat) (w : World) (hs : s.size ≤ 8000) (h4 : 4 ≤ s.size) (hn : (s.size : Int) - 4 = n)
    (hcmp : ((fourS (crcF 0 (s.extract 0 n))).toList == (s.extract n s.size).toList) = true) :
    Calls Tryd.prog 41 #[.string s] w fun e w' => e = .returned (.agg #[.string (s.extract 0 n), .int .i64 0, .int .i64 0]) ∧ Below w.heap.size w w' := by
  have b0 : (0 : Int) ≤ (n : Int) := by omega
  have b1 : (n : Int) ≤ (s.size : Int) := by omega
  have b2 : n ≤ s.size := by omega
  have HZ := Lib.hid (show (s.extract 0 n).size ≤ maxLen by unfold maxLen; simp; omega)
  have HC := Lib.hid (crcF_bound 0 (s.extract 0 n))
  have hw : IntKind.i64.wrap (n : Int) = n := IntWalk.i64_in _ (by omega)
  go_enter Tryd.func41, Tryd.ntmps41
  go_wp2_with fail
  go_region_held3 (fun _ => True) (trivial) (first | (go_at_call 69; refine (specCrc_any _ _ _ HZ.out (by omega) (by omega)).mono ?_; rintro e w' ⟨rfl, rfl⟩) | (go_at_call 68; refine (four_any _ _ HC.out.1 HC.out.2).mono ?_; rintro e w' ⟨rfl, hb⟩))
  obtain ⟨q0, q1, q2, f0, f1, f2⟩ := res_cells hb (res_size _ _)
  go_wp2
  exact bodyPost_ret (v := .agg #[.string (s.extract 0 n), .int .i64 0, .int .i64 0]) (by simp [results, Tryd.results41, go_sem, q0, q1, q2]) rfl ⟨rfl, res_below hb (res_size _ _) _ _ _⟩

set_option maxHeartbeats 400000 in
theorem specUnseal_long (s : ByteArray) (w : World) (hs : s.size ≤ maxLen) (h8 : 8000 < s.size) :
    Calls Tryd.prog 41 #[.string s] w fun e w' => e = .returned (.agg #[.string ⟨#[]⟩, .int .i64 0, .int .i64 2]) ∧ Below w.heap.size w w' := by
  unfold maxLen at hs
  go_enter Tryd.func41, Tryd.ntmps41
  go_wp2_with fail
  exact bodyPost_ret (v := .agg #[.string ⟨#[]⟩, .int .i64 0, .int .i64 2]) (by simp [results, Tryd.results41, go_sem]) rfl ⟨rfl, (Below.refl _ _).alloc (Nat.le_refl _) _⟩

set_option maxHeartbeats 400000 in
theorem specUnseal_short (s : ByteArray) (w : World) (hs : s.size ≤ maxLen) (h8 : s.size < 4) :
    Calls Tryd.prog 41 #[.string s] w fun e w' => e = .returned (.agg #[.string ⟨#[]⟩, .int .i64 0, .int .i64 4]) ∧ Below w.heap.size w w' := by
  unfold maxLen at hs
  go_enter Tryd.func41, Tryd.ntmps41
  go_wp2_with fail
  exact bodyPost_ret (v := .agg #[.string ⟨#[]⟩, .int .i64 0, .int .i64 4]) (by simp [results, Tryd.results41, go_sem]) rfl ⟨rfl, (Below.refl _ _).alloc (Nat.le_refl _) _⟩

set_option maxHeartbeats 400000 in
theorem eqText_same (x : ByteArray) (a c : Int) (w : World) :
    Calls Tryd.prog 42 #[.agg #[.string x, .int .i64 a, .int .i64 c], .agg #[.string x, .int .i64 a, .int .i64 c]] w fun e w' => e = .returned (.bool true) ∧ Below w.heap.size w w' := by
  go_enter Tryd.func42, Tryd.ntmps42
  go_wp2_with fail
  go_ret
  exact ⟨rfl, ((Below.refl _ _).alloc (Nat.le_refl _) _).alloc (by simp) _⟩

/-- What a seal holds, and the code. -/
def unsealT (s : ByteArray) : ByteArray × Int :=
  if 8000 < s.size then (⟨#[]⟩, 2) else if s.size < 4 then (⟨#[]⟩, 4) else
  if ((fourS (crcF 0 (s.extract 0 (s.size - 4)))).toList == (s.extract (s.size - 4) s.size).toList) = true then (s.extract 0 (s.size - 4), 0) else (⟨#[]⟩, 5)
theorem specUnsealT (s : ByteArray) (w : World) (hs : s.size ≤ maxLen) :
    Calls Tryd.prog 41 #[.string s] w fun e w' => e = .returned (.agg #[.string (unsealT s).1, .int .i64 0, .int .i64 (unsealT s).2]) ∧ Below w.heap.size w w' := by
  unfold unsealT
  by_cases h8 : 8000 < s.size
  · rw [if_pos h8]; exact specUnseal_long s w hs h8
  rw [if_neg h8]
  by_cases h4 : s.size < 4
  · rw [if_pos h4]; exact specUnseal_short s w hs h4
  rw [if_neg h4]
  have hn : (s.size : Int) - 4 = ((s.size - 4 : Nat) : Int) := by omega
  generalize s.size - 4 = n at *
  by_cases hc : ((fourS (crcF 0 (s.extract 0 n))).toList == (s.extract n s.size).toList) = true
  · rw [if_pos hc]; exact specUnseal_good s n w (by omega) (by omega) hn hc
  · rw [if_neg hc]; exact specUnseal_bad s n w (by omega) (by omega) hn (by simpa using hc)
theorem unsealT_size (s : ByteArray) : (unsealT s).1.size ≤ 8000 := by
  unfold unsealT
  split
  · exact Nat.zero_le _
  · split
    · exact Nat.zero_le _
    · split
      · simp; omega
      · exact Nat.zero_le _
end Go.Proofs.YthkbllkhomjmbaaDoor
