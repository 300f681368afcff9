/- Unseal: the model and the program answer alike. -/
import Derived.Test.YtocjjkjjojdpdaaDoorRRSeal
import Derived.Deep.RegionHeld3
import Derived.Deep.DrawnRows
namespace Go.Proofs.YtocjjkjjojdpdaaDoorRR
open Go.RowKit

attribute [local go_sem ↓] Go.wp_at_zero Go.wp_at_succ

set_option maxHeartbeats 400000 in
theorem implUnseal_bad (s : ByteArray) (n : Nat) (w : World) (hs : s.size ≤ 8000) (h4 : 4 ≤ s.size) (hn : (s.size : Int) - 4 = n)
    (hcmp : ((s.extract n s.size).toList == (fourS (crcF 0 (s.extract 0 n))).toList) = false) :
    Calls Tryd.prog 19 #[.string s] w fun e w' => e = .returned (.agg #[.string ⟨#[]⟩, .int .i64 0, .int .i64 5]) ∧ Below w.heap.size w w' := by
  have b0 : (0 : Int) ≤ (n : Int) := by omega
  have b1 : (n : Int) ≤ (s.size : Int) := by omega
  have b2 : n ≤ s.size := by omega
  have HZ := Lib.hid (show (s.extract 0 n).size ≤ 8000 by simp; omega)
  go_enter Tryd.func19, Tryd.ntmps19
  go_wp2_with fail
  go_region_held3 (fun _ => True) (trivial) ((go_at_call 26; refine (sum_any _ _ HZ.out).mono ?_; rintro e w' ⟨rfl, hb⟩))
  obtain ⟨q0, q1, q2, f0, f1, f2⟩ := res_cells hb (res_size _ _)
  go_wp2
  exact bodyPost_ret (v := .agg #[.string ⟨#[]⟩, .int .i64 0, .int .i64 5]) (by simp [results, Tryd.results19, go_sem, q0, q1, q2]) rfl ⟨rfl, res_below hb (res_size _ _) _ _ _⟩

set_option maxHeartbeats 400000 in
theorem implUnseal_good (s : ByteArray) (n : Nat) (w : World) (hs : s.size ≤ 8000) (h4 : 4 ≤ s.size) (hn : (s.size : Int) - 4 = n)
    (hcmp : ((s.extract n s.size).toList == (fourS (crcF 0 (s.extract 0 n))).toList) = true) :
    Calls Tryd.prog 19 #[.string s] w fun e w' => e = .returned (.agg #[.string (s.extract 0 n), .int .i64 0, .int .i64 0]) ∧ Below w.heap.size w w' := by
  have b0 : (0 : Int) ≤ (n : Int) := by omega
  have b1 : (n : Int) ≤ (s.size : Int) := by omega
  have b2 : n ≤ s.size := by omega
  have HZ := Lib.hid (show (s.extract 0 n).size ≤ 8000 by simp; omega)
  go_enter Tryd.func19, Tryd.ntmps19
  go_wp2_with fail
  go_region_held3 (fun _ => True) (trivial) ((go_at_call 26; refine (sum_any _ _ HZ.out).mono ?_; rintro e w' ⟨rfl, hb⟩))
  obtain ⟨q0, q1, q2, f0, f1, f2⟩ := res_cells hb (res_size _ _)
  go_wp2
  exact bodyPost_ret (v := .agg #[.string (s.extract 0 n), .int .i64 0, .int .i64 0]) (by simp [results, Tryd.results19, go_sem, q0, q1, q2]) rfl ⟨rfl, res_below hb (res_size _ _) _ _ _⟩

set_option maxHeartbeats 400000 in
theorem specUnseal_bad (s : ByteArray) (n : Nat) (w : World) (hs : s.size ≤ 8000) (h4 : 4 ≤ s.size) (hn : (s.size : Int) - 4 = n)
    (hcmp : ((fourS (crcF 0 (s.extract 0 n))).toList == (s.extract n s.size).toList) = false) :
    Calls Tryd.prog 7 #[.string s] w fun e w' => e = .returned (.agg #[.string ⟨#[]⟩, .int .i64 0, .int .i64 5]) ∧ Below w.heap.size w w' := by
  have b0 : (0 : Int) ≤ (n : Int) := by omega
  have b1 : (n : Int) ≤ (s.size : Int) := by omega
  have b2 : n ≤ s.size := by omega
  have HZ := Lib.hid (show (s.extract 0 n).size ≤ maxLen by unfold maxLen; simp; omega)
  have HC := Lib.hid (crcF_bound 0 (s.extract 0 n))
  have hw : IntKind.i64.wrap (n : Int) = n := IntWalk.i64_in _ (by omega)
  go_enter Tryd.func7, Tryd.ntmps7
  go_wp2_with fail
  go_region_held3 (fun _ => True) (trivial) (first | (go_at_call 14; refine (specCrc_any _ _ _ HZ.out (by omega) (by omega)).mono ?_; rintro e w' ⟨rfl, rfl⟩) | (go_at_call 13; refine (four_any _ _ HC.out.1 HC.out.2).mono ?_; rintro e w' ⟨rfl, hb⟩))
  obtain ⟨q0, q1, q2, f0, f1, f2⟩ := res_cells hb (res_size _ _)
  go_wp2
  exact bodyPost_ret (v := .agg #[.string ⟨#[]⟩, .int .i64 0, .int .i64 5]) (by simp [results, Tryd.results7, go_sem, q0, q1, q2]) rfl ⟨rfl, res_below hb (res_size _ _) _ _ _⟩

set_option maxHeartbeats 400000 in
theorem specUnseal_good (s : ByteArray) (n : Nat) (w : World) (hs : s.size ≤ 8000) (h4 : 4 ≤ s.size) (hn : (s.size : Int) - 4 = n)
    (hcmp : ((fourS (crcF 0 (s.extract 0 n))).toList == (s.extract n s.size).toList) = true) :
    Calls Tryd.prog 7 #[.string s] w fun e w' => e = .returned (.agg #[.string (s.extract 0 n), .int .i64 0, .int .i64 0]) ∧ Below w.heap.size w w' := by
  have b0 : (0 : Int) ≤ (n : Int) := by omega
  have b1 : (n : Int) ≤ (s.size : Int) := by omega
  have b2 : n ≤ s.size := by omega
  have HZ := Lib.hid (show (s.extract 0 n).size ≤ maxLen by unfold maxLen; simp; omega)
  have HC := Lib.hid (crcF_bound 0 (s.extract 0 n))
  have hw : IntKind.i64.wrap (n : Int) = n := IntWalk.i64_in _ (by omega)
  go_enter Tryd.func7, Tryd.ntmps7
  go_wp2_with fail
  go_region_held3 (fun _ => True) (trivial) (first | (go_at_call 14; refine (specCrc_any _ _ _ HZ.out (by omega) (by omega)).mono ?_; rintro e w' ⟨rfl, rfl⟩) | (go_at_call 13; refine (four_any _ _ HC.out.1 HC.out.2).mono ?_; rintro e w' ⟨rfl, hb⟩))
  obtain ⟨q0, q1, q2, f0, f1, f2⟩ := res_cells hb (res_size _ _)
  go_wp2
  exact bodyPost_ret (v := .agg #[.string (s.extract 0 n), .int .i64 0, .int .i64 0]) (by simp [results, Tryd.results7, go_sem, q0, q1, q2]) rfl ⟨rfl, res_below hb (res_size _ _) _ _ _⟩

set_option maxHeartbeats 400000 in
theorem implUnseal_long (s : ByteArray) (w : World) (hs : s.size ≤ maxLen) (h8 : 8000 < s.size) :
    Calls Tryd.prog 19 #[.string s] w fun e w' => e = .returned (.agg #[.string ⟨#[]⟩, .int .i64 0, .int .i64 2]) ∧ Below w.heap.size w w' := by
  unfold maxLen at hs
  go_enter Tryd.func19, Tryd.ntmps19
  go_wp2_with fail
  exact bodyPost_ret (v := .agg #[.string ⟨#[]⟩, .int .i64 0, .int .i64 2]) (by simp [results, Tryd.results19, go_sem]) rfl ⟨rfl, (Below.refl _ _).alloc (Nat.le_refl _) _⟩

set_option maxHeartbeats 400000 in
theorem implUnseal_short (s : ByteArray) (w : World) (hs : s.size ≤ maxLen) (h8 : s.size < 4) :
    Calls Tryd.prog 19 #[.string s] w fun e w' => e = .returned (.agg #[.string ⟨#[]⟩, .int .i64 0, .int .i64 4]) ∧ Below w.heap.size w w' := by
  unfold maxLen at hs
  go_enter Tryd.func19, Tryd.ntmps19
  go_wp2_with fail
  exact bodyPost_ret (v := .agg #[.string ⟨#[]⟩, .int .i64 0, .int .i64 4]) (by simp [results, Tryd.results19, go_sem]) rfl ⟨rfl, (Below.refl _ _).alloc (Nat.le_refl _) _⟩

set_option maxHeartbeats 400000 in
theorem specUnseal_long (s : ByteArray) (w : World) (hs : s.size ≤ maxLen) (h8 : 8000 < s.size) :
    Calls Tryd.prog 7 #[.string s] w fun e w' => e = .returned (.agg #[.string ⟨#[]⟩, .int .i64 0, .int .i64 2]) ∧ Below w.heap.size w w' := by
  unfold maxLen at hs
  go_enter Tryd.func7, Tryd.ntmps7
  go_wp2_with fail
  exact bodyPost_ret (v := .agg #[.string ⟨#[]⟩, .int .i64 0, .int .i64 2]) (by simp [results, Tryd.results7, go_sem]) rfl ⟨rfl, (Below.refl _ _).alloc (Nat.le_refl _) _⟩

set_option maxHeartbeats 400000 in
theorem specUnseal_short (s : ByteArray) (w : World) (hs : s.size ≤ maxLen) (h8 : s.size < 4) :
    Calls Tryd.prog 7 #[.string s] w fun e w' => e = .returned (.agg #[.string ⟨#[]⟩, .int .i64 0, .int .i64 4]) ∧ Below w.heap.size w w' := by
  unfold maxLen at hs
  go_enter Tryd.func7, Tryd.ntmps7
  go_wp2_with fail
  exact bodyPost_ret (v := .agg #[.string ⟨#[]⟩, .int .i64 0, .int .i64 4]) (by simp [results, Tryd.results7, go_sem]) rfl ⟨rfl, (Below.refl _ _).alloc (Nat.le_refl _) _⟩

end Go.Proofs.YtocjjkjjojdpdaaDoorRR
