/- Unseal: the model and the program answer alike. -/
import Derived.Test.YteboacnkjlmfkaaText
import Derived.Deep.RegionHeld3
import Derived.Deep.DrawnRows
namespace Go.Proofs.Yteboacnkjlmfkaa
open Go.RowKit

attribute [local go_sem ↓] Go.wp_at_zero Go.wp_at_succ

theorem res_cells {K : Nat} {w w' : World} {a b c : Value} {T : TypeId} (hb : Below K (w.alloc (.cells #[a, b, c] T)).drew w') (hK : w.heap.size < K) :
    w'.cell? ⟨w.heap.size, 0, none⟩ = some a ∧ w'.cell? ⟨w.heap.size, 1, none⟩ = some b ∧ w'.cell? ⟨w.heap.size, 2, none⟩ = some c ∧
    w'.frozen? ⟨w.heap.size, 0, none⟩ = false ∧ w'.frozen? ⟨w.heap.size, 1, none⟩ = false ∧ w'.frozen? ⟨w.heap.size, 2, none⟩ = false := by
  have hc : ∀ j, w'.cell? ⟨w.heap.size, j, none⟩ = (#[a, b, c] : Array Value)[j]? := fun j =>
    (hb.cell (p := ⟨w.heap.size, j, none⟩) hK).trans (World.cell?_alloc_new (w := w) #[a, b, c] T j)
  have hf : ∀ j, w'.frozen? ⟨w.heap.size, j, none⟩ = false := fun j =>
    (hb.frozen (p := ⟨w.heap.size, j, none⟩) hK).trans (World.frozen?_alloc_at #[a, b, c] T w.heap.size j rfl)
  exact ⟨hc 0, hc 1, hc 2, hf 0, hf 1, hf 2⟩

theorem laid_cells {K : Nat} {w w' : World} {a b c : Value} {T : TypeId} (hb : Below K (w.alloc (.cells #[a, b, c] T)) w') (hK : w.heap.size < K) :
    w'.cell? ⟨w.heap.size, 0, none⟩ = some a ∧ w'.cell? ⟨w.heap.size, 1, none⟩ = some b ∧ w'.cell? ⟨w.heap.size, 2, none⟩ = some c := by
  have hc : ∀ j, w'.cell? ⟨w.heap.size, j, none⟩ = (#[a, b, c] : Array Value)[j]? := fun j =>
    (hb.cell (p := ⟨w.heap.size, j, none⟩) hK).trans (World.cell?_alloc_new (w := w) #[a, b, c] T j)
  exact ⟨hc 0, hc 1, hc 2⟩
theorem laid_size (w : World) (o : Obj) : w.heap.size < (w.alloc o).heap.size := by
  show _ < (w.heap.push _).size; simp
theorem res_below {K : Nat} {w w' : World} {o : Obj} (hb : Below K (w.alloc o).drew w') (hK : w.heap.size < K) (a b c : Value) :
    Below w.heap.size w (((w'.setCell ⟨w.heap.size, 0, none⟩ a).setCell ⟨w.heap.size, 1, none⟩ b).setCell ⟨w.heap.size, 2, none⟩ c) :=
  (((((Below.refl _ w).alloc (Nat.le_refl _) o).drew.trans (hb.mono (Nat.le_of_lt hK))).setCell (p := ⟨w.heap.size, 0, none⟩) (Nat.le_refl _) a).setCell (p := ⟨w.heap.size, 1, none⟩) (Nat.le_refl _) b).setCell (p := ⟨w.heap.size, 2, none⟩) (Nat.le_refl _) c
theorem res_size (w : World) (o : Obj) : w.heap.size < (w.alloc o).drew.heap.size := by
  show _ < (w.heap.push _).size; simp
theorem res_below0 (w : World) (o : Obj) (a b c : Value) :
    Below w.heap.size w ((((w.alloc o).setCell ⟨w.heap.size, 0, none⟩ a).setCell ⟨w.heap.size, 1, none⟩ b).setCell ⟨w.heap.size, 2, none⟩ c) :=
  ((((Below.refl _ w).alloc (Nat.le_refl _) o).setCell (p := ⟨w.heap.size, 0, none⟩) (Nat.le_refl _) a).setCell (p := ⟨w.heap.size, 1, none⟩) (Nat.le_refl _) b).setCell (p := ⟨w.heap.size, 2, none⟩) (Nat.le_refl _) c

/-- A decoded string as the model and the program lay it. -/
def textV (s : ByteArray) (at' code : Int) : Value := .agg #[.string s, .int .i64 at', .int .i64 code]

set_option maxHeartbeats 400000 in
theorem implUnseal_bad (s : ByteArray) (n : Nat) (w : World) (hs : s.size ≤ 8000) (h4 : 4 ≤ s.size) (hn : (s.size : Int) - 4 = n)
    (hcmp : ((s.extract n s.size).toList == (fourS (crcF 0 (s.extract 0 n))).toList) = false) :
    Calls Try.prog 23 #[.string s] w fun e w' => e = .returned (.agg #[.string ⟨#[]⟩, .int .i64 0, .int .i64 5]) ∧ Below w.heap.size w w' := by
  have b0 : (0 : Int) ≤ (n : Int) := by omega
  have b1 : (n : Int) ≤ (s.size : Int) := by omega
  have b2 : n ≤ s.size := by omega
  have HZ := Lib.hid (show (s.extract 0 n).size ≤ 8000 by simp; omega)
  go_enter Try.func23, Try.ntmps23
  go_wp2_with fail
  go_region_held3 (fun _ => True) (trivial) ((go_at_call 32; refine (sum_any _ _ HZ.out).mono ?_; rintro e w' ⟨rfl, hb⟩))
  obtain ⟨q0, q1, q2, f0, f1, f2⟩ := res_cells hb (res_size _ _)
  go_wp2
  exact bodyPost_ret (v := .agg #[.string ⟨#[]⟩, .int .i64 0, .int .i64 5]) (by simp [results, Try.results23, go_sem, q0, q1, q2]) rfl ⟨rfl, res_below hb (res_size _ _) _ _ _⟩

set_option maxHeartbeats 400000 in
theorem implUnseal_good (s : ByteArray) (n : Nat) (w : World) (hs : s.size ≤ 8000) (h4 : 4 ≤ s.size) (hn : (s.size : Int) - 4 = n)
    (hcmp : ((s.extract n s.size).toList == (fourS (crcF 0 (s.extract 0 n))).toList) = true) :
    Calls Try.prog 23 #[.string s] w fun e w' => e = .returned (.agg #[.string (s.extract 0 n), .int .i64 0, .int .i64 0]) ∧ Below w.heap.size w w' := by
  have b0 : (0 : Int) ≤ (n : Int) := by omega
  have b1 : (n : Int) ≤ (s.size : Int) := by omega
  have b2 : n ≤ s.size := by omega
  have HZ := Lib.hid (show (s.extract 0 n).size ≤ 8000 by simp; omega)
  go_enter Try.func23, Try.ntmps23
  go_wp2_with fail
  go_region_held3 (fun _ => True) (trivial) ((go_at_call 32; refine (sum_any _ _ HZ.out).mono ?_; rintro e w' ⟨rfl, hb⟩))
  obtain ⟨q0, q1, q2, f0, f1, f2⟩ := res_cells hb (res_size _ _)
  go_wp2
  exact bodyPost_ret (v := .agg #[.string (s.extract 0 n), .int .i64 0, .int .i64 0]) (by simp [results, Try.results23, go_sem, q0, q1, q2]) rfl ⟨rfl, res_below hb (res_size _ _) _ _ _⟩

set_option maxHeartbeats 400000 in
theorem specUnseal_bad (s : ByteArray) (n : Nat) (w : World) (hs : s.size ≤ 8000) (h4 : 4 ≤ s.size) (hn : (s.size : Int) - 4 = n)
    (hcmp : ((fourS (crcF 0 (s.extract 0 n))).toList == (s.extract n s.size).toList) = false) :
    Calls Try.prog 22 #[.string s] w fun e w' => e = .returned (.agg #[.string ⟨#[]⟩, .int .i64 0, .int .i64 5]) ∧ Below w.heap.size w w' := by
  have b0 : (0 : Int) ≤ (n : Int) := by omega
  have b1 : (n : Int) ≤ (s.size : Int) := by omega
  have b2 : n ≤ s.size := by omega
  have HZ := Lib.hid (show (s.extract 0 n).size ≤ maxLen by unfold maxLen; simp; omega)
  have HC := Lib.hid (crcF_bound 0 (s.extract 0 n))
  have hw : IntKind.i64.wrap (n : Int) = n := IntWalk.i64_in _ (by omega)
  go_enter Try.func22, Try.ntmps22
  go_wp2_with fail
  go_region_held3 (fun _ => True) (trivial) (first | (go_at_call 29; refine (specCrc_any _ _ _ HZ.out (by omega) (by omega)).mono ?_; rintro e w' ⟨rfl, rfl⟩) | (go_at_call 31; refine (four_any _ _ HC.out.1 HC.out.2).mono ?_; rintro e w' ⟨rfl, hb⟩))
  obtain ⟨q0, q1, q2, f0, f1, f2⟩ := res_cells hb (res_size _ _)
  go_wp2
  exact bodyPost_ret (v := .agg #[.string ⟨#[]⟩, .int .i64 0, .int .i64 5]) (by simp [results, Try.results22, go_sem, q0, q1, q2]) rfl ⟨rfl, res_below hb (res_size _ _) _ _ _⟩

set_option maxHeartbeats 400000 in
theorem specUnseal_good (s : ByteArray) (n : Nat) (w : World) (hs : s.size ≤ 8000) (h4 : 4 ≤ s.size) (hn : (s.size : Int) - 4 = n)
    (hcmp : ((fourS (crcF 0 (s.extract 0 n))).toList == (s.extract n s.size).toList) = true) :
    Calls Try.prog 22 #[.string s] w fun e w' => e = .returned (.agg #[.string (s.extract 0 n), .int .i64 0, .int .i64 0]) ∧ Below w.heap.size w w' := by
  have b0 : (0 : Int) ≤ (n : Int) := by omega
  have b1 : (n : Int) ≤ (s.size : Int) := by omega
  have b2 : n ≤ s.size := by omega
  have HZ := Lib.hid (show (s.extract 0 n).size ≤ maxLen by unfold maxLen; simp; omega)
  have HC := Lib.hid (crcF_bound 0 (s.extract 0 n))
  have hw : IntKind.i64.wrap (n : Int) = n := IntWalk.i64_in _ (by omega)
  go_enter Try.func22, Try.ntmps22
  go_wp2_with fail
  go_region_held3 (fun _ => True) (trivial) (first | (go_at_call 29; refine (specCrc_any _ _ _ HZ.out (by omega) (by omega)).mono ?_; rintro e w' ⟨rfl, rfl⟩) | (go_at_call 31; refine (four_any _ _ HC.out.1 HC.out.2).mono ?_; rintro e w' ⟨rfl, hb⟩))
  obtain ⟨q0, q1, q2, f0, f1, f2⟩ := res_cells hb (res_size _ _)
  go_wp2
  exact bodyPost_ret (v := .agg #[.string (s.extract 0 n), .int .i64 0, .int .i64 0]) (by simp [results, Try.results22, go_sem, q0, q1, q2]) rfl ⟨rfl, res_below hb (res_size _ _) _ _ _⟩

set_option maxHeartbeats 400000 in
theorem implUnseal_long (s : ByteArray) (w : World) (hs : s.size ≤ maxLen) (h8 : 8000 < s.size) :
    Calls Try.prog 23 #[.string s] w fun e w' => e = .returned (.agg #[.string ⟨#[]⟩, .int .i64 0, .int .i64 2]) ∧ Below w.heap.size w w' := by
  unfold maxLen at hs
  go_enter Try.func23, Try.ntmps23
  go_wp2_with fail
  exact bodyPost_ret (v := .agg #[.string ⟨#[]⟩, .int .i64 0, .int .i64 2]) (by simp [results, Try.results23, go_sem]) rfl ⟨rfl, (Below.refl _ _).alloc (Nat.le_refl _) _⟩

set_option maxHeartbeats 400000 in
theorem implUnseal_short (s : ByteArray) (w : World) (hs : s.size ≤ maxLen) (h8 : s.size < 4) :
    Calls Try.prog 23 #[.string s] w fun e w' => e = .returned (.agg #[.string ⟨#[]⟩, .int .i64 0, .int .i64 4]) ∧ Below w.heap.size w w' := by
  unfold maxLen at hs
  go_enter Try.func23, Try.ntmps23
  go_wp2_with fail
  exact bodyPost_ret (v := .agg #[.string ⟨#[]⟩, .int .i64 0, .int .i64 4]) (by simp [results, Try.results23, go_sem]) rfl ⟨rfl, (Below.refl _ _).alloc (Nat.le_refl _) _⟩

set_option maxHeartbeats 400000 in
theorem specUnseal_long (s : ByteArray) (w : World) (hs : s.size ≤ maxLen) (h8 : 8000 < s.size) :
    Calls Try.prog 22 #[.string s] w fun e w' => e = .returned (.agg #[.string ⟨#[]⟩, .int .i64 0, .int .i64 2]) ∧ Below w.heap.size w w' := by
  unfold maxLen at hs
  go_enter Try.func22, Try.ntmps22
  go_wp2_with fail
  exact bodyPost_ret (v := .agg #[.string ⟨#[]⟩, .int .i64 0, .int .i64 2]) (by simp [results, Try.results22, go_sem]) rfl ⟨rfl, (Below.refl _ _).alloc (Nat.le_refl _) _⟩

set_option maxHeartbeats 400000 in
theorem specUnseal_short (s : ByteArray) (w : World) (hs : s.size ≤ maxLen) (h8 : s.size < 4) :
    Calls Try.prog 22 #[.string s] w fun e w' => e = .returned (.agg #[.string ⟨#[]⟩, .int .i64 0, .int .i64 4]) ∧ Below w.heap.size w w' := by
  unfold maxLen at hs
  go_enter Try.func22, Try.ntmps22
  go_wp2_with fail
  exact bodyPost_ret (v := .agg #[.string ⟨#[]⟩, .int .i64 0, .int .i64 4]) (by simp [results, Try.results22, go_sem]) rfl ⟨rfl, (Below.refl _ _).alloc (Nat.le_refl _) _⟩

set_option maxHeartbeats 400000 in
theorem eqText_same (x : ByteArray) (a c : Int) (w : World) :
    Calls Try.prog 24 #[.agg #[.string x, .int .i64 a, .int .i64 c], .agg #[.string x, .int .i64 a, .int .i64 c]] w fun e w' => e = .returned (.bool true) ∧ Below w.heap.size w w' := by
  go_enter Try.func24, Try.ntmps24
  go_wp2_with fail
  go_ret
  exact ⟨rfl, ((Below.refl _ _).alloc (Nat.le_refl _) _).alloc (by simp) _⟩

set_option maxHeartbeats 400000 in
theorem unsealLaw_of (s x : ByteArray) (c : Int) (w : World) (h : s.size ≤ 1048576)
    (hS : ∀ w, Calls Try.prog 22 #[.string s] w fun e w' => e = .returned (.agg #[.string x, .int .i64 0, .int .i64 c]) ∧ Below w.heap.size w w')
    (hI : ∀ w, Calls Try.prog 23 #[.string s] w fun e w' => e = .returned (.agg #[.string x, .int .i64 0, .int .i64 c]) ∧ Below w.heap.size w w') :
    Calls Try.prog 9 #[.string s] w fun e w' => e = .returned (.bool true) ∧ Below w.heap.size w w' := by
  have HS := Lib.hid hS
  have HI := Lib.hid hI
  clear hS hI
  go_enter Try.func9, Try.ntmps9
  go_wp2_with fail
  refine (HS.out _).mono ?_
  rintro e w1 ⟨rfl, hb1⟩
  go_wp2_with fail
  refine (HI.out _).mono ?_
  rintro e w2 ⟨rfl, hb2⟩
  obtain ⟨q0, q1, q2⟩ := laid_cells hb2 (laid_size _ _)
  have hz : w1.heap.size < w2.heap.size := Nat.lt_of_lt_of_le (laid_size _ _) hb2.size
  have hbb := (hb1.alloc hb1.size _).trans (hb2.mono (Nat.le_trans hb1.size (Nat.le_of_lt (laid_size _ _))))
  have HB := Lib.hid hbb
  clear hb1 hb2 hbb
  go_wp2_with fail
  refine (eqText_same x 0 c _).mono ?_
  rintro e w3 ⟨rfl, hb3⟩
  have hb' := (HB.out.alloc HB.out.size _).trans (hb3.mono (Nat.le_trans HB.out.size (Nat.le_of_lt (laid_size _ _))))
  clear hb3
  go_wp2_with fail
  go_ret
  exact ⟨rfl, hb'⟩

set_option maxHeartbeats 400000 in
theorem unsealLaw (s : ByteArray) (w : World) (hs : s.size ≤ maxLen) :
    Calls Try.prog 9 #[.string s] w fun e w' => e = .returned (.bool true) ∧ Below w.heap.size w w' := by
  by_cases h : 1048576 < s.size
  · unfold maxLen at hs
    go_enter Try.func9, Try.ntmps9
    go_wp2_with fail
    go_ret
    exact ⟨rfl, Below.refl _ _⟩
  by_cases h8 : 8000 < s.size
  · exact unsealLaw_of s _ 2 w (by omega) (fun w => specUnseal_long s w hs h8) (fun w => implUnseal_long s w hs h8)
  by_cases h4 : s.size < 4
  · exact unsealLaw_of s _ 4 w (by omega) (fun w => specUnseal_short s w hs h4) (fun w => implUnseal_short s w hs h4)
  have hn : (s.size : Int) - 4 = ((s.size - 4 : Nat) : Int) := by omega
  generalize s.size - 4 = n at hn
  cases hc : ((s.extract n s.size).toList == (fourS (crcF 0 (s.extract 0 n))).toList)
  · exact unsealLaw_of s _ 5 w (by omega) (fun w => specUnseal_bad s n w (by omega) (by omega) hn (by rw [BEq.comm]; exact hc)) (fun w => implUnseal_bad s n w (by omega) (by omega) hn hc)
  · exact unsealLaw_of s _ 0 w (by omega) (fun w => specUnseal_good s n w (by omega) (by omega) hn (by rw [BEq.comm]; exact hc)) (fun w => implUnseal_good s n w (by omega) (by omega) hn hc)
end Go.Proofs.Yteboacnkjlmfkaa
