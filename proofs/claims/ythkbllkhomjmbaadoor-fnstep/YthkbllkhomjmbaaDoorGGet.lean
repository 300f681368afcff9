/- GetNum: the model and the program answer alike. -/
import Derived.Test.YthkbllkhomjmbaaDoorGAs
namespace Go.Proofs.YthkbllkhomjmbaaDoor
open Go.RowKit

/-- What package errors keeps in its variable errorType. -/
def Laid (w : World) : Prop := w.cell? ⟨0, 0, none⟩ = some (.iface 158 (.agg #[.pointer (some ⟨7, 81, none⟩)]))
theorem Laid.pos {w : World} (h : Laid w) : 0 < w.heap.size := by
  rcases Nat.lt_or_ge 0 w.heap.size with h0 | h1
  · exact h0
  · unfold Laid at h; simp [World.cell?, Array.getElem?_eq_none h1] at h
theorem Laid.alloc {w : World} (h : Laid w) (o : Obj) : Laid (w.alloc o) := by
  unfold Laid at *
  rw [World.cell?_alloc_lt _ _ ⟨0, 0, none⟩ (Laid.pos h)]; exact h
theorem Laid.below {w w' : World} (h : Laid w) (hb : Below w.heap.size w w') : Laid w' := by
  unfold Laid at *
  rw [hb.cell (p := ⟨0, 0, none⟩) (Laid.pos h)]; exact h

theorem goN_bad (s : ByteArray) (a : Nat) : ∀ f i u, ¬ (goN s a f i u).2.2 = 0 → goN s a f i u = (0, 0, (goN s a f i u).2.2)
  | 0, _, _, _ => rfl
  | f + 1, i, u, h => by
    rw [goN] at h ⊢
    by_cases h1 : s.size ≤ a + i
    · rw [if_pos h1]
    rw [if_neg h1] at h ⊢
    by_cases h2 : i = 9 ∧ 1 < byt s (a + i)
    · rw [if_pos h2]
    rw [if_neg h2] at h ⊢
    by_cases h3 : 128 ≤ byt s (a + i)
    · rw [if_pos h3] at h ⊢
      exact goN_bad s a f (i + 1) _ h
    rw [if_neg h3] at h ⊢
    by_cases h4 : byt s (a + i) = 0 ∧ 0 < i
    · rw [if_pos h4]
    · rw [if_neg h4] at h; simp at h

theorem asW_below (n : Int) (t : Addr) (w : World) {B : Nat} {w0 : World} (h : Below B w0 w) (hB : B ≤ w.heap.size) (ht : B ≤ t.block) : Below B w0 (asW n t w) := by
  unfold asW
  exact ((((h.alloc hB _).alloc (by simp; omega) _).alloc (by simp; omega) _).alloc (by simp; omega) _).setCell ht _

set_option maxHeartbeats 2000000 in
theorem implGet_ok (s : ByteArray) (p : Nat) (w : World) (hs : s.size ≤ 8000) (hp : (p : Int) ≤ 9223372036854775807) (n q : Int) (hR : goN s p 10 0 0 = (n, q, 0)) :
    Calls Tryd.prog 14 #[.string s, .int .i64 p] w fun e w' => e = .returned (numV (n, q, 0)) ∧ Below w.heap.size w w' := by
  have HR := Lib.hid hR
  clear hR
  go_enter Tryd.func14, Tryd.ntmps14
  go_wp2_with fail
  refine (read_any s p _ hs hp _ HR.out).mono ?_
  rintro e w' ⟨rfl, rfl⟩
  rw [readV_good]
  go_wp2_with fail
  refine (as_nil _ _).mono ?_
  rintro e w' ⟨rfl, rfl⟩
  go_wp2_with fail
  exact bodyPost_ret (v := numV (n, q, 0)) (by simp [numV, results, Tryd.results14, go_sem]) rfl ⟨rfl, by repeat (first | exact Below.refl _ _ | refine Below.alloc ?_ (by simp) _)⟩

set_option maxHeartbeats 2000000 in
theorem implGet_err (s : ByteArray) (p : Nat) (w : World) (hs : s.size ≤ 8000) (hp : (p : Int) ≤ 9223372036854775807) (hL : Laid w) (code : Int) (hne : ¬ code = 0) (hR : goN s p 10 0 0 = (0, 0, code)) :
    Calls Tryd.prog 14 #[.string s, .int .i64 p] w fun e w' => e = .returned (numV (0, 0, code)) ∧ Below w.heap.size w w' := by
  have HR := Lib.hid hR
  have HL := Lib.hid hL
  have HN := Lib.hid (readV_bad code hne)
  clear hR hL hne
  go_enter Tryd.func14, Tryd.ntmps14
  go_wp2_with fail
  refine (read_any s p _ hs hp _ HR.out).mono ?_
  rintro e w' ⟨rfl, rfl⟩
  rw [HN.out]
  go_wp2_with fail
  refine (as_hit code _ (.int .i64 0) _ ((HL.out.alloc _).alloc _) (by simp) (by simp)).mono ?_
  rintro e w' ⟨rfl, rfl⟩
  unfold asW
  go_wp2_with fail
  exact bodyPost_ret (v := numV (0, 0, code)) (by simp [numV, results, Tryd.results14, go_sem]) rfl ⟨rfl, by repeat (first | exact Below.refl _ _ | refine Below.alloc ?_ (by simp; omega) _ | refine Below.alloc ?_ (by simp) _)⟩

/-- What decoding an integer gives, at every offset. -/
def getR (s : ByteArray) (x : Int) : Int × Int × Int := if 8000 < s.size then (0, 0, 2) else if x < 0 then (0, 0, 1) else goN s x.toNat 10 0 0

set_option maxHeartbeats 400000 in
theorem specGet_long (s : ByteArray) (x : Int) (w : World) (hs : s.size ≤ maxLen) (h : 8000 < s.size) :
    Calls Tryd.prog 87 #[.string s, .int .i64 x] w fun e w' => e = .returned (numV (0, 0, 2)) ∧ Below w.heap.size w w' := by
  unfold maxLen at hs
  go_enter Tryd.func87, Tryd.ntmps87
  go_wp2_with fail
  exact bodyPost_ret (v := numV (0, 0, 2)) (by simp [numV, results, Tryd.results87, go_sem]) rfl ⟨rfl, (Below.refl _ _).alloc (Nat.le_refl _) _⟩
set_option maxHeartbeats 400000 in
theorem specGet_neg (s : ByteArray) (x : Int) (w : World) (hs : s.size ≤ 8000) (h : x < 0) :
    Calls Tryd.prog 87 #[.string s, .int .i64 x] w fun e w' => e = .returned (numV (0, 0, 1)) ∧ Below w.heap.size w w' := by
  go_enter Tryd.func87, Tryd.ntmps87
  go_wp2_with fail
  exact bodyPost_ret (v := numV (0, 0, 1)) (by simp [numV, results, Tryd.results87, go_sem]) rfl ⟨rfl, (Below.refl _ _).alloc (Nat.le_refl _) _⟩
set_option maxHeartbeats 400000 in
theorem implGet_long (s : ByteArray) (x : Int) (w : World) (hs : s.size ≤ maxLen) (h : 8000 < s.size) :
    Calls Tryd.prog 14 #[.string s, .int .i64 x] w fun e w' => e = .returned (numV (0, 0, 2)) ∧ Below w.heap.size w w' := by
  unfold maxLen at hs
  go_enter Tryd.func14, Tryd.ntmps14
  go_wp2_with fail
  exact bodyPost_ret (v := numV (0, 0, 2)) (by simp [numV, results, Tryd.results14, go_sem]) rfl ⟨rfl, (Below.refl _ _).alloc (Nat.le_refl _) _⟩
set_option maxHeartbeats 400000 in
theorem implGet_neg (s : ByteArray) (x : Int) (w : World) (hs : s.size ≤ 8000) (h : x < 0) :
    Calls Tryd.prog 14 #[.string s, .int .i64 x] w fun e w' => e = .returned (numV (0, 0, 1)) ∧ Below w.heap.size w w' := by
  go_enter Tryd.func14, Tryd.ntmps14
  go_wp2_with fail
  exact bodyPost_ret (v := numV (0, 0, 1)) (by simp [numV, results, Tryd.results14, go_sem]) rfl ⟨rfl, (Below.refl _ _).alloc (Nat.le_refl _) _⟩

theorem specGet_any (s : ByteArray) (x : Int) (w : World) (hs : s.size ≤ maxLen) (hx : x ≤ 9223372036854775807) :
    Calls Tryd.prog 87 #[.string s, .int .i64 x] w fun e w' => e = .returned (numV (getR s x)) ∧ Below w.heap.size w w' := by
  unfold getR
  by_cases h : 8000 < s.size
  · rw [if_pos h]; exact specGet_long s x w hs h
  rw [if_neg h]
  by_cases h0 : x < 0
  · rw [if_pos h0]; exact specGet_neg s x w (by omega) h0
  rw [if_neg h0]
  obtain ⟨p, rfl⟩ := Int.eq_ofNat_of_zero_le (show 0 ≤ x by omega)
  exact specGet_mid s p w (by omega) hx _ rfl

theorem implGet_any (s : ByteArray) (x : Int) (w : World) (hs : s.size ≤ maxLen) (hx : x ≤ 9223372036854775807) (hL : Laid w) :
    Calls Tryd.prog 14 #[.string s, .int .i64 x] w fun e w' => e = .returned (numV (getR s x)) ∧ Below w.heap.size w w' := by
  unfold getR
  by_cases h : 8000 < s.size
  · rw [if_pos h]; exact implGet_long s x w hs h
  rw [if_neg h]
  by_cases h0 : x < 0
  · rw [if_pos h0]; exact implGet_neg s x w (by omega) h0
  rw [if_neg h0]
  obtain ⟨p, rfl⟩ := Int.eq_ofNat_of_zero_le (show 0 ≤ x by omega)
  rw [Int.toNat_natCast]
  by_cases hc : (goN s p 10 0 0).2.2 = 0
  · have e : goN s p 10 0 0 = ((goN s p 10 0 0).1, (goN s p 10 0 0).2.1, 0) := by rw [← hc]
    rw [e]
    exact implGet_ok s p w (by omega) hx _ _ e
  · have e := goN_bad s p 10 0 0 hc
    rw [e]
    exact implGet_err s p w (by omega) hx hL _ hc e

end Go.Proofs.YthkbllkhomjmbaaDoor
