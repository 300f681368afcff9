/- GetText: the model and the program answer alike. -/
import Derived.Test.YthkbllkhomjmbaaDoorGGet
import Derived.Deep.RegionHeld3
import Derived.Deep.DrawnRows
namespace Go.Proofs.YthkbllkhomjmbaaDoor
open Go.RowKit

attribute [local go_sem ↓] Go.wp_at_zero Go.wp_at_succ

theorem goN_ok (s : ByteArray) (a : Nat) : ∀ f i u, (goN s a f i u).2.2 = 0 → 0 ≤ (goN s a f i u).2.1 ∧ (goN s a f i u).2.1 ≤ s.size
  | 0, _, _, h => by simp [goN] at h
  | f + 1, i, u, h => by
    rw [goN] at h ⊢
    by_cases h1 : s.size ≤ a + i
    · rw [if_pos h1] at h; simp at h
    rw [if_neg h1] at h ⊢
    by_cases h2 : i = 9 ∧ 1 < byt s (a + i)
    · rw [if_pos h2] at h; simp at h
    rw [if_neg h2] at h ⊢
    by_cases h3 : 128 ≤ byt s (a + i)
    · rw [if_pos h3] at h ⊢
      exact goN_ok s a f (i + 1) _ h
    rw [if_neg h3] at h ⊢
    by_cases h4 : byt s (a + i) = 0 ∧ 0 < i
    · rw [if_pos h4] at h; simp at h
    · rw [if_neg h4]; simp; omega
theorem getR_ok (s : ByteArray) (x : Int) (h : (getR s x).2.2 = 0) : s.size ≤ 8000 ∧ 0 ≤ (getR s x).2.1 ∧ (getR s x).2.1 ≤ s.size := by
  unfold getR at *
  by_cases h8 : 8000 < s.size
  · rw [if_pos h8] at h; simp at h
  rw [if_neg h8] at h ⊢
  by_cases h0 : x < 0
  · rw [if_pos h0] at h; simp at h
  rw [if_neg h0] at h ⊢
  exact ⟨by omega, goN_ok s _ _ _ _ h⟩

theorem gres_cells {K : Nat} {w w' : World} {a b c : Value} {T : TypeId} (hb : Below K (w.alloc (.cells #[a, b, c] T)) w') (hK : w.heap.size < K) :
    (w'.cell? ⟨w.heap.size, 0, none⟩ = some a ∧ w'.cell? ⟨w.heap.size, 1, none⟩ = some b ∧ w'.cell? ⟨w.heap.size, 2, none⟩ = some c) ∧
    w'.frozen? ⟨w.heap.size, 0, none⟩ = false ∧ w'.frozen? ⟨w.heap.size, 1, none⟩ = false ∧ w'.frozen? ⟨w.heap.size, 2, none⟩ = false := by
  have hf : ∀ j, w'.frozen? ⟨w.heap.size, j, none⟩ = false := fun j =>
    (hb.frozen (p := ⟨w.heap.size, j, none⟩) hK).trans (World.frozen?_alloc_at #[a, b, c] T w.heap.size j rfl)
  exact ⟨laid_cells hb hK, hf 0, hf 1, hf 2⟩

theorem kept_two (w1 : World) (b : Nat) (u v t m q z : Value) :
    ((((w1.setCell ⟨b, 0, none⟩ u).setCell ⟨b, 1, none⟩ v).setCell ⟨b, 2, none⟩ t).alloc (.cells #[m, q, z] 26)).drew.cell? ⟨w1.heap.size, 0, none⟩ = some m ∧
    ((((w1.setCell ⟨b, 0, none⟩ u).setCell ⟨b, 1, none⟩ v).setCell ⟨b, 2, none⟩ t).alloc (.cells #[m, q, z] 26)).drew.cell? ⟨w1.heap.size, 1, none⟩ = some q := by
  constructor
  · show (World.alloc _ _).cell? _ = _
    rw [World.cell?_alloc_at _ _ _ _ (by simp)]; rfl
  · show (World.alloc _ _).cell? _ = _
    rw [World.cell?_alloc_at _ _ _ _ (by simp)]; rfl

theorem text_below {w w1 : World} {o : Obj} (hb : Below (w.alloc o).heap.size (w.alloc o) w1) (a b c : Value) (o' : Obj) :
    Below w.heap.size w ((((w1.setCell ⟨w.heap.size, 0, none⟩ a).setCell ⟨w.heap.size, 1, none⟩ b).setCell ⟨w.heap.size, 2, none⟩ c).alloc o') :=
  ((((((Below.refl _ w).alloc (Nat.le_refl _) o).trans (hb.mono (Nat.le_of_lt (laid_size _ _)))).setCell (p := ⟨w.heap.size, 0, none⟩) (Nat.le_refl _) a).setCell (p := ⟨w.heap.size, 1, none⟩) (Nat.le_refl _) b).setCell (p := ⟨w.heap.size, 2, none⟩) (Nat.le_refl _) c).alloc
    (by simp; exact Nat.le_of_lt (Nat.lt_of_lt_of_le (laid_size _ _) hb.size)) o'

set_option maxHeartbeats 1000000 in
theorem specText_A (s : ByteArray) (x : Int) (w : World) (hs : s.size ≤ maxLen) (hx : x ≤ 9223372036854775807) (c : Int) (hR : getR s x = (0, 0, c))
    (hc : (c != 0) = true) :
    Calls Tryd.prog 88 #[.string s, .int .i64 x] w fun e w' => e = .returned (textV ⟨#[]⟩ 0 c) ∧ Below w.heap.size w w' := by
  have HS := Lib.hid hs
  have HR := Lib.hid hR
  clear hs hR
  have hv : numV (0, 0, c) = .agg #[.int .i64 0, .int .i64 0, .int .i64 c] := rfl
  go_enter Tryd.func88, Tryd.ntmps88
  go_wp2_with fail
  refine (specGet_any s x _ HS.out hx).mono ?_
  rintro e w1 ⟨rfl, hb1⟩
  rw [HR.out, hv]
  obtain ⟨⟨q0, q1, q2⟩, f0, f1, f2⟩ := gres_cells hb1 (laid_size _ _)
  have hz : w.heap.size < w1.heap.size := Nat.lt_of_lt_of_le (laid_size _ _) hb1.size
  clear hv
  go_wp2_with fail
  exact bodyPost_ret (v := textV ⟨#[]⟩ 0 c) (by simp [textV, results, Tryd.results88, go_sem, q0, q1, q2, hz]) rfl ⟨rfl, text_below hb1 _ _ _ _⟩

set_option maxHeartbeats 1000000 in
theorem specText_B (s : ByteArray) (x : Int) (w : World) (hs : s.size ≤ maxLen) (hx : x ≤ 9223372036854775807) (n q : Int) (hR : getR s x = (n, q, 0))
    (hn : n < 0 ∨ 8000 < n) :
    Calls Tryd.prog 88 #[.string s, .int .i64 x] w fun e w' => e = .returned (textV ⟨#[]⟩ 0 3) ∧ Below w.heap.size w w' := by
  have HS := Lib.hid hs
  have HR := Lib.hid hR
  clear hs hR
  have hv : numV (n, q, 0) = .agg #[.int .i64 n, .int .i64 q, .int .i64 0] := rfl
  rcases hn with hn | hn
  all_goals
    go_enter Tryd.func88, Tryd.ntmps88
    go_wp2_with fail
    refine (specGet_any s x _ HS.out hx).mono ?_
    rintro e w1 ⟨rfl, hb1⟩
    rw [HR.out, hv]
    obtain ⟨⟨q0, q1, q2⟩, f0, f1, f2⟩ := gres_cells hb1 (laid_size _ _)
    have hz : w.heap.size < w1.heap.size := Nat.lt_of_lt_of_le (laid_size _ _) hb1.size
    clear hv
    go_wp2_with fail
    exact bodyPost_ret (v := textV ⟨#[]⟩ 0 3) (by simp [textV, results, Tryd.results88, go_sem, q0, q1, q2, hz]) rfl ⟨rfl, text_below hb1 _ _ _ _⟩

set_option maxHeartbeats 1000000 in
theorem specText_C (s : ByteArray) (x : Int) (w : World) (hs : s.size ≤ maxLen) (hx : x ≤ 9223372036854775807) (m q : Nat) (hR : getR s x = ((m : Int), (q : Int), 0))
    (h8 : s.size ≤ 8000) (hm : m ≤ 8000) (hq : s.size < q + m) (hq2 : q ≤ s.size) :
    Calls Tryd.prog 88 #[.string s, .int .i64 x] w fun e w' => e = .returned (textV ⟨#[]⟩ 0 4) ∧ Below w.heap.size w w' := by
  have HS := Lib.hid hs
  have HR := Lib.hid hR
  clear hs hR
  have hv : numV ((m : Int), (q : Int), 0) = .agg #[.int .i64 m, .int .i64 q, .int .i64 0] := rfl
  have b0 : (s.size : Int) - (m : Int) < (q : Int) := by omega
  have b1 : (s.size : Int) < (q : Int) + (m : Int) := by omega
  go_enter Tryd.func88, Tryd.ntmps88
  go_wp2_with fail
  refine (specGet_any s x _ HS.out hx).mono ?_
  rintro e w1 ⟨rfl, hb1⟩
  rw [HR.out, hv]
  obtain ⟨⟨q0, q1, q2⟩, f0, f1, f2⟩ := gres_cells hb1 (laid_size _ _)
  have hz : w.heap.size < w1.heap.size := Nat.lt_of_lt_of_le (laid_size _ _) hb1.size
  clear hv
  go_wp2_with fail
  exact bodyPost_ret (v := textV ⟨#[]⟩ 0 4) (by simp [textV, results, Tryd.results88, go_sem, q0, q1, q2, hz]) rfl ⟨rfl, text_below hb1 _ _ _ _⟩

set_option maxHeartbeats 1000000 in
theorem specText_D (s : ByteArray) (x : Int) (w : World) (hs : s.size ≤ maxLen) (hx : x ≤ 9223372036854775807) (m q : Nat) (hR : getR s x = ((m : Int), (q : Int), 0))
    (h8 : s.size ≤ 8000) (hm : m ≤ 8000) (hq : q + m ≤ s.size) :
    Calls Tryd.prog 88 #[.string s, .int .i64 x] w fun e w' => e = .returned (textV (s.extract q (q + m)) ((q : Int) + m) 0) ∧ Below w.heap.size w w' := by
  have HS := Lib.hid hs
  have HR := Lib.hid hR
  clear hs hR
  have hv : numV ((m : Int), (q : Int), 0) = .agg #[.int .i64 m, .int .i64 q, .int .i64 0] := rfl
  have b0 : (q : Int) ≤ (s.size : Int) - (m : Int) := by omega
  have b1 : (0 : Int) ≤ (q : Int) := by omega
  have b2 : (q : Int) ≤ (q : Int) + (m : Int) := by omega
  have b3 : (q : Int) + (m : Int) ≤ (s.size : Int) := by omega
  have ht : ((q : Int) + (m : Int)).toNat = q + m := by omega
  have hw : IntKind.i64.wrap ((q : Int) + m) = (q : Int) + m := IntWalk.i64_in _ (by omega)
  go_enter Tryd.func88, Tryd.ntmps88
  go_wp2_with fail
  refine (specGet_any s x _ HS.out hx).mono ?_
  rintro e w1 ⟨rfl, hb1⟩
  rw [HR.out, hv]
  obtain ⟨⟨q0, q1, q2⟩, f0, f1, f2⟩ := gres_cells hb1 (laid_size _ _)
  have hz : w.heap.size < w1.heap.size := Nat.lt_of_lt_of_le (laid_size _ _) hb1.size
  clear hv
  go_wp2_with fail
  go_region_held3 (fun w' => w'.cell? ⟨w1.heap.size, 0, none⟩ = some (.int .i64 m) ∧ w'.cell? ⟨w1.heap.size, 1, none⟩ = some (.int .i64 q)) (first | (with_reducible exact kept_two _ _ _ _ _ _ _ _) | go_keep) (fail)
  go_wp2_with fail
  exact bodyPost_ret (v := textV (s.extract q (q + m)) ((q : Int) + m) 0) (by simp [textV, results, Tryd.results88, go_sem, q0, q1, q2, hz]) rfl ⟨rfl, (text_below hb1 _ _ _ _).drew⟩

set_option maxHeartbeats 1000000 in
theorem implText_A (s : ByteArray) (x : Int) (w : World) (hs : s.size ≤ maxLen) (hx : x ≤ 9223372036854775807) (hL : Laid w) (c : Int) (hR : getR s x = (0, 0, c))
    (hc : (c != 0) = true) :
    Calls Tryd.prog 18 #[.string s, .int .i64 x] w fun e w' => e = .returned (textV ⟨#[]⟩ 0 c) ∧ Below w.heap.size w w' := by
  have HS := Lib.hid hs
  have HR := Lib.hid hR
  have HL := Lib.hid (hL.alloc (.cells #[.string ⟨#[]⟩, .int .i64 0, .int .i64 0] 31))
  clear hL
  clear hs hR
  have hv : numV (0, 0, c) = .agg #[.int .i64 0, .int .i64 0, .int .i64 c] := rfl
  go_enter Tryd.func18, Tryd.ntmps18
  go_wp2_with fail
  refine (implGet_any s x _ HS.out hx HL.out).mono ?_
  rintro e w1 ⟨rfl, hb1⟩
  rw [HR.out, hv]
  obtain ⟨⟨q0, q1, q2⟩, f0, f1, f2⟩ := gres_cells hb1 (laid_size _ _)
  have hz : w.heap.size < w1.heap.size := Nat.lt_of_lt_of_le (laid_size _ _) hb1.size
  clear hv
  go_wp2_with fail
  exact bodyPost_ret (v := textV ⟨#[]⟩ 0 c) (by simp [textV, results, Tryd.results18, go_sem, q0, q1, q2, hz]) rfl ⟨rfl, text_below hb1 _ _ _ _⟩

set_option maxHeartbeats 1000000 in
theorem implText_B (s : ByteArray) (x : Int) (w : World) (hs : s.size ≤ maxLen) (hx : x ≤ 9223372036854775807) (hL : Laid w) (n q : Int) (hR : getR s x = (n, q, 0))
    (hn : n < 0 ∨ 8000 < n) :
    Calls Tryd.prog 18 #[.string s, .int .i64 x] w fun e w' => e = .returned (textV ⟨#[]⟩ 0 3) ∧ Below w.heap.size w w' := by
  have HS := Lib.hid hs
  have HR := Lib.hid hR
  have HL := Lib.hid (hL.alloc (.cells #[.string ⟨#[]⟩, .int .i64 0, .int .i64 0] 31))
  clear hL
  clear hs hR
  have hv : numV (n, q, 0) = .agg #[.int .i64 n, .int .i64 q, .int .i64 0] := rfl
  rcases hn with hn | hn
  all_goals
    go_enter Tryd.func18, Tryd.ntmps18
    go_wp2_with fail
    refine (implGet_any s x _ HS.out hx HL.out).mono ?_
    rintro e w1 ⟨rfl, hb1⟩
    rw [HR.out, hv]
    obtain ⟨⟨q0, q1, q2⟩, f0, f1, f2⟩ := gres_cells hb1 (laid_size _ _)
    have hz : w.heap.size < w1.heap.size := Nat.lt_of_lt_of_le (laid_size _ _) hb1.size
    clear hv
    go_wp2_with fail
    exact bodyPost_ret (v := textV ⟨#[]⟩ 0 3) (by simp [textV, results, Tryd.results18, go_sem, q0, q1, q2, hz]) rfl ⟨rfl, text_below hb1 _ _ _ _⟩

set_option maxHeartbeats 1000000 in
theorem implText_C (s : ByteArray) (x : Int) (w : World) (hs : s.size ≤ maxLen) (hx : x ≤ 9223372036854775807) (hL : Laid w) (m q : Nat) (hR : getR s x = ((m : Int), (q : Int), 0))
    (h8 : s.size ≤ 8000) (hm : m ≤ 8000) (hq : s.size < q + m) (hq2 : q ≤ s.size) :
    Calls Tryd.prog 18 #[.string s, .int .i64 x] w fun e w' => e = .returned (textV ⟨#[]⟩ 0 4) ∧ Below w.heap.size w w' := by
  have HS := Lib.hid hs
  have HR := Lib.hid hR
  have HL := Lib.hid (hL.alloc (.cells #[.string ⟨#[]⟩, .int .i64 0, .int .i64 0] 31))
  clear hL
  clear hs hR
  have hv : numV ((m : Int), (q : Int), 0) = .agg #[.int .i64 m, .int .i64 q, .int .i64 0] := rfl
  have b0 : (s.size : Int) - (m : Int) < (q : Int) := by omega
  have b1 : (s.size : Int) < (q : Int) + (m : Int) := by omega
  go_enter Tryd.func18, Tryd.ntmps18
  go_wp2_with fail
  refine (implGet_any s x _ HS.out hx HL.out).mono ?_
  rintro e w1 ⟨rfl, hb1⟩
  rw [HR.out, hv]
  obtain ⟨⟨q0, q1, q2⟩, f0, f1, f2⟩ := gres_cells hb1 (laid_size _ _)
  have hz : w.heap.size < w1.heap.size := Nat.lt_of_lt_of_le (laid_size _ _) hb1.size
  clear hv
  go_wp2_with fail
  exact bodyPost_ret (v := textV ⟨#[]⟩ 0 4) (by simp [textV, results, Tryd.results18, go_sem, q0, q1, q2, hz]) rfl ⟨rfl, text_below hb1 _ _ _ _⟩

set_option maxHeartbeats 1000000 in
theorem implText_D (s : ByteArray) (x : Int) (w : World) (hs : s.size ≤ maxLen) (hx : x ≤ 9223372036854775807) (hL : Laid w) (m q : Nat) (hR : getR s x = ((m : Int), (q : Int), 0))
    (h8 : s.size ≤ 8000) (hm : m ≤ 8000) (hq : q + m ≤ s.size) :
    Calls Tryd.prog 18 #[.string s, .int .i64 x] w fun e w' => e = .returned (textV (s.extract q (q + m)) ((q : Int) + m) 0) ∧ Below w.heap.size w w' := by
  have HS := Lib.hid hs
  have HR := Lib.hid hR
  have HL := Lib.hid (hL.alloc (.cells #[.string ⟨#[]⟩, .int .i64 0, .int .i64 0] 31))
  clear hL
  clear hs hR
  have hv : numV ((m : Int), (q : Int), 0) = .agg #[.int .i64 m, .int .i64 q, .int .i64 0] := rfl
  have b0 : (q : Int) ≤ (s.size : Int) - (m : Int) := by omega
  have b1 : (0 : Int) ≤ (q : Int) := by omega
  have b2 : (q : Int) ≤ (q : Int) + (m : Int) := by omega
  have b3 : (q : Int) + (m : Int) ≤ (s.size : Int) := by omega
  have ht : ((q : Int) + (m : Int)).toNat = q + m := by omega
  have hw : IntKind.i64.wrap ((q : Int) + m) = (q : Int) + m := IntWalk.i64_in _ (by omega)
  go_enter Tryd.func18, Tryd.ntmps18
  go_wp2_with fail
  refine (implGet_any s x _ HS.out hx HL.out).mono ?_
  rintro e w1 ⟨rfl, hb1⟩
  rw [HR.out, hv]
  obtain ⟨⟨q0, q1, q2⟩, f0, f1, f2⟩ := gres_cells hb1 (laid_size _ _)
  have hz : w.heap.size < w1.heap.size := Nat.lt_of_lt_of_le (laid_size _ _) hb1.size
  clear hv
  go_wp2_with fail
  exact bodyPost_ret (v := textV (s.extract q (q + m)) ((q : Int) + m) 0) (by simp [textV, results, Tryd.results18, go_sem, q0, q1, q2, hz]) rfl ⟨rfl, text_below hb1 _ _ _ _⟩

end Go.Proofs.YthkbllkhomjmbaaDoor
