/- StepBytes: the specification's and the program's. -/
import Derived.Test.YthkbllkhomjmbaaDoorBSRight
import Derived.Test.YthkbllkhomjmbaaDoorBIRight
import Derived.Test.YthkbllkhomjmbaaDoorText
namespace Go.Proofs.YthkbllkhomjmbaaDoor
open Go.RowKit

def stepS (k t f : Int) (d : ByteArray) : ByteArray := putS k ++ putS t ++ putS f ++ (putS d.size ++ d)
def stepBs (k t f : Int) (d : ByteArray) : ByteArray := if stepB 8 k t f d then stepS k t f d else ⟨#[]⟩
theorem ok_bounds {k t f : Int} {d : ByteArray} (h : stepB 8 k t f d = true) : 1 ≤ k ∧ k ≤ 5 ∧ 0 ≤ t ∧ t ≤ 7 ∧ 0 ≤ f ∧ f ≤ 1000000 ∧ d.size ≤ 8 := by
  obtain ⟨-, h⟩ := (stepB_iff ..).1 h
  rcases h with ⟨rfl, h1, rfl, h2⟩ | ⟨rfl, h1, rfl, h2⟩ | ⟨rfl, h1, h3, h2⟩ | ⟨rfl, h1, h3, h2⟩ | ⟨rfl, rfl, h3, h2⟩
  · have := (inB_iff _ _).1 h1; omega
  · have := (inB_iff _ _).1 h1; omega
  · have := (inB_iff _ _).1 h1; have := (inB_iff _ _).1 h3; omega
  · have := (inB_iff _ _).1 h1; have := (inB_iff _ _).1 h3; omega
  · have := (isT_iff _).1 h3; omega
theorem keepQ {W W' : World} {n : Nat} {T : TypeId} {a b c d : Value} (X : Bx W n T #[a, b, c, d]) (h : Below W.heap.size W W') :
    W'.cell? ⟨n, 0, none⟩ = some a ∧ W'.cell? ⟨n, 1, none⟩ = some b ∧ W'.cell? ⟨n, 2, none⟩ = some c ∧ W'.cell? ⟨n, 3, none⟩ = some d ∧ Below W.heap.size W W' :=
  have h' := X.next h
  ⟨h'.q0, h'.q1, h'.q2, h'.q3, h⟩
theorem below_more {W a b : World} (h : Below W.heap.size W a) (k : Below a.heap.size a b) : Below W.heap.size W b := h.trans (k.mono h.size)


set_option maxRecDepth 100000 in
set_option maxHeartbeats 2000000 in
theorem specL06 (k t f : Int) (d : ByteArray) (w : World) (h : stepB 8 k t f d = true) :
    Calls Tryd.prog 82 #[.agg #[.int .i64 k, .int .i64 t, .int .i64 f, .string d]] w fun e w' => e = .returned (.string (stepS k t f d)) ∧ Below w.heap.size w w' := by
  obtain ⟨k0, k1, t0, t1, f0, f1, d1⟩ := ok_bounds h
  have p0 := putS_size k (by omega) (by omega)
  have p1 := putS_size t (by omega) (by omega)
  have p2 := putS_size f (by omega) (by omega)
  have p3 := putS_size d.size (by omega) (by omega)
  have a1 : ¬ (9223372036854775807 < (putS k).size + (putS t).size) := by omega
  have a2 : ¬ (9223372036854775807 < (putS k).size + (putS t).size + (putS f).size) := by omega
  have a3 : ¬ (9223372036854775807 < (putS k).size + (putS t).size + (putS f).size + ((putS d.size).size + d.size)) := by omega
  clear h
  have HB := Lib.hid (below_alloc1 w (.cells #[.int .i64 k, .int .i64 t, .int .i64 f, .string d] 41))
  have hx := bx_new w 41 #[.int .i64 k, .int .i64 t, .int .i64 f, .string d]
  go_enter Tryd.func82, Tryd.ntmps82
  go_wp2_with fail
  generalize w.alloc (.cells #[.int .i64 k, .int .i64 t, .int .i64 f, .string d] 41) = w1 at *
  have c0 := hx.q0
  have c1 := hx.q1
  have c2 := hx.q2
  have c3 := hx.q3
  have HX := Lib.hid hx
  clear hx
  go_region_held3 (fun w' => w'.cell? ⟨w.heap.size, 0, none⟩ = some (.int .i64 k) ∧ w'.cell? ⟨w.heap.size, 1, none⟩ = some (.int .i64 t) ∧ w'.cell? ⟨w.heap.size, 2, none⟩ = some (.int .i64 f) ∧ w'.cell? ⟨w.heap.size, 3, none⟩ = some (.string d) ∧ Below w1.heap.size w1 w')
    (first | (exact keepQ HX.out (Below.refl _ _).drew) | (go_split_ands; exact keepQ HX.out (below_more (by assumption) hbn)))
    ((first | (go_at_call 13; go_split_ands; refine (specPut _ _ ?_ ?_).mono ?_; omega; omega; rintro e wn ⟨rfl, hbn⟩) | (go_at_call 17; go_split_ands; refine (specText_any d _ ?_).mono ?_; omega; rintro e wn ⟨rfl, hbn⟩)))
  all_goals go_split_ands
  all_goals have HB2 := Lib.hid (HB.out.trans (Below.mono (B := w1.heap.size) (by assumption) HB.out.size))
  all_goals (go_wp2_with fail; go_ret; exact ⟨rfl, HB2.out⟩)

set_option maxRecDepth 100000 in
set_option maxHeartbeats 2000000 in
theorem specStepBs (k t f : Int) (d : ByteArray) (w : World) :
    Calls Tryd.prog 35 #[.agg #[.int .i64 k, .int .i64 t, .int .i64 f, .string d]] w fun e w' => e = .returned (.string (stepBs k t f d)) ∧ Below w.heap.size w w' := by
  obtain ⟨R, hR⟩ : ∃ R, R = stepBs k t f d := ⟨_, rfl⟩
  rw [← hR]
  unfold stepBs at hR
  have HR := Lib.hid hR
  clear hR
  have HB := Lib.hid (below_alloc1 w (.cells #[.int .i64 k, .int .i64 t, .int .i64 f, .string d] 41))
  have HX := Lib.hid (bx_new w 41 #[.int .i64 k, .int .i64 t, .int .i64 f, .string d])
  cases hs : stepB 8 k t f d with
  | false =>
    have hr : R = ⟨#[]⟩ := by rw [HR.out, hs]; rfl
    clear HR
    subst hr
    have HS := Lib.hid hs
    clear hs
    go_enter Tryd.func35, Tryd.ntmps35
    go_wp2_with fail
    refine (specRightS k t f 8 d _).mono ?_
    rintro e w1 ⟨rfl, hb⟩
    have HB2 := Lib.hid (below_more HB.out hb)
    clear hb
    rw [HS.out]
    go_wp2_with fail
    go_ret
    exact ⟨rfl, HB2.out⟩
  | true =>
    have hr : R = stepS k t f d := by rw [HR.out, hs]; rfl
    clear HR
    rw [hr]
    clear hr
    have HS := Lib.hid hs
    clear hs
    go_enter Tryd.func35, Tryd.ntmps35
    go_wp2_with fail
    refine (specRightS k t f 8 d _).mono ?_
    rintro e w1 ⟨rfl, hb⟩
    have hx := HX.out.next hb
    have c0 := hx.q0
    have c1 := hx.q1
    have c2 := hx.q2
    have c3 := hx.q3
    have HB2 := Lib.hid (below_more HB.out hb)
    clear hb hx
    rw [HS.out]
    go_wp2_with fail
    refine (specL06 k t f d _ HS.out).mono ?_
    rintro e w2 ⟨rfl, hb⟩
    have HB3 := Lib.hid (below_more HB2.out hb)
    clear hb c0 c1 c2 c3
    go_wp2_with fail
    go_ret
    exact ⟨rfl, HB3.out⟩

set_option maxRecDepth 100000 in
set_option maxHeartbeats 2000000 in
theorem implStepBs (k t f : Int) (d : ByteArray) (w : World) :
    Calls Tryd.prog 29 #[.agg #[.int .i64 k, .int .i64 t, .int .i64 f, .string d]] w fun e w' => e = .returned (.string (stepBs k t f d)) ∧ Below w.heap.size w w' := by
  obtain ⟨R, hR⟩ : ∃ R, R = stepBs k t f d := ⟨_, rfl⟩
  rw [← hR]
  unfold stepBs at hR
  have HR := Lib.hid hR
  clear hR
  have HB := Lib.hid (below_alloc1 w (.cells #[.int .i64 k, .int .i64 t, .int .i64 f, .string d] 41))
  have HX := Lib.hid (bx_new w 41 #[.int .i64 k, .int .i64 t, .int .i64 f, .string d])
  cases hs : stepB 8 k t f d with
  | false =>
    have hr : R = ⟨#[]⟩ := by rw [HR.out, hs]; rfl
    clear HR
    subst hr
    have HS := Lib.hid hs
    clear hs
    go_enter Tryd.func29, Tryd.ntmps29
    go_wp2_with fail
    refine (implRight k t f 8 d _).mono ?_
    rintro e w1 ⟨rfl, hb⟩
    have HB2 := Lib.hid (below_more HB.out hb)
    clear hb
    rw [HS.out]
    go_wp2_with fail
    go_ret
    exact ⟨rfl, HB2.out⟩
  | true =>
    have hr : R = stepS k t f d := by rw [HR.out, hs]; rfl
    clear HR
    rw [hr]
    clear hr
    have h := hs
    have HS := Lib.hid hs
    clear hs
    obtain ⟨k0, k1, t0, t1, f0, f1, d1⟩ := ok_bounds h
    have p0 := putS_size k (by omega) (by omega)
    have p1 := putS_size t (by omega) (by omega)
    have p2 := putS_size f (by omega) (by omega)
    have p3 := putS_size d.size (by omega) (by omega)
    have a1 : ¬ (9223372036854775807 < (putS k).size + (putS t).size) := by omega
    have a2 : ¬ (9223372036854775807 < (putS k).size + (putS t).size + (putS f).size) := by omega
    have a3 : ¬ (9223372036854775807 < (putS k).size + (putS t).size + (putS f).size + ((putS d.size).size + d.size)) := by omega
    clear h
    go_enter Tryd.func29, Tryd.ntmps29
    go_wp2_with fail
    refine (implRight k t f 8 d _).mono ?_
    rintro e w1 ⟨rfl, hb⟩
    have hx := HX.out.next hb
    have c0 := hx.q0
    have c1 := hx.q1
    have c2 := hx.q2
    have c3 := hx.q3
    replace HB := Lib.hid (below_more HB.out hb)
    replace HX := Lib.hid hx
    clear hb hx
    rw [HS.out]
    go_wp2_with fail
    go_region_held3 (fun w' => w'.cell? ⟨w.heap.size, 0, none⟩ = some (.int .i64 k) ∧ w'.cell? ⟨w.heap.size, 1, none⟩ = some (.int .i64 t) ∧ w'.cell? ⟨w.heap.size, 2, none⟩ = some (.int .i64 f) ∧ w'.cell? ⟨w.heap.size, 3, none⟩ = some (.string d) ∧ Below w1.heap.size w1 w')
      (first | (exact keepQ HX.out (Below.refl _ _).drew) | (go_split_ands; exact keepQ HX.out (below_more (by assumption) hbn)) | (go_split_ands; exact keepQ HX.out (below_more (by assumption) (below_alloc1 _ _))))
      ((first | (go_at_call 12; go_split_ands; refine (implPut _ _ ?_ ?_).mono ?_; omega; omega; rintro e wn ⟨rfl, hbn⟩) | (go_at_call 16; go_split_ands; refine (implText_any d _ ?_).mono ?_; omega; rintro e wn ⟨rfl, hbn⟩) | (go_at_call 66; refine (joined_four (putS k) (putS t) (putS f) (putS d.size ++ d) _ (by rw [ByteArray.size_append]; omega)).mono ?_; rintro e wn ⟨rfl, hbn⟩)))
    all_goals go_split_ands
    all_goals have HB2 := Lib.hid (HB.out.trans (Below.mono (B := w1.heap.size) (by assumption) HB.out.size))
    all_goals (go_wp2_with fail; go_ret; exact ⟨rfl, HB2.out⟩)
end Go.Proofs.YthkbllkhomjmbaaDoor
