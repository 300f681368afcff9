/- RecordBytes: the specification's and the program's. -/
import Derived.Test.YthkbllkhomjmbaaDoorQM0
import Derived.Test.YthkbllkhomjmbaaDoorM1
namespace Go.Proofs.YthkbllkhomjmbaaDoor
open Go.RowKit

set_option maxRecDepth 100000 in
set_option maxHeartbeats 2000000 in
theorem specRecBs (n k t f : Int) (d : ByteArray) (w : World) :
    Calls Tryd.prog 93 #[.int .i64 n, .agg #[.int .i64 k, .int .i64 t, .int .i64 f, .string d]] w fun e w' => e = .returned (.string (recBs n (k, t, f, d))) ∧ Below w.heap.size w w' := by
  obtain ⟨R, hR⟩ : ∃ R, R = recBs n (k, t, f, d) := ⟨_, rfl⟩
  rw [← hR]
  unfold recBs recB at hR
  have HR := Lib.hid hR
  clear hR
  dsimp only at HR
  have HB := Lib.hid (below_alloc1 w (.cells #[.int .i64 k, .int .i64 t, .int .i64 f, .string d] 41))
  have HX := Lib.hid (bx_new w 41 #[.int .i64 k, .int .i64 t, .int .i64 f, .string d])
  cases hn : isT n with
  | false =>
    have hr : R = ⟨#[]⟩ := by rw [HR.out, hn]; rfl
    clear HR
    subst hr
    have HN := Lib.hid hn
    clear hn
    go_enter Tryd.func93, Tryd.ntmps93
    go_wp2_with fail
    refine (is_dec n 0 1000000 false _ HN.out).mono ?_
    rintro e w1 ⟨rfl, rfl⟩
    go_wp2_with fail
    go_ret
    exact ⟨rfl, HB.out⟩
  | true =>
  have HN := Lib.hid hn
  have hnb := (isT_iff n).1 hn
  cases hs : stepB 8 k t f d with
  | false =>
    have hr : R = ⟨#[]⟩ := by rw [HR.out, hn, hs]; rfl
    clear HR
    subst hr
    have HS := Lib.hid hs
    clear hs hn
    go_enter Tryd.func93, Tryd.ntmps93
    go_wp2_with fail
    refine (is_dec n 0 1000000 true _ HN.out).mono ?_
    rintro e w1 ⟨rfl, rfl⟩
    obtain ⟨c0, c1, c2, c3, -⟩ := keepQ HX.out (Below.refl _ _)
    go_wp2_with fail
    refine (specRightS k t f 8 d _).mono ?_
    rintro e w1 ⟨rfl, hb⟩
    have HB2 := Lib.hid (below_more HB.out hb)
    clear hb
    rw [HS.out]
    go_wp2_with fail
    go_ret
    exact ⟨rfl, HB2.out⟩
  | true =>
    have hr : R = sealS (putS n ++ stepS k t f d) := by rw [HR.out, hn, hs]; rfl
    clear HR
    rw [hr]
    clear hr
    have z := recE_size (n := n) (s := (k, t, f, d)) (by unfold recB; rw [hn, hs]; rfl)
    unfold recE at z
    dsimp only at z
    have HZ := Lib.hid (show (putS n ++ stepS k t f d).size ≤ 7996 by omega)
    rw [ByteArray.size_append] at z
    have a1 : ¬ (9223372036854775807 < (putS n).size + (stepS k t f d).size) := by omega
    have HS := Lib.hid hs
    clear hs hn z
    unfold sealS
    go_enter Tryd.func93, Tryd.ntmps93
    go_wp2_with fail
    refine (is_dec n 0 1000000 true _ HN.out).mono ?_
    rintro e w1 ⟨rfl, rfl⟩
    obtain ⟨c0, c1, c2, c3, -⟩ := keepQ HX.out (Below.refl _ _)
    go_wp2_with fail
    refine (specRightS k t f 8 d _).mono ?_
    rintro e w1 ⟨rfl, hb⟩
    have hx := HX.out.next hb
    replace c0 := hx.q0
    replace c1 := hx.q1
    replace c2 := hx.q2
    replace c3 := hx.q3
    replace HB := Lib.hid (below_more HB.out hb)
    replace HX := Lib.hid hx
    clear hb hx
    rw [HS.out]
    go_wp2_with fail
    go_region_held3 (fun w' => w'.cell? ⟨w.heap.size, 0, none⟩ = some (.int .i64 k) ∧ w'.cell? ⟨w.heap.size, 1, none⟩ = some (.int .i64 t) ∧ w'.cell? ⟨w.heap.size, 2, none⟩ = some (.int .i64 f) ∧ w'.cell? ⟨w.heap.size, 3, none⟩ = some (.string d) ∧ Below w1.heap.size w1 w')
      (first | (exact keepQ HX.out (Below.refl _ _).drew) | (go_split_ands; exact keepQ HX.out (below_more (by assumption) hbn)))
      ((first | (go_at_call 13; go_split_ands; refine (specPut _ _ ?_ ?_).mono ?_; omega; omega; rintro e wn ⟨rfl, hbn⟩) | (go_at_call 82; go_split_ands; refine (specL06 k t f d _ HS.out).mono ?_; rintro e wn ⟨rfl, hbn⟩) | (go_at_call 21; go_split_ands; refine (specSeal_any _ _ HZ.out).mono ?_; rintro e wn ⟨rfl, hbn⟩)))
    all_goals go_split_ands
    all_goals have HB2 := Lib.hid (HB.out.trans (Below.mono (B := w1.heap.size) (by assumption) HB.out.size))
    all_goals (go_wp2_with fail; go_ret; exact ⟨rfl, HB2.out⟩)

theorem joined_twoA (a b : ByteArray) (w : World) (h : a.size + b.size ≤ 10000) :
    Calls Tryd.prog 66 #[.slice (some ⟨w.heap.size, 0, none⟩) 2 2] (w.alloc (.cells #[.string a, .string b] 9)) fun e w' => e = .returned (.string (a ++ b)) ∧ Below (w.alloc (.cells #[.string a, .string b] 9)).heap.size (w.alloc (.cells #[.string a, .string b] 9)) w' := by
  have := joined_cat _ [a, b] _ (rd_new w 9 [a, b] 2) (by simp) (by rw [cat_two, ByteArray.size_append]; omega)
  rw [cat_two] at this
  exact this
end Go.Proofs.YthkbllkhomjmbaaDoor
