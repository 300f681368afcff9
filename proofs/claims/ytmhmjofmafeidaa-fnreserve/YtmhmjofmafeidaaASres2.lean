/- spec.Reserve. -/
import Derived.Test.YtmhmjofmafeidaaASres
import Derived.Test.YtmhmjofmafeidaaAOutL
namespace Go.Proofs.Ytmhmjofmafeidaa
open Go.RowKit

set_option maxRecDepth 100000 in
set_option maxHeartbeats 4000000 in
theorem specReserve (u v : Value) (a b : List Int) (n : Int) (w : World) (h1 : Rd w u a.length 1 (ints a)) (h2 : Rd w v b.length 1 (ints b)) (n1 : a.length ≤ 1048576) (n2 : b.length ≤ 1048576) (i0 : -9223372036854775808 ≤ n) (i1 : n ≤ 9223372036854775807) :
    Calls Try.prog 31 #[u, v, .int .i64 n] w (OwnL w (resO a b n)) := by
  obtain ⟨ua, uc, rfl, -⟩ := id h1.2
  obtain ⟨va, vc, rfl, -⟩ := id h2.2
  have HA := Lib.hid h1
  have HB := Lib.hid h2
  clear h1 h2
  by_cases hbig : 400 < a.length ∨ 400 < b.length
  · rw [resO_big a b n hbig]
    by_cases ha : 400 < a.length
    · have d0 : decide ((400 : Int) < (a.length : Int)) = true := decide_eq_true (by omega)
      go_enter Try.func31, Try.ntmps31
      go_wp2_with fail
      refine bodyPost_ret (v := .agg #[.slice none 0 0, .int .i64 2]) (by simp [results, Try.results31, go_sem]) rfl ⟨_, rfl, own_nil _ _ _ _ _, ?_⟩
      exact below_alloc1 w _
    · have d0 : decide ((400 : Int) < (a.length : Int)) = false := decide_eq_false (by omega)
      have d1 : decide ((400 : Int) < (b.length : Int)) = true := decide_eq_true (by omega)
      go_enter Try.func31, Try.ntmps31
      go_wp2_with fail
      refine bodyPost_ret (v := .agg #[.slice none 0 0, .int .i64 2]) (by simp [results, Try.results31, go_sem]) rfl ⟨_, rfl, own_nil _ _ _ _ _, ?_⟩
      exact below_alloc1 w _
  have d0 : decide ((400 : Int) < (a.length : Int)) = false := decide_eq_false (by omega)
  have d1 : decide ((400 : Int) < (b.length : Int)) = false := decide_eq_false (by omega)
  have g0 := below_alloc1 w (.cells #[.slice none 0 0, .int .i64 0] 30)
  have X0 := Lib.hid (bx_new w 30 #[.slice none 0 0, .int .i64 0])
  have HA1 := Lib.hid (HA.out.below g0 (Nat.le_refl _))
  have HB1 := Lib.hid (HB.out.below g0 (Nat.le_refl _))
  have hz := size_alloc1 w (.cells #[.slice none 0 0, .int .i64 0] 30)
  have G0 := Lib.hid g0
  clear g0
  obtain ⟨R, hR⟩ : ∃ R, R = resO a b n := ⟨_, rfl⟩
  rw [← hR]
  have HR := Lib.hid hR
  clear hR
  cases oa : okL a with
  | false =>
    go_enter Try.func31, Try.ntmps31
    go_wp2_with fail
    generalize w.alloc (.cells #[.slice none 0 0, .int .i64 0] 30) = W0 at *
    refine (specRightL _ a W0 HA1.out n1).mono ?_
    rintro e Wn ⟨rfl, hst⟩
    have hb := hst.below W0.heap.size
    have HA1 := Lib.hid (HA1.out.below hb (Nat.le_refl _))
    have HB1 := Lib.hid (HB1.out.below hb (Nat.le_refl _))
    have X0 := Lib.hid (X0.out.next hb)
    have G0 := Lib.hid (G0.out.trans (hb.mono (by have := G0.out.size; omega)))
    have hz := Nat.le_trans (Nat.le_of_eq hz.symm) hb.size
    clear hst hb
    rw [oa]
    have hRR : R = ([], 1) := by rw [HR.out]; exact resO_bad a b n hbig (by rw [oa]; simp)
    subst hRR
    have c0 := X0.out.cell 0
    have c1 := X0.out.cell 1
    have z0 := X0.out.frozen 0
    have z1 := X0.out.frozen 1
    simp at c0 c1
    go_wp2_with fail
    refine bodyPost_ret (v := .agg #[.slice none 0 0, .int .i64 1]) (by simp [results, Try.results31, go_sem, c0, c1]) rfl ⟨_, rfl, own_nil _ _ _ _ _, ?_⟩
    exact (G0.out.setCell (p := ⟨w.heap.size, 0, none⟩) (Nat.le_refl _) _).setCell (p := ⟨w.heap.size, 1, none⟩) (Nat.le_refl _) _
  | true =>
  cases ob : okL b with
  | false =>
    go_enter Try.func31, Try.ntmps31
    go_wp2_with fail
    generalize w.alloc (.cells #[.slice none 0 0, .int .i64 0] 30) = W0 at *
    refine (specRightL _ a W0 HA1.out n1).mono ?_
    rintro e Wn ⟨rfl, hst⟩
    have hb := hst.below W0.heap.size
    have HA1 := Lib.hid (HA1.out.below hb (Nat.le_refl _))
    have HB1 := Lib.hid (HB1.out.below hb (Nat.le_refl _))
    have X0 := Lib.hid (X0.out.next hb)
    have G0 := Lib.hid (G0.out.trans (hb.mono (by have := G0.out.size; omega)))
    have hz := Nat.le_trans (Nat.le_of_eq hz.symm) hb.size
    clear hst hb
    rw [oa]
    go_wp2_with fail
    refine (specRightL _ b Wn HB1.out n2).mono ?_
    rintro e Wm ⟨rfl, hst⟩
    have hb := hst.below Wn.heap.size
    have HA1 := Lib.hid (HA1.out.below hb (Nat.le_refl _))
    have HB1 := Lib.hid (HB1.out.below hb (Nat.le_refl _))
    have X0 := Lib.hid (X0.out.next hb)
    have G0 := Lib.hid (G0.out.trans (hb.mono G0.out.size))
    have hz := Nat.le_trans hz hb.size
    clear hst hb
    rw [ob]
    have hRR : R = ([], 1) := by rw [HR.out]; exact resO_bad a b n hbig (by rw [ob]; simp)
    subst hRR
    have c0 := X0.out.cell 0
    have c1 := X0.out.cell 1
    have z0 := X0.out.frozen 0
    have z1 := X0.out.frozen 1
    simp at c0 c1
    go_wp2_with fail
    refine bodyPost_ret (v := .agg #[.slice none 0 0, .int .i64 1]) (by simp [results, Try.results31, go_sem, c0, c1]) rfl ⟨_, rfl, own_nil _ _ _ _ _, ?_⟩
    exact (G0.out.setCell (p := ⟨w.heap.size, 0, none⟩) (Nat.le_refl _) _).setCell (p := ⟨w.heap.size, 1, none⟩) (Nat.le_refl _) _
  | true =>
  by_cases hneg : n < 0
  · have d2 : decide (n < 0) = true := decide_eq_true hneg
    go_enter Try.func31, Try.ntmps31
    go_wp2_with fail
    generalize w.alloc (.cells #[.slice none 0 0, .int .i64 0] 30) = W0 at *
    refine (specRightL _ a W0 HA1.out n1).mono ?_
    rintro e Wn ⟨rfl, hst⟩
    have hb := hst.below W0.heap.size
    have HA1 := Lib.hid (HA1.out.below hb (Nat.le_refl _))
    have HB1 := Lib.hid (HB1.out.below hb (Nat.le_refl _))
    have X0 := Lib.hid (X0.out.next hb)
    have G0 := Lib.hid (G0.out.trans (hb.mono (by have := G0.out.size; omega)))
    have hz := Nat.le_trans (Nat.le_of_eq hz.symm) hb.size
    clear hst hb
    rw [oa]
    go_wp2_with fail
    refine (specRightL _ b Wn HB1.out n2).mono ?_
    rintro e Wm ⟨rfl, hst⟩
    have hb := hst.below Wn.heap.size
    have HA1 := Lib.hid (HA1.out.below hb (Nat.le_refl _))
    have HB1 := Lib.hid (HB1.out.below hb (Nat.le_refl _))
    have X0 := Lib.hid (X0.out.next hb)
    have G0 := Lib.hid (G0.out.trans (hb.mono G0.out.size))
    have hz := Nat.le_trans hz hb.size
    clear hst hb
    rw [ob]
    have hRR : R = ([], 1) := by rw [HR.out]; exact resO_bad a b n hbig (by omega)
    subst hRR
    have c0 := X0.out.cell 0
    have c1 := X0.out.cell 1
    have z0 := X0.out.frozen 0
    have z1 := X0.out.frozen 1
    simp at c0 c1
    go_wp2_with fail
    refine bodyPost_ret (v := .agg #[.slice none 0 0, .int .i64 1]) (by simp [results, Try.results31, go_sem, c0, c1]) rfl ⟨_, rfl, own_nil _ _ _ _ _, ?_⟩
    exact (G0.out.setCell (p := ⟨w.heap.size, 0, none⟩) (Nat.le_refl _) _).setCell (p := ⟨w.heap.size, 1, none⟩) (Nat.le_refl _) _
  have d2 : decide (n < 0) = false := decide_eq_false hneg
  have hfl := freeT_len a b 24
  go_enter Try.func31, Try.ntmps31
  go_wp2_with fail
  generalize w.alloc (.cells #[.slice none 0 0, .int .i64 0] 30) = W0 at *
  refine (specRightL _ a W0 HA1.out n1).mono ?_
  rintro e Wn ⟨rfl, hst⟩
  have hb := hst.below W0.heap.size
  have HA1 := Lib.hid (HA1.out.below hb (Nat.le_refl _))
  have HB1 := Lib.hid (HB1.out.below hb (Nat.le_refl _))
  have X0 := Lib.hid (X0.out.next hb)
  have G0 := Lib.hid (G0.out.trans (hb.mono (by have := G0.out.size; omega)))
  have hz := Nat.le_trans (Nat.le_of_eq hz.symm) hb.size
  clear hst hb
  rw [oa]
  go_wp2_with fail
  refine (specRightL _ b Wn HB1.out n2).mono ?_
  rintro e Wm ⟨rfl, hst⟩
  have hb := hst.below Wn.heap.size
  have HA1 := Lib.hid (HA1.out.below hb (Nat.le_refl _))
  have HB1 := Lib.hid (HB1.out.below hb (Nat.le_refl _))
  have X0 := Lib.hid (X0.out.next hb)
  have G0 := Lib.hid (G0.out.trans (hb.mono G0.out.size))
  have hz := Nat.le_trans hz hb.size
  clear hst hb
  rw [ob]
  go_wp2_with fail
  refine (specLRes _ _ a b n Wm HA1.out HB1.out n1 n2 i0 i1 (by omega)).mono ?_
  rintro e W1 ⟨fv, rfl, ho, hb⟩
  obtain ⟨fa, fc, rfl, -⟩ := id ho.2
  have hRR : R = lresO a b n := by rw [HR.out]; exact resO_l a b n hbig oa ob (by omega)
  subst hRR
  have X1 := Lib.hid (X0.out.next hb)
  have G1 := Lib.hid (G0.out.trans (hb.mono G0.out.size))
  have HO := Lib.hid (ho.lower (lo' := w.heap.size + 1) (by omega))
  clear ho hb
  have c0 := X1.out.cell 0
  have c1 := X1.out.cell 1
  have z0 := X1.out.frozen 0
  have z1 := X1.out.frozen 1
  simp at c0 c1
  go_wp2_with fail
  refine bodyPost_ret (v := .agg #[.slice fa (lresO a b n).1.length fc, .int .i64 (lresO a b n).2]) (by simp [results, Try.results31, go_sem, c0, c1]) rfl ⟨_, rfl, ?_, ?_⟩
  · refine ((HO.out.other ⟨w.heap.size, 0, none⟩ _ (fun k hk => ?_)).other ⟨w.heap.size, 1, none⟩ _ (fun k hk => ?_)).lower (by omega)
    · have := (HO.out.blk k hk).1
      simp; omega
    · have := (HO.out.blk k hk).1
      simp; omega
  · exact (G1.out.setCell (p := ⟨w.heap.size, 0, none⟩) (Nat.le_refl _) _).setCell (p := ⟨w.heap.size, 1, none⟩) (Nat.le_refl _) _
end Go.Proofs.Ytmhmjofmafeidaa
