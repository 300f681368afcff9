/- impl.Reserve. -/
import Derived.Test.YtmhmjofmafeidaaASel
import Derived.Test.YtmhmjofmafeidaaAOutL
namespace Go.Proofs.Ytmhmjofmafeidaa
open Go.RowKit

set_option maxRecDepth 100000 in
set_option maxHeartbeats 4000000 in
theorem implReserve (u v : Value) (a b : List Int) (n : Int) (w : World) (h1 : Rd w u a.length 1 (ints a)) (h2 : Rd w v b.length 1 (ints b)) (n1 : a.length ≤ 1048576) (n2 : b.length ≤ 1048576) (i0 : -9223372036854775808 ≤ n) (i1 : n ≤ 9223372036854775807) :
    Calls Try.prog 30 #[u, v, .int .i64 n] w (OwnL w (resO a b n)) := by
  obtain ⟨ua, uc, rfl, -⟩ := id h1.2
  obtain ⟨va, vc, rfl, -⟩ := id h2.2
  have HA := Lib.hid h1
  have HB := Lib.hid h2
  clear h1 h2
  by_cases hbig : 400 < a.length ∨ 400 < b.length
  · rw [resO_big a b n hbig]
    by_cases ha : 400 < a.length
    · have d0 : decide ((400 : Int) < (a.length : Int)) = true := decide_eq_true (by omega)
      go_enter Try.func30, Try.ntmps30
      go_wp2_with fail
      refine bodyPost_ret (v := .agg #[.slice none 0 0, .int .i64 2]) (by simp [results, Try.results30, go_sem]) rfl ⟨_, rfl, own_nil _ _ _ _ _, ?_⟩
      exact below_alloc1 w _
    · have d0 : decide ((400 : Int) < (a.length : Int)) = false := decide_eq_false (by omega)
      have d1 : decide ((400 : Int) < (b.length : Int)) = true := decide_eq_true (by omega)
      go_enter Try.func30, Try.ntmps30
      go_wp2_with fail
      refine bodyPost_ret (v := .agg #[.slice none 0 0, .int .i64 2]) (by simp [results, Try.results30, go_sem]) rfl ⟨_, rfl, own_nil _ _ _ _ _, ?_⟩
      exact below_alloc1 w _
  have d0 : decide ((400 : Int) < (a.length : Int)) = false := decide_eq_false (by omega)
  have d1 : decide ((400 : Int) < (b.length : Int)) = false := decide_eq_false (by omega)
  have g0 := below_alloc1 w (.cells #[.slice none 0 0, .int .i64 0] 30)
  have X0 := Lib.hid (bx_new w 30 #[.slice none 0 0, .int .i64 0])
  have HA1 := Lib.hid (HA.out.below g0 (Nat.le_refl _))
  have HB1 := Lib.hid (HB.out.below g0 (Nat.le_refl _))
  have hz := size_alloc1 w (.cells #[.slice none 0 0, .int .i64 0] 30)
  have G0 := Lib.hid g0
  clear g0
  obtain ⟨R, hR⟩ : ∃ R, R = resO a b n := ⟨_, rfl⟩
  rw [← hR]
  have HR := Lib.hid hR
  clear hR
  cases oa : okL a with
  | false =>
    go_enter Try.func30, Try.ntmps30
    go_wp2_with fail
    generalize w.alloc (.cells #[.slice none 0 0, .int .i64 0] 30) = W0 at *
    refine (implRightL _ a W0 HA1.out n1).mono ?_
    rintro e Wn ⟨rfl, hw⟩
    rw [hw]
    clear hw Wn
    rw [oa]
    have hRR : R = ([], 1) := by rw [HR.out]; exact resO_bad a b n hbig (by rw [oa]; simp)
    subst hRR
    have c0 := X0.out.cell 0
    have c1 := X0.out.cell 1
    have z0 := X0.out.frozen 0
    have z1 := X0.out.frozen 1
    simp at c0 c1
    go_wp2_with fail
    refine bodyPost_ret (v := .agg #[.slice none 0 0, .int .i64 1]) (by simp [results, Try.results30, go_sem, c0, c1]) rfl ⟨_, rfl, own_nil _ _ _ _ _, ?_⟩
    exact (G0.out.setCell (p := ⟨w.heap.size, 0, none⟩) (Nat.le_refl _) _).setCell (p := ⟨w.heap.size, 1, none⟩) (Nat.le_refl _) _
  | true =>
  cases ob : okL b with
  | false =>
    go_enter Try.func30, Try.ntmps30
    go_wp2_with fail
    generalize w.alloc (.cells #[.slice none 0 0, .int .i64 0] 30) = W0 at *
    refine (implRightL _ a W0 HA1.out n1).mono ?_
    rintro e Wn ⟨rfl, hw⟩
    rw [hw]
    clear hw Wn
    rw [oa]
    go_wp2_with fail
    refine (implRightL _ b W0 HB1.out n2).mono ?_
    rintro e Wn ⟨rfl, hw⟩
    rw [hw]
    clear hw Wn
    rw [ob]
    have hRR : R = ([], 1) := by rw [HR.out]; exact resO_bad a b n hbig (by rw [ob]; simp)
    subst hRR
    have c0 := X0.out.cell 0
    have c1 := X0.out.cell 1
    have z0 := X0.out.frozen 0
    have z1 := X0.out.frozen 1
    simp at c0 c1
    go_wp2_with fail
    refine bodyPost_ret (v := .agg #[.slice none 0 0, .int .i64 1]) (by simp [results, Try.results30, go_sem, c0, c1]) rfl ⟨_, rfl, own_nil _ _ _ _ _, ?_⟩
    exact (G0.out.setCell (p := ⟨w.heap.size, 0, none⟩) (Nat.le_refl _) _).setCell (p := ⟨w.heap.size, 1, none⟩) (Nat.le_refl _) _
  | true =>
  by_cases hneg : n < 0
  · have d2 : decide (n < 0) = true := decide_eq_true hneg
    go_enter Try.func30, Try.ntmps30
    go_wp2_with fail
    generalize w.alloc (.cells #[.slice none 0 0, .int .i64 0] 30) = W0 at *
    refine (implRightL _ a W0 HA1.out n1).mono ?_
    rintro e Wn ⟨rfl, hw⟩
    rw [hw]
    clear hw Wn
    rw [oa]
    go_wp2_with fail
    refine (implRightL _ b W0 HB1.out n2).mono ?_
    rintro e Wn ⟨rfl, hw⟩
    rw [hw]
    clear hw Wn
    rw [ob]
    have hRR : R = ([], 1) := by rw [HR.out]; exact resO_bad a b n hbig (by omega)
    subst hRR
    have c0 := X0.out.cell 0
    have c1 := X0.out.cell 1
    have z0 := X0.out.frozen 0
    have z1 := X0.out.frozen 1
    simp at c0 c1
    go_wp2_with fail
    refine bodyPost_ret (v := .agg #[.slice none 0 0, .int .i64 1]) (by simp [results, Try.results30, go_sem, c0, c1]) rfl ⟨_, rfl, own_nil _ _ _ _ _, ?_⟩
    exact (G0.out.setCell (p := ⟨w.heap.size, 0, none⟩) (Nat.le_refl _) _).setCell (p := ⟨w.heap.size, 1, none⟩) (Nat.le_refl _) _
  have d2 : decide (n < 0) = false := decide_eq_false hneg
  have hfl := freeT_len a b 24
  have HFL := Lib.hid (show freeL a b = freeT a b 24 by unfold freeL; rw [oa, ob]; rfl)
  go_enter Try.func30, Try.ntmps30
  go_wp2_with fail
  generalize w.alloc (.cells #[.slice none 0 0, .int .i64 0] 30) = W0 at *
  refine (implRightL _ a W0 HA1.out n1).mono ?_
  rintro e Wn ⟨rfl, hw⟩
  rw [hw]
  clear hw Wn
  rw [oa]
  go_wp2_with fail
  refine (implRightL _ b W0 HB1.out n2).mono ?_
  rintro e Wn ⟨rfl, hw⟩
  rw [hw]
  clear hw Wn
  rw [ob]
  go_wp2_with fail
  refine (implFree _ _ a b W0 HA1.out HB1.out n1 n2).mono ?_
  rintro e W1 ⟨fv, rfl, hg, hb⟩
  rw [HFL.out] at hg
  obtain ⟨fa, fc, rfl⟩ := hg.form
  have X1 := Lib.hid (X0.out.next hb)
  have G1 := Lib.hid (G0.out.trans (hb.mono (by omega)))
  have HG := Lib.hid hg
  have hs1 := hb.size
  clear hg hb
  by_cases hfew : ((freeT a b 24).length : Int) < n
  · have d3 : decide (((freeT a b 24).length : Int) < n) = true := decide_eq_true hfew
    have hRR : R = ([], 11) := by rw [HR.out]; exact resO_few a b n hbig ⟨oa, ob, by omega⟩ hfew
    subst hRR
    have c0 := X1.out.cell 0
    have c1 := X1.out.cell 1
    have z0 := X1.out.frozen 0
    have z1 := X1.out.frozen 1
    simp at c0 c1
    go_wp2_with fail
    refine bodyPost_ret (v := .agg #[.slice none 0 0, .int .i64 11]) (by simp [results, Try.results30, go_sem, c0, c1]) rfl ⟨_, rfl, own_nil _ _ _ _ _, ?_⟩
    exact (G1.out.setCell (p := ⟨w.heap.size, 0, none⟩) (Nat.le_refl _) _).setCell (p := ⟨w.heap.size, 1, none⟩) (Nat.le_refl _) _
  have d3 : decide (((freeT a b 24).length : Int) < n) = false := decide_eq_false hfew
  obtain ⟨N, rfl⟩ : ∃ N : Nat, n = (N : Int) := ⟨n.toNat, by omega⟩
  have hRR : R = (selL (freeT a b 24) N, 0) := by rw [HR.out]; exact resO_ok a b N hbig ⟨oa, ob⟩ (by omega)
  subst hRR
  clear i0 i1
  go_wp2_with fail
  refine (selected_any _ (freeT a b 24) N W0.heap.size W1 HG.out hs1 (freeT_ok a b) (by omega)).mono ?_
  rintro e W2 ⟨sv, rfl, ho, hb⟩
  obtain ⟨sa, sc, rfl, -⟩ := id ho.2
  have hsl := selL_len (freeT a b 24) N (by omega)
  have X2 := Lib.hid (X1.out.next hb)
  have G2 := Lib.hid (G1.out.trans (hb.mono G1.out.size))
  have HO := Lib.hid (ho.lower (lo' := w.heap.size + 1) (by omega))
  clear ho hb
  have c0 := X2.out.cell 0
  have c1 := X2.out.cell 1
  have z0 := X2.out.frozen 0
  have z1 := X2.out.frozen 1
  simp at c0 c1
  go_wp2_with fail
  refine bodyPost_ret (v := .agg #[.slice sa N sc, .int .i64 0]) (by simp [results, Try.results30, go_sem, c0, c1]) rfl ⟨_, rfl, ?_, ?_⟩
  · show Own _ _ _ (selL (freeT a b 24) N).length 1 _
    rw [hsl]
    refine ((HO.out.other ⟨w.heap.size, 0, none⟩ _ (fun k hk => ?_)).other ⟨w.heap.size, 1, none⟩ _ (fun k hk => ?_)).lower (by omega)
    · have := (HO.out.blk k hk).1
      simp; omega
    · have := (HO.out.blk k hk).1
      simp; omega
  · exact (G2.out.setCell (p := ⟨w.heap.size, 0, none⟩) (Nat.le_refl _) _).setCell (p := ⟨w.heap.size, 1, none⟩) (Nat.le_refl _) _
end Go.Proofs.Ytmhmjofmafeidaa
