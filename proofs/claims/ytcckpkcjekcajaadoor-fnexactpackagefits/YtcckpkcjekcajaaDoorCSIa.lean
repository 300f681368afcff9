/- The specification's ImageApply, whole. -/
import Derived.Test.YtcckpkcjekcajaaDoorM3
namespace Go.Proofs.YtcckpkcjekcajaaDoor
open Go.RowKit

theorem ownNil (w : World) (lo sz : Nat) : Own w lo (.slice none 0 0) 0 sz [] := ⟨by simp, _, _, rfl, fun h => absurd h (Nat.lt_irrefl 0)⟩
set_option maxRecDepth 100000 in
set_option maxHeartbeats 1000000 in
theorem specIll7 (x : Int) (w : World) :
    Calls Tryd.prog 43 #[.int .i64 x] w fun e w' => e = .returned (.agg #[.slice none 0 0, .int .i64 x]) ∧ Below w.heap.size w w' := by
  have G0 := Lib.hid (below_alloc1 w (.cells #[.slice none 0 0, .int .i64 0] 28))
  go_enter Tryd.func43, Tryd.ntmps43
  go_wp2_with fail
  refine bodyPost_ret (v := .agg #[.slice none 0 0, .int .i64 x]) (by simp [results, Tryd.results43, go_sem]) rfl ⟨rfl, ?_⟩
  first
    | exact (G0.out.setCell (p := ⟨w.heap.size, 0, none⟩) (Nat.le_refl _) _).setCell (p := ⟨w.heap.size, 1, none⟩) (Nat.le_refl _) _
    | exact below_alloc1 w _

set_option maxRecDepth 100000 in
set_option maxHeartbeats 2000000 in
theorem specImageApply (v u : Value) (image : List ByteArray) (l : List stpT) (w : World) (h : Rd w v image.length 1 (strs image)) (hl : Rd w u l.length 4 (stpCs l)) (hn : image.length ≤ 1048576) (hm : l.length ≤ 1048576) :
    Calls Tryd.prog 11 #[v, u] w (OwnZ w (applyR image l)) := by
  obtain ⟨a, c, rfl, -⟩ := id h.2
  obtain ⟨a', c', rfl, -⟩ := id hl.2
  obtain ⟨R, hR⟩ : ∃ R, R = applyR image l := ⟨_, rfl⟩
  rw [← hR]
  have HR := Lib.hid hR
  clear hR
  have g0 := below_alloc1 w (.cells #[.slice none 0 0, .int .i64 0] 28)
  have X0 := Lib.hid (bx_new w 28 #[.slice none 0 0, .int .i64 0])
  have HA := Lib.hid (h.below g0 (Nat.le_refl _))
  have HL := Lib.hid (hl.below g0 (Nat.le_refl _))
  have hz := size_alloc1 w (.cells #[.slice none 0 0, .int .i64 0] 28)
  have G0 := Lib.hid g0
  clear g0 h hl
  by_cases b0 : 400 < image.length
  · have hr : R = ([], 2) := by rw [HR.out]; exact applyR_size (by omega)
    subst hr
    clear HR
    have d0 : decide ((400 : Int) < (image.length : Int)) = true := decide_eq_true (by omega)
    go_enter Tryd.func11, Tryd.ntmps11
    go_wp2_with fail
    generalize w.alloc (.cells #[.slice none 0 0, .int .i64 0] 28) = W0 at *
    refine (specIll7 2 _).mono ?_
    rintro e W9 ⟨rfl, hb⟩
    have hx := X0.out.next hb
    have c0 := hx.cell 0
    have c1 := hx.cell 1
    have z0 := hx.frozen 0
    have z1 := hx.frozen 1
    simp at c0 c1
    have G9 := Lib.hid (G0.out.trans (hb.mono (by omega)))
    clear hb hx
    go_wp2_with fail
    refine bodyPost_ret (v := .agg #[.slice none 0 0, .int .i64 2]) (by simp [results, Tryd.results11, go_sem, c0, c1]) rfl ⟨_, rfl, ownNil _ _ _, ?_⟩
    exact (G9.out.setCell (p := ⟨w.heap.size, 0, none⟩) (Nat.le_refl _) _).setCell (p := ⟨w.heap.size, 1, none⟩) (Nat.le_refl _) _
  have d0 : decide ((400 : Int) < (image.length : Int)) = false := decide_eq_false (by omega)
  by_cases b1 : 400 < l.length
  · have hr : R = ([], 2) := by rw [HR.out]; exact applyR_size (by omega)
    subst hr
    clear HR
    have d1 : decide ((400 : Int) < (l.length : Int)) = true := decide_eq_true (by omega)
    go_enter Tryd.func11, Tryd.ntmps11
    go_wp2_with fail
    generalize w.alloc (.cells #[.slice none 0 0, .int .i64 0] 28) = W0 at *
    refine (specIll7 2 _).mono ?_
    rintro e W9 ⟨rfl, hb⟩
    have hx := X0.out.next hb
    have c0 := hx.cell 0
    have c1 := hx.cell 1
    have z0 := hx.frozen 0
    have z1 := hx.frozen 1
    simp at c0 c1
    have G9 := Lib.hid (G0.out.trans (hb.mono (by omega)))
    clear hb hx
    go_wp2_with fail
    refine bodyPost_ret (v := .agg #[.slice none 0 0, .int .i64 2]) (by simp [results, Tryd.results11, go_sem, c0, c1]) rfl ⟨_, rfl, ownNil _ _ _, ?_⟩
    exact (G9.out.setCell (p := ⟨w.heap.size, 0, none⟩) (Nat.le_refl _) _).setCell (p := ⟨w.heap.size, 1, none⟩) (Nat.le_refl _) _
  have d1 : decide ((400 : Int) < (l.length : Int)) = false := decide_eq_false (by omega)
  have NB := Lib.hid (show ¬ (400 < image.length ∨ 400 < l.length) by omega)
  cases hi : imgB image with
  | false =>
    have hr : R = ([], 1) := by rw [HR.out]; exact applyR_form NB.out hi
    subst hr
    have HI := Lib.hid hi
    clear HR hi
    go_enter Tryd.func11, Tryd.ntmps11
    go_wp2_with fail
    generalize w.alloc (.cells #[.slice none 0 0, .int .i64 0] 28) = W0 at *
    refine (specImg _ image _ HA.out hn).mono ?_
    rintro e w1 ⟨rfl, rfl⟩
    rw [HI.out]
    go_wp2_with fail
    refine (specIll7 1 _).mono ?_
    rintro e W9 ⟨rfl, hb⟩
    have hx := X0.out.next hb
    have c0 := hx.cell 0
    have c1 := hx.cell 1
    have z0 := hx.frozen 0
    have z1 := hx.frozen 1
    simp at c0 c1
    have G9 := Lib.hid (G0.out.trans (hb.mono (by omega)))
    clear hb hx
    go_wp2_with fail
    refine bodyPost_ret (v := .agg #[.slice none 0 0, .int .i64 1]) (by simp [results, Tryd.results11, go_sem, c0, c1]) rfl ⟨_, rfl, ownNil _ _ _, ?_⟩
    exact (G9.out.setCell (p := ⟨w.heap.size, 0, none⟩) (Nat.le_refl _) _).setCell (p := ⟨w.heap.size, 1, none⟩) (Nat.le_refl _) _
  | true =>
    have HI := Lib.hid hi
    clear hi
    obtain ⟨C, hC⟩ : ∃ C, C = codeS l (image.length : Int) := ⟨_, rfl⟩
    have HC := Lib.hid hC
    clear hC
    by_cases hc0 : C = 0
    rotate_left
    · have hr : R = ([], C) := by rw [HR.out, HC.out]; exact applyR_code NB.out HI.out (by rw [← HC.out]; exact hc0)
      subst hr
      have dc : (C != 0) = true := by simpa using hc0
      clear HR hc0
      go_enter Tryd.func11, Tryd.ntmps11
      go_wp2_with fail
      generalize w.alloc (.cells #[.slice none 0 0, .int .i64 0] 28) = W0 at *
      refine (specImg _ image _ HA.out hn).mono ?_
      rintro e w1 ⟨rfl, rfl⟩
      rw [HI.out]
      go_wp2_with fail
      have hs := specCode _ l (image.length : Int) W0 HL.out hm
      rw [← HC.out] at hs
      refine hs.mono ?_
      clear hs
      rintro e W1 ⟨rfl, hb⟩
      replace X0 := Lib.hid (X0.out.next hb)
      replace G0 := Lib.hid (G0.out.trans (hb.mono (by omega)))
      have hz1 := hb.size
      clear hb
      go_wp2_with fail
      refine (specIll7 C _).mono ?_
      rintro e W9 ⟨rfl, hb⟩
      have hx := X0.out.next hb
      have c0 := hx.cell 0
      have c1 := hx.cell 1
      have z0 := hx.frozen 0
      have z1 := hx.frozen 1
      simp at c0 c1
      have G9 := Lib.hid (G0.out.trans (hb.mono (by omega)))
      clear hb hx
      go_wp2_with fail
      refine bodyPost_ret (v := .agg #[.slice none 0 0, .int .i64 C]) (by simp [results, Tryd.results11, go_sem, c0, c1]) rfl ⟨_, rfl, ownNil _ _ _, ?_⟩
      exact (G9.out.setCell (p := ⟨w.heap.size, 0, none⟩) (Nat.le_refl _) _).setCell (p := ⟨w.heap.size, 1, none⟩) (Nat.le_refl _) _
    subst hc0
    have hc := HC.out.symm
    have hr : R = (applyL image l, 0) := by rw [HR.out]; exact applyR_ok NB.out HI.out hc
    subst hr
    clear HR
    go_enter Tryd.func11, Tryd.ntmps11
    go_wp2_with fail
    generalize w.alloc (.cells #[.slice none 0 0, .int .i64 0] 28) = W0 at *
    refine (specImg _ image _ HA.out hn).mono ?_
    rintro e w1 ⟨rfl, rfl⟩
    rw [HI.out]
    go_wp2_with fail
    have hs := specCode _ l (image.length : Int) W0 HL.out hm
    rw [hc] at hs
    refine hs.mono ?_
    clear hs hc
    rintro e W1 ⟨rfl, hb⟩
    replace X0 := Lib.hid (X0.out.next hb)
    replace G0 := Lib.hid (G0.out.trans (hb.mono (by omega)))
    replace HA := Lib.hid (HA.out.below hb (Nat.le_refl _))
    replace HL := Lib.hid (HL.out.below hb (Nat.le_refl _))
    have hz1 := hb.size
    clear hb
    go_wp2_with fail
    refine (specApply _ _ image l W1 HA.out HL.out ((imgB_iff _).1 HI.out) HC.out.symm).mono ?_
    rintro e W2 ⟨v2, rfl, ho, hb⟩
    obtain ⟨a2, c2, rfl, -⟩ := id ho.2
    have HO := Lib.hid (ho.lower (lo' := w.heap.size + 1) (by omega))
    have hx := X0.out.next hb
    have c0 := hx.cell 0
    have c1 := hx.cell 1
    have z0 := hx.frozen 0
    have z1 := hx.frozen 1
    simp at c0 c1
    have G2 := Lib.hid (G0.out.trans (hb.mono (by omega)))
    clear ho hb hx
    go_wp2_with fail
    refine bodyPost_ret (v := .agg #[.slice a2 image.length c2, .int .i64 0]) (by simp [results, Tryd.results11, go_sem, c0, c1]) rfl ⟨_, rfl, ?_, ?_⟩
    · show Own _ _ _ (applyL image l).length 1 _
      rw [applyL_length]
      refine ((HO.out.other ⟨w.heap.size, 0, none⟩ _ (fun k hk => ?_)).other ⟨w.heap.size, 1, none⟩ _ (fun k hk => ?_)).lower (by omega)
      · have := (HO.out.blk k hk).1
        simp; omega
      · have := (HO.out.blk k hk).1
        simp; omega
    · exact (G2.out.setCell (p := ⟨w.heap.size, 0, none⟩) (Nat.le_refl _) _).setCell (p := ⟨w.heap.size, 1, none⟩) (Nat.le_refl _) _
end Go.Proofs.YtcckpkcjekcajaaDoor
