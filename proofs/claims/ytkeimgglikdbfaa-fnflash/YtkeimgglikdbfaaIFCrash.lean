/- The program's FlashCrash. -/
import Derived.Test.YtkeimgglikdbfaaICrash
namespace Go.Proofs.Ytkeimgglikdbfaa
open Go.RowKit

theorem crash_fits {F : FM} {fs : List Int} (h : FFits F) : FFits (crashOf F fs) := by
  unfold crashOf
  split
  · exact noFits
  · split
    · exact ⟨by show (crashL F fs F.dir.length).length ≤ _; rw [crashL_length]; exact h.1, by simp [crashed]⟩
    · exact h
theorem keepC {W w1 w2 : World} {n : Nat} {sv dv : Value} (hz : n + 2 ≤ w1.heap.size) (hn : Below w1.heap.size w1 w2) (h : w1.cell? ⟨n, 0, none⟩ = some sv ∧ w1.cell? ⟨n, 1, none⟩ = some dv ∧ (w1.cell? ⟨n + 1, 0, none⟩).isSome = true ∧ (w1.cell? ⟨n + 1, 1, none⟩).isSome = true ∧ w1.frozen? ⟨n + 1, 0, none⟩ = false ∧ w1.frozen? ⟨n + 1, 1, none⟩ = false ∧ Below (n + 1) W w1) :
    w2.cell? ⟨n, 0, none⟩ = some sv ∧ w2.cell? ⟨n, 1, none⟩ = some dv ∧ (w2.cell? ⟨n + 1, 0, none⟩).isSome = true ∧ (w2.cell? ⟨n + 1, 1, none⟩).isSome = true ∧ w2.frozen? ⟨n + 1, 0, none⟩ = false ∧ w2.frozen? ⟨n + 1, 1, none⟩ = false ∧ Below (n + 1) W w2 := by
  obtain ⟨h0, h1, h2, h3, h4, h5, h6⟩ := h
  exact ⟨(hn.cell (p := ⟨n, 0, none⟩) (by simp; omega)).trans h0, (hn.cell (p := ⟨n, 1, none⟩) (by simp; omega)).trans h1, (hn.cell (p := ⟨n + 1, 0, none⟩) (by simp; omega)).symm ▸ h2, (hn.cell (p := ⟨n + 1, 1, none⟩) (by simp; omega)).symm ▸ h3, (hn.frozen (p := ⟨n + 1, 0, none⟩) (by simp; omega)).trans h4, (hn.frozen (p := ⟨n + 1, 1, none⟩) (by simp; omega)).trans h5, h6.trans (hn.mono (by omega))⟩

set_option maxHeartbeats 4000000 in
set_option maxRecDepth 100000 in
theorem implFCrash (sv dv : Value) (F : FM) (fv : Value) (fs : List Int) (w : World) (h : FRd w sv dv F) (hf : FFits F) (hs : ∀ s ∈ F.sec, s.size ≤ 1048576) (hd : ∀ d ∈ F.dir, d.2.size ≤ 1048576)
    (hv : Rd w fv fs.length 1 (ints fs)) (hn : fs.length ≤ 1048576) (hx : ∀ f ∈ fs, -9223372036854775808 ≤ f ∧ f ≤ 9223372036854775807) :
    Calls Try.prog 7 #[.agg #[sv, dv], fv] w (FMade w (crashOf F fs)) := by
  obtain ⟨a, c, rfl, -⟩ := id h.1.2
  obtain ⟨a', c', rfl, -⟩ := id h.2.2
  obtain ⟨af, cf, rfl, -⟩ := id hv.2
  have HF := Lib.hid hf
  have HS := Lib.hid hs
  have HD := Lib.hid hd
  have HR := Lib.hid h
  have HV := Lib.hid hv
  have HX := Lib.hid hx
  obtain ⟨O, hO⟩ : ∃ O, O = crashOf F fs := ⟨_, rfl⟩
  rw [← hO]
  unfold crashOf at hO
  have H0 := Lib.hid hO
  clear h hf hs hd hv hx hO
  by_cases hbig : 400 < fs.length
  · have hO : O = noFlash := by rw [H0.out, if_pos hbig]
    clear H0
    subst hO
    have d0 : decide ((400 : Int) < (fs.length : Int)) = true := decide_eq_true (by omega)
    go_enter Try.func7, Try.ntmps7
    go_wp2_with fail
    refine bodyPost_ret (v := .agg #[.slice none 0 0, .slice none 0 0]) (by simp [results, Try.results7, go_sem]) rfl ⟨_, _, rfl, noFlash_own _ _, ?_⟩
    first | exact ((Below.refl _ w).alloc (Nat.le_refl _) _).alloc (by simp) _ | exact ((((Below.refl _ w).alloc (Nat.le_refl _) _).alloc (by simp) _).setCell (by simp) _).setCell (by simp) _
  have d0 : decide ((400 : Int) < (fs.length : Int)) = false := decide_eq_false (by omega)
  go_enter Try.func7, Try.ntmps7
  go_wp2_with fail
  have x0 := bx_new w 26 #[.slice a F.sec.length c, .slice a' F.dir.length c']
  have b0 := below_alloc1 w (.cells #[.slice a F.sec.length c, .slice a' F.dir.length c'] 26)
  have z0 := size_alloc1 w (.cells #[.slice a F.sec.length c, .slice a' F.dir.length c'] 26)
  have y0 := bx_new (w.alloc (.cells #[.slice a F.sec.length c, .slice a' F.dir.length c'] 26)) 26 #[.slice none 0 0, .slice none 0 0]
  have b1 := below_alloc1 (w.alloc (.cells #[.slice a F.sec.length c, .slice a' F.dir.length c'] 26)) (.cells #[.slice none 0 0, .slice none 0 0] 26)
  have z1 := size_alloc1 (w.alloc (.cells #[.slice a F.sec.length c, .slice a' F.dir.length c'] 26)) (.cells #[.slice none 0 0, .slice none 0 0] 26)
  have x1 := x0.next b1
  have bw := b0.trans (b1.mono (by omega))
  rw [z0] at y0
  generalize ((w.alloc (.cells #[.slice a F.sec.length c, .slice a' F.dir.length c'] 26)).alloc (.cells #[.slice none 0 0, .slice none 0 0] 26)) = W0 at *
  have X0 := Lib.hid x1
  have Y0 := Lib.hid y0
  have B0 := Lib.hid bw
  clear x0 x1 y0 b0 b1 bw
  refine (implRight _ _ F W0 (HR.out.below B0.out (Nat.le_refl _)) HF.out HS.out HD.out).mono ?_
  rintro e w1 ⟨bb, rfl, hiff, hb1⟩
  have hz : w.heap.size + 2 ≤ w1.heap.size := by have := hb1.size; omega
  have X1 := Lib.hid (X0.out.next hb1)
  have Y1 := Lib.hid (Y0.out.next hb1)
  have B1 := Lib.hid (B0.out.trans (hb1.mono (by omega)))
  have c0 := X1.out.c0
  have c1 := X1.out.c1
  have r0 := Y1.out.c0
  have r1 := Y1.out.c1
  have s0 := Y1.out.frozen 0
  have s1 := Y1.out.frozen 1
  clear hb1 X0 Y0 B0 z0 z1
  clear W0
  cases bb with
  | false =>
    have hnr : ¬ Right F := fun r => by simpa using hiff.2 r
    have hO : O = F := by rw [H0.out, if_neg hbig, if_neg hnr]
    clear H0 hiff hnr
    subst hO
    go_wp2_with fail
    go_region_held3 (fun w' => w'.cell? ⟨w.heap.size, 0, none⟩ = some (.slice a O.sec.length c) ∧ w'.cell? ⟨w.heap.size, 1, none⟩ = some (.slice a' O.dir.length c') ∧ (w'.cell? ⟨w.heap.size + 1, 0, none⟩).isSome = true ∧ (w'.cell? ⟨w.heap.size + 1, 1, none⟩).isSome = true ∧ w'.frozen? ⟨w.heap.size + 1, 0, none⟩ = false ∧ w'.frozen? ⟨w.heap.size + 1, 1, none⟩ = false ∧ Below (w.heap.size + 1) w1 w')
      (first | (exact keepN hz (drew_below w1) ⟨c0, c1, by rw [r0]; rfl, by rw [r1]; rfl, s0, s1, Below.refl _ _⟩) | (go_split_ands; first | (exact keepN hz hbm ⟨by assumption, by assumption, by assumption, by assumption, by assumption, by assumption, by assumption⟩) | (exact keepN hz hbn ⟨by assumption, by assumption, by assumption, by assumption, by assumption, by assumption, by assumption⟩) | (exact keepSet ⟨by assumption, by assumption, by assumption, by assumption, by assumption, by assumption, by assumption⟩)))
      (first | (go_at_call 35; go_split_ands; refine (cloneS _ O.sec _ (HR.out.1.below (B1.out.trans (Below.mono (B := w.heap.size + 1) (by assumption) (Nat.le_succ _))) (Nat.le_refl _)) HF.out.1).mono ?_; rintro e w2 ⟨v2, rfl, ho1', hbn⟩; obtain ⟨ad1, cap1, rfl, -⟩ := id ho1'.2; have ho1 := ho1'.lower (show w.heap.size + 2 ≤ _ from Nat.le_trans hz (Below.size (B := w.heap.size + 1) (by assumption))); clear ho1') | (go_at_call 36; go_split_ands; refine (cloneD _ O.dir _ (HR.out.2.below (B1.out.trans (Below.mono (B := w.heap.size + 1) (by assumption) (Nat.le_succ _))) (Nat.le_refl _)) HF.out.2).mono ?_; rintro e w3 ⟨v3, rfl, ho2', hbm⟩; obtain ⟨ad2, cap2, rfl, -⟩ := id ho2'.2; have ho2 := ho2'.lower (show w.heap.size + 2 ≤ _ from Nat.le_trans hz (Below.size (B := w.heap.size + 1) (by assumption))); obtain ⟨-, -, q0, q1, -, -, -⟩ := keepN hz hbm ⟨by assumption, by assumption, by assumption, by assumption, by assumption, by assumption, by assumption⟩; obtain ⟨x0, hx0⟩ := Option.isSome_iff_exists.1 q0; obtain ⟨x1, hx1⟩ := Option.isSome_iff_exists.1 q1; have hne : ∀ k, blk (.slice ad1 O.sec.length cap1) O.sec.length = some k → blk (.slice ad2 O.dir.length cap2) O.dir.length ≠ some k := (fun k h1 h2 => by (have e1 := (ho1.blk k h1).2; have e2 := (ho2'.blk k h2).1; first | omega | (simp at e2; omega))); have ho1w := ho1.below hbm (Nat.le_refl _); have HNE := Lib.hid hne; have HO1 := Lib.hid ho1w; have HO2 := Lib.hid ho2; clear hne ho1w ho2 ho2' q0 q1))
    all_goals (
      go_split_ands
      have HBF := Lib.hid (show Below w.heap.size w ((w3.setCell ⟨w.heap.size + 1, 0, none⟩ (.slice ad1 O.sec.length cap1)).setCell ⟨w.heap.size + 1, 1, none⟩ (.slice ad2 O.dir.length cap2)) from B1.out.trans (Below.mono (B := w.heap.size + 1) (by assumption) (Nat.le_succ _)))
      go_wp2_with fail
      refine bodyPost_ret (v := .agg #[.slice ad1 O.sec.length cap1, .slice ad2 O.dir.length cap2]) (by simp [results, Try.results7, go_sem, hx0, hx1]) rfl ⟨_, _, rfl, ⟨?_, ?_, HNE.out⟩, HBF.out⟩
      · refine Own.other (Own.other (HO1.out.lower (by omega)) _ _ (fun k hk => ?_)) _ _ (fun k hk => ?_) <;> (have := (HO1.out.blk k hk).1; simp; omega)
      · refine Own.other (Own.other (HO2.out.lower (by omega)) _ _ (fun k hk => ?_)) _ _ (fun k hk => ?_) <;> (have := (HO2.out.blk k hk).1; simp; omega))
  | true =>
    have hr : Right F := hiff.1 rfl
    have hO : O = crashed F fs := by rw [H0.out, if_neg hbig, if_pos hr]
    have HRT := Lib.hid hr
    obtain ⟨l0, l1, l2⟩ : 1 ≤ F.sec.length ∧ F.sec.length ≤ 40 ∧ F.dir.length ≤ 40 := ⟨hr.least, hr.most, Nat.le_trans hr.dirty hr.most⟩
    clear H0 hiff hr r0 r1 s0 s1
    subst hO
    go_wp2_with fail
    refine (implOpened _ _ F w1 (HR.out.below B1.out (Nat.le_refl _)) HRT.out).mono ?_
    rintro e w3 ⟨pb, mb, sv3, ov3, rfl, hof, hb3⟩
    have hz3 : w1.heap.size ≤ w3.heap.size := hb3.size
    have HOF := Lib.hid hof
    have B3 := Lib.hid (B1.out.trans (hb3.mono (by omega)))
    have Y3 := Lib.hid (Y1.out.next hb3)
    clear hof hb3 c0 c1 Y1 B1 X1
    go_wp2_with fail
    refine (implCrashO _ _ _ _ _ _ F _ fs w w3 HOF.out HRT.out (by omega) HV.out (by omega) B3.out hn HX.out).mono ?_
    rintro e w4 ⟨rfl, hof, hb4⟩
    have hz4 : w3.heap.size ≤ w4.heap.size := hb4.size
    have HOF4 := Lib.hid hof
    have B4 := Lib.hid (B3.out.trans (hb4.mono (by omega)))
    have Y4 := Lib.hid (Y3.out.below hb4 (by omega))
    clear hof hb4 HOF B3 Y3
    go_wp2_with fail
    refine (implClosed _ _ _ _ _ _ _ _ _ w4 HOF4.out (by rw [crashL_length]; omega) (by simp) (fun x hx => by cases hx)).mono ?_
    rintro e w5 ⟨sv4, dv4, rfl, ho4, hb5⟩
    have ho5 : FOwn w5 w4.heap.size sv4 dv4 (crashed F fs) := ho4
    obtain ⟨a1, p1, rfl, -⟩ := id ho5.1.2
    obtain ⟨a2, p2, rfl, -⟩ := id ho5.2.1.2
    have y5 := Y4.out.next hb5
    have r0 := y5.c0
    have r1 := y5.c1
    have s0 := y5.frozen 0
    have s1 := y5.frozen 1
    have HO4 := Lib.hid ho5
    have HB := Lib.hid (B4.out.trans (hb5.mono (by omega)))
    clear ho4 ho5 hb5 HOF4 B4 Y4 y5
    go_wp2_with fail
    refine bodyPost_ret (v := .agg #[.slice a1 (crashed F fs).sec.length p1, .slice a2 (crashed F fs).dir.length p2]) (by simp [results, Try.results7, go_sem, r0, r1]) rfl ⟨_, _, rfl, ?_, ?_⟩
    · exact ((HO4.out.other _ _ (by simp; omega)).other _ _ (by simp; omega)).lower (by omega)
    · exact (HB.out.setCell (p := ⟨w.heap.size + 1, 0, none⟩) (by simp) _).setCell (p := ⟨w.heap.size + 1, 1, none⟩) (by simp) _
end Go.Proofs.Ytkeimgglikdbfaa
