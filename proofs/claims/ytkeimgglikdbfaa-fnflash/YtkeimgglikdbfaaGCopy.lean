/- The model's l03Copy, with what an append wants. -/
import Derived.Test.YtkeimgglikdbfaaGBase
namespace Go.Proofs.Ytkeimgglikdbfaa
open Go.RowKit

set_option maxHeartbeats 2000000 in
set_option maxRecDepth 100000 in
theorem specCopyG (sv dv : Value) (F : FM) (w : World) (h : FRd w sv dv F) (hf : FFits F) :
    Calls Try.prog 44 #[.agg #[sv, dv]] w (FMadeG w F) := by
  obtain ⟨i0, hi, hz0, hz1, hz2⟩ := info_parts Try.info9
  obtain ⟨j0, hj, hy0, hy1, hy2⟩ := info_parts Try.infoD
  obtain ⟨f1, f2⟩ := hf
  have HR := Lib.hid h
  clear h
  go_enter Try.func44, Try.ntmps44
  go_wp2_with fail
  have hb2 : Below w.heap.size w ((w.alloc (.cells #[sv, dv] 26)).alloc (.cells #[.slice none 0 0, .slice none 0 0] 26)) := ((Below.refl _ w).alloc (Nat.le_refl _) _).alloc (by simp) _
  have c0 : ((w.alloc (.cells #[sv, dv] 26)).alloc (.cells #[.slice none 0 0, .slice none 0 0] 26)).cell? ⟨w.heap.size, 0, none⟩ = some sv := by rw [cell_of_row _ _ _ _ _ _ (heap_alloc2_old w _ _)]; rfl
  have c1 : ((w.alloc (.cells #[sv, dv] 26)).alloc (.cells #[.slice none 0 0, .slice none 0 0] 26)).cell? ⟨w.heap.size, 1, none⟩ = some dv := by rw [cell_of_row _ _ _ _ _ _ (heap_alloc2_old w _ _)]; rfl
  have r0 : ((w.alloc (.cells #[sv, dv] 26)).alloc (.cells #[.slice none 0 0, .slice none 0 0] 26)).cell? ⟨w.heap.size + 1, 0, none⟩ = some (.slice none 0 0) := by rw [cell_of_row _ _ _ _ _ _ (heap_alloc2_new w _ _)]; rfl
  have r1 : ((w.alloc (.cells #[sv, dv] 26)).alloc (.cells #[.slice none 0 0, .slice none 0 0] 26)).cell? ⟨w.heap.size + 1, 1, none⟩ = some (.slice none 0 0) := by rw [cell_of_row _ _ _ _ _ _ (heap_alloc2_new w _ _)]; rfl
  have s0 := frozen_of_row _ (w.heap.size + 1) 0 _ _ (heap_alloc2_new w (.cells #[sv, dv] 26) (.cells #[.slice none 0 0, .slice none 0 0] 26))
  have s1 := frozen_of_row _ (w.heap.size + 1) 1 _ _ (heap_alloc2_new w (.cells #[sv, dv] 26) (.cells #[.slice none 0 0, .slice none 0 0] 26))
  have hzW : w.heap.size + 2 ≤ ((w.alloc (.cells #[sv, dv] 26)).alloc (.cells #[.slice none 0 0, .slice none 0 0] 26)).heap.size := by simp
  generalize ((w.alloc (.cells #[sv, dv] 26)).alloc (.cells #[.slice none 0 0, .slice none 0 0] 26)) = W at *
  have HB2 := Lib.hid hb2
  clear hb2
  go_region_held3 (fun w' => w'.cell? ⟨w.heap.size, 0, none⟩ = some sv ∧ w'.cell? ⟨w.heap.size, 1, none⟩ = some dv ∧ (w'.cell? ⟨w.heap.size + 1, 0, none⟩).isSome = true ∧ (w'.cell? ⟨w.heap.size + 1, 1, none⟩).isSome = true ∧ w'.frozen? ⟨w.heap.size + 1, 0, none⟩ = false ∧ w'.frozen? ⟨w.heap.size + 1, 1, none⟩ = false ∧ Below (w.heap.size + 1) W w')
    (first | (exact keepN hzW (drew_below W) ⟨c0, c1, by rw [r0]; rfl, by rw [r1]; rfl, s0, s1, Below.refl _ _⟩) | (go_split_ands; first | (exact keepN hzW hbm ⟨by assumption, by assumption, by assumption, by assumption, by assumption, by assumption, by assumption⟩) | (exact keepN hzW hbn ⟨by assumption, by assumption, by assumption, by assumption, by assumption, by assumption, by assumption⟩) | (exact keepN hzW (alloc_below _ _) ⟨by assumption, by assumption, by assumption, by assumption, by assumption, by assumption, by assumption⟩) | (exact keepSet ⟨by assumption, by assumption, by assumption, by assumption, by assumption, by assumption, by assumption⟩)))
    (first | (go_split_ands; refine step_append_copyA (by rfl) (.tmp 3) (.tmp 5) _ (by rfl) 9 i0 _ 1 16 Try.underlying23 hi hz0 hz1 hz2 rfl (by decide) _ (by rfl) sv (by rfl) F.sec.length (strs F.sec) (HR.out.1.below (HB2.out.trans (Below.mono (B := w.heap.size + 1) (by assumption) (Nat.le_succ _))) (Nat.le_refl _)) (by unfold maxLen; omega) (by omega) ?_; intro ad1 cap1 w1 ho1' hg1' hbn; have hg1 := (Gr.of_grow hg1' (by rw [strs_length]; omega)).lower (show w.heap.size + 2 ≤ _ from Nat.le_trans hzW (Below.size (B := w.heap.size + 1) (by assumption))); clear hg1'; have ho1 := ho1'.lower (show w.heap.size + 2 ≤ _ from Nat.le_trans hzW (Below.size (B := w.heap.size + 1) (by assumption))); clear ho1') | (go_split_ands; refine step_append_copyA (by rfl) (.tmp 7) (.tmp 9) _ (by rfl) 63 j0 _ 2 24 Try.underlying24 hj hy0 hy1 hy2 rfl (by decide) _ (by rfl) dv (by rfl) F.dir.length (dirs F.dir) (HR.out.2.below (HB2.out.trans (Below.mono (B := w.heap.size + 1) (by assumption) (Nat.le_succ _))) (Nat.le_refl _)) (by unfold maxLen; omega) (by omega) ?_; intro ad2 cap2 w2 ho2' hg2 hbm; have HG2 := Lib.hid ((Gr.of_grow hg2 (dirs_length _)).lower (show w.heap.size + 2 ≤ _ from Nat.le_trans hzW (Below.size (B := w.heap.size + 1) (by assumption)))); clear hg2; have ho2 := ho2'.lower (show w.heap.size + 2 ≤ _ from Nat.le_trans hzW (Below.size (B := w.heap.size + 1) (by assumption))); obtain ⟨-, -, q0, q1, -, -, -⟩ := keepN hzW hbm ⟨by assumption, by assumption, by assumption, by assumption, by assumption, by assumption, by assumption⟩; obtain ⟨x0, hx0⟩ := Option.isSome_iff_exists.1 q0; obtain ⟨x1, hx1⟩ := Option.isSome_iff_exists.1 q1; have hne : ∀ k, blk (.slice ad1 F.sec.length cap1) F.sec.length = some k → blk (.slice ad2 F.dir.length cap2) F.dir.length ≠ some k := (fun k h1 h2 => by (have e1 := (ho1.blk k h1).2; have e2 := (ho2'.blk k h2).1; first | omega | (simp at e2; omega))); have ho1w : Own w2 (w.heap.size + 2) (.slice ad1 F.sec.length cap1) F.sec.length 1 (strs F.sec) := (by first | exact ho1.below hbm (Nat.le_refl _) | exact (ho1.below (alloc_below _ _) (Nat.le_refl _)).below hbm (Nat.le_refl _)); have HNE := Lib.hid hne; have HO1 := Lib.hid ho1w; have HG1 := Lib.hid (show Gr w2 (w.heap.size + 2) 9 1 (.slice ad1 F.sec.length cap1) F.sec.length (strs F.sec) by first | exact hg1.below hbm (Nat.le_refl _) | exact (hg1.below (alloc_below _ _) (Nat.le_refl _)).below hbm (Nat.le_refl _)); clear hg1; have HO2 := Lib.hid ho2; clear hne ho1w ho2 ho2' q0 q1))
  all_goals (
    go_split_ands
    have HBF := Lib.hid (show Below w.heap.size w ((w2.setCell ⟨w.heap.size + 1, 0, none⟩ (.slice ad1 F.sec.length cap1)).setCell ⟨w.heap.size + 1, 1, none⟩ (.slice ad2 F.dir.length cap2)) from HB2.out.trans (Below.mono (B := w.heap.size + 1) (by assumption) (Nat.le_succ _)))
    go_wp2_with fail
    refine bodyPost_ret (v := .agg #[.slice ad1 F.sec.length cap1, .slice ad2 F.dir.length cap2]) (by simp [results, Try.results44, go_sem, hx0, hx1]) rfl ⟨_, _, rfl, ⟨?_, ?_, HNE.out, ((HG1.out.low _ _ (by simp)).low _ _ (by simp)).lower (by omega), ((HG2.out.low _ _ (by simp)).low _ _ (by simp)).lower (by omega)⟩, HBF.out⟩
    · refine Own.other (Own.other (HO1.out.lower (by omega)) _ _ (fun k hk => ?_)) _ _ (fun k hk => ?_) <;> (have := (HO1.out.blk k hk).1; simp; omega)
    · refine Own.other (Own.other (HO2.out.lower (by omega)) _ _ (fun k hk => ?_)) _ _ (fun k hk => ?_) <;> (have := (HO2.out.blk k hk).1; simp; omega))
end Go.Proofs.Ytkeimgglikdbfaa
