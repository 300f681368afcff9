/- The model's FlashCrash. -/
import Derived.Test.YtkeimgglikdbfaaSFSync
import Derived.Test.YtkeimgglikdbfaaInts
namespace Go.Proofs.Ytkeimgglikdbfaa
open Go.RowKit

def dirAt (F : FM) (k : Nat) : D := F.dir.getD k (0, ByteArray.empty)
/-- The sectors when the first k writes have met their fates. -/
def crashL (F : FM) (fs : List Int) : Nat → List ByteArray
  | 0 => F.sec
  | k + 1 => (crashL F fs k).set (dirAt F k).1.toNat (torn (F.sec.getD (dirAt F k).1.toNat ByteArray.empty) (dirAt F k).2 (fs.getD k 0))
theorem crashL_length (F : FM) (fs : List Int) : ∀ k, (crashL F fs k).length = F.sec.length
  | 0 => rfl
  | k + 1 => by rw [crashL, List.length_set]; exact crashL_length F fs k
theorem crashL_step (F : FM) (fs : List Int) (k : Nat) (h : k < F.dir.length) (hs : F.dir[k].1.toNat < F.sec.length) : crashL F fs (k + 1) = (crashL F fs k).set F.dir[k].1.toNat (torn F.sec[F.dir[k].1.toNat] F.dir[k].2 (fs.getD k 0)) := by
  have e : dirAt F k = F.dir[k] := by simp [dirAt, h]
  have e2 : F.sec.getD F.dir[k].1.toNat ByteArray.empty = F.sec[F.dir[k].1.toNat] := by simp [hs]
  rw [crashL, e, e2]
def crashed (F : FM) (fs : List Int) : FM := ⟨crashL F fs F.dir.length, []⟩
open Classical in
noncomputable def crashOf (F : FM) (fs : List Int) : FM := if 400 < fs.length then noFlash else if Right F then crashed F fs else F
def CrashRel (F : FM) (fs : List Int) (W : World) (lo b off cap : Nat) (i : Value) (wr : World) : Prop :=
  ∃ k : Nat, k ≤ F.dir.length ∧ i = .int .i64 k ∧ Own wr lo (.slice (some ⟨b, off, none⟩) F.sec.length cap) F.sec.length 1 (strs (crashL F fs k)) ∧ W.grownBy wr (some b)

set_option maxHeartbeats 4000000 in
set_option maxRecDepth 100000 in
theorem specCrash (sv dv fv : Value) (F : FM) (fs : List Int) (w : World) (h : FRd w sv dv F) (hf : FFits F) (hs : ∀ s ∈ F.sec, s.size ≤ 1048576) (hd : ∀ d ∈ F.dir, d.2.size ≤ 1048576) (hv : Rd w fv fs.length 1 (ints fs)) (hl : fs.length ≤ maxLen) (hx : ∀ x ∈ fs, -9223372036854775808 ≤ x ∧ x ≤ 9223372036854775807) :
    Calls Try.prog 15 #[.agg #[sv, dv], fv] w (FMade w (crashOf F fs)) := by
  obtain ⟨i0, hi, hz0, hz1, hz2⟩ := info_parts Try.info9
  obtain ⟨a, c, rfl, -⟩ := id h.1.2
  obtain ⟨a', c', rfl, -⟩ := id h.2.2
  obtain ⟨fa, fc, rfl, -⟩ := id hv.2
  unfold maxLen at hl
  have HF := Lib.hid hf
  have HS := Lib.hid hs
  have HD := Lib.hid hd
  have HR := Lib.hid h
  have HFV := Lib.hid hv
  have HFR := Lib.hid hx
  obtain ⟨O, hO⟩ : ∃ O, O = crashOf F fs := ⟨_, rfl⟩
  rw [← hO]
  unfold crashOf at hO
  have H0 := Lib.hid hO
  clear h hf hs hd hv hx hO
  by_cases hbig : 400 < fs.length
  · have hO : O = noFlash := by rw [H0.out, if_pos hbig]
    clear H0
    subst hO
    have d0 : decide ((400 : Int) < (fs.length : Int)) = true := decide_eq_true (by omega)
    go_enter Try.func15, Try.ntmps15
    go_wp2_with fail
    refine bodyPost_ret (v := .agg #[.slice none 0 0, .slice none 0 0]) (by simp [results, Try.results15, go_sem]) rfl ⟨_, _, rfl, noFlash_own _ _, ?_⟩
    first | exact ((Below.refl _ w).alloc (Nat.le_refl _) _).alloc (by simp) _ | exact ((((Below.refl _ w).alloc (Nat.le_refl _) _).alloc (by simp) _).setCell (by simp) _).setCell (by simp) _
  have d0 : decide ((400 : Int) < (fs.length : Int)) = false := decide_eq_false (by omega)
  go_enter Try.func15, Try.ntmps15
  go_wp2_with fail
  have hb2 : Below w.heap.size w ((w.alloc (.cells #[.slice a F.sec.length c, .slice a' F.dir.length c'] 26)).alloc (.cells #[.slice none 0 0, .slice none 0 0] 26)) := ((Below.refl _ w).alloc (Nat.le_refl _) _).alloc (by simp) _
  have c0 : ((w.alloc (.cells #[.slice a F.sec.length c, .slice a' F.dir.length c'] 26)).alloc (.cells #[.slice none 0 0, .slice none 0 0] 26)).cell? ⟨w.heap.size, 0, none⟩ = some (.slice a F.sec.length c) := by rw [cell_of_row _ _ _ _ _ _ (heap_alloc2_old w _ _)]; rfl
  have c1 : ((w.alloc (.cells #[.slice a F.sec.length c, .slice a' F.dir.length c'] 26)).alloc (.cells #[.slice none 0 0, .slice none 0 0] 26)).cell? ⟨w.heap.size, 1, none⟩ = some (.slice a' F.dir.length c') := by rw [cell_of_row _ _ _ _ _ _ (heap_alloc2_old w _ _)]; rfl
  have r0 : ((w.alloc (.cells #[.slice a F.sec.length c, .slice a' F.dir.length c'] 26)).alloc (.cells #[.slice none 0 0, .slice none 0 0] 26)).cell? ⟨w.heap.size + 1, 0, none⟩ = some (.slice none 0 0) := by rw [cell_of_row _ _ _ _ _ _ (heap_alloc2_new w _ _)]; rfl
  have r1 : ((w.alloc (.cells #[.slice a F.sec.length c, .slice a' F.dir.length c'] 26)).alloc (.cells #[.slice none 0 0, .slice none 0 0] 26)).cell? ⟨w.heap.size + 1, 1, none⟩ = some (.slice none 0 0) := by rw [cell_of_row _ _ _ _ _ _ (heap_alloc2_new w _ _)]; rfl
  have s0 := frozen_of_row _ (w.heap.size + 1) 0 _ _ (heap_alloc2_new w (.cells #[.slice a F.sec.length c, .slice a' F.dir.length c'] 26) (.cells #[.slice none 0 0, .slice none 0 0] 26))
  have s1 := frozen_of_row _ (w.heap.size + 1) 1 _ _ (heap_alloc2_new w (.cells #[.slice a F.sec.length c, .slice a' F.dir.length c'] 26) (.cells #[.slice none 0 0, .slice none 0 0] 26))
  have hzW : w.heap.size + 2 ≤ ((w.alloc (.cells #[.slice a F.sec.length c, .slice a' F.dir.length c'] 26)).alloc (.cells #[.slice none 0 0, .slice none 0 0] 26)).heap.size := by simp
  generalize ((w.alloc (.cells #[.slice a F.sec.length c, .slice a' F.dir.length c'] 26)).alloc (.cells #[.slice none 0 0, .slice none 0 0] 26)) = W0 at *
  refine (specRight _ _ F W0 (HR.out.below hb2 (Nat.le_refl _)) HF.out HS.out HD.out).mono ?_
  rintro e w1 ⟨bb, rfl, hiff, hb1⟩
  replace c0 := (hb1.cell (p := ⟨w.heap.size, 0, none⟩) (by simp; omega)).trans c0
  replace c1 := (hb1.cell (p := ⟨w.heap.size, 1, none⟩) (by simp; omega)).trans c1
  replace r0 := (hb1.cell (p := ⟨w.heap.size + 1, 0, none⟩) (by simp; omega)).trans r0
  replace r1 := (hb1.cell (p := ⟨w.heap.size + 1, 1, none⟩) (by simp; omega)).trans r1
  replace s0 := (hb1.frozen (p := ⟨w.heap.size + 1, 0, none⟩) (by simp; omega)).trans s0
  replace s1 := (hb1.frozen (p := ⟨w.heap.size + 1, 1, none⟩) (by simp; omega)).trans s1
  have hbw1 : Below w.heap.size w w1 := hb2.trans (hb1.mono (by omega))
  have hn1 : w.heap.size + 2 ≤ w1.heap.size := by have := hb1.size; omega
  clear hb2 hb1 hzW
  clear W0
  have HB1 := Lib.hid hbw1
  clear hbw1
  cases bb with
  | false =>
    have hn : ¬ Right F := fun r => by simpa using hiff.2 r
    have hO : O = F := by rw [H0.out, if_neg hbig, if_neg hn]
    clear H0 hiff hn
    subst hO
    go_wp2_with fail
    refine (specCopy _ _ O w1 (HR.out.below HB1.out (Nat.le_refl _)) HF.out).mono ?_
    rintro e w2 ⟨sv', dv', rfl, ho, hb2⟩
    obtain ⟨a1, n1, rfl, -⟩ := id ho.1.2
    obtain ⟨a2, n2, rfl, -⟩ := id ho.2.1.2
    replace r0 := (hb2.cell (p := ⟨w.heap.size + 1, 0, none⟩) (by simp; omega)).trans r0
    replace r1 := (hb2.cell (p := ⟨w.heap.size + 1, 1, none⟩) (by simp; omega)).trans r1
    replace s0 := (hb2.frozen (p := ⟨w.heap.size + 1, 0, none⟩) (by simp; omega)).trans s0
    replace s1 := (hb2.frozen (p := ⟨w.heap.size + 1, 1, none⟩) (by simp; omega)).trans s1
    have HO := Lib.hid (ho.lower hn1)
    have HB := Lib.hid (HB1.out.trans (hb2.mono (by omega)))
    clear hb2 ho
    go_wp2_with fail
    refine bodyPost_ret (v := .agg #[.slice a1 O.sec.length n1, .slice a2 O.dir.length n2]) (by simp [results, Try.results15, go_sem, r0, r1]) rfl ⟨_, _, rfl, ?_, ?_⟩
    · exact ((HO.out.other _ _ (by simp)).other _ _ (by simp)).lower (by omega)
    · exact (HB.out.setCell (p := ⟨w.heap.size + 1, 0, none⟩) (by simp) _).setCell (p := ⟨w.heap.size + 1, 1, none⟩) (by simp) _
  | true =>
    have hr : Right F := hiff.1 rfl
    have hO : O = crashed F fs := by rw [H0.out, if_neg hbig, if_pos hr]
    clear H0 hiff
    subst hO
    obtain ⟨l0, l1, l2⟩ : 1 ≤ F.sec.length ∧ F.sec.length ≤ 40 ∧ F.dir.length ≤ 40 := ⟨hr.least, hr.most, Nat.le_trans hr.dirty hr.most⟩
    have HRT := Lib.hid hr
    clear hr
    have c0a : (w1.alloc (.cells #[] 9)).cell? ⟨w.heap.size, 0, none⟩ = some (.slice a F.sec.length c) := ((alloc_below w1 _).cell (p := ⟨w.heap.size, 0, none⟩) (by simp; omega)).trans c0
    go_wp2_with ((with_reducible show wpList _ _ _ (⟨some 20, _, _, _, _, _⟩ :: _) _ _); refine wpList_append_copy _ rfl (.tmp 17) (.tmp 19) 23 rfl 9 i0 _ 1 16 Try.underlying23 hi hz0 hz1 hz2 rfl (by decide) _ rfl (.slice a F.sec.length c) rfl F.sec.length (strs F.sec) (HR.out.1.below (B := w.heap.size) (HB1.out.trans (B := w.heap.size) ((alloc_below _ _).mono (by omega))) (Nat.le_refl _)) (by unfold maxLen; omega) (by omega) ?_)
    intro ad cap w2 ho' hb2'
    have hb2 : Below w1.heap.size w1 w2 := (alloc_below w1 _).trans (hb2'.mono (by first | omega | simp))
    have ho : Own w2 (w.heap.size + 1 + 1 + 1) (.slice ad F.sec.length cap) F.sec.length 1 (strs F.sec) := ho'.lower (by first | omega | (simp; omega))
    clear ho' hb2' c0a
    obtain ⟨b, off, rfl, hlo, hbl, -, -⟩ := ho.get (by omega)
    replace c0 := (hb2.cell (p := ⟨w.heap.size, 0, none⟩) (by simp; omega)).trans c0
    replace c1 := (hb2.cell (p := ⟨w.heap.size, 1, none⟩) (by simp; omega)).trans c1
    replace r0 := (hb2.cell (p := ⟨w.heap.size + 1, 0, none⟩) (by simp; omega)).trans r0
    replace r1 := (hb2.cell (p := ⟨w.heap.size + 1, 1, none⟩) (by simp; omega)).trans r1
    replace s0 := (hb2.frozen (p := ⟨w.heap.size + 1, 0, none⟩) (by simp; omega)).trans s0
    replace s1 := (hb2.frozen (p := ⟨w.heap.size + 1, 1, none⟩) (by simp; omega)).trans s1
    have HO := Lib.hid ho
    have HBW := Lib.hid (HB1.out.trans (hb2.mono (by omega)))
    clear ho hb2 HB1 hn1 hi hz0 hz1 hz2
    go_wp2_with fail
    have hz1 : w2.heap.size < (w2.alloc (.cells #[.slice (some ⟨b, off, none⟩) F.sec.length cap, .slice none 0 0] 26)).heap.size := by simp
    have hbA : Below w2.heap.size w2 (w2.alloc (.cells #[.slice (some ⟨b, off, none⟩) F.sec.length cap, .slice none 0 0] 26)) := alloc_below _ _
    have g0 : (w2.alloc (.cells #[.slice (some ⟨b, off, none⟩) F.sec.length cap, .slice none 0 0] 26)).cell? ⟨w2.heap.size, 0, none⟩ = some (.slice (some ⟨b, off, none⟩) F.sec.length cap) := by rw [World.cell?_alloc_new]; rfl
    have g1 : (w2.alloc (.cells #[.slice (some ⟨b, off, none⟩) F.sec.length cap, .slice none 0 0] 26)).cell? ⟨w2.heap.size, 1, none⟩ = some (.slice none 0 0) := by rw [World.cell?_alloc_new]; rfl
    generalize (w2.alloc (.cells #[.slice (some ⟨b, off, none⟩) F.sec.length cap, .slice none 0 0] 26)) = W at *
    have c0' := (hbA.cell (p := ⟨w.heap.size, 0, none⟩) (by simp; omega)).trans c0
    have c1' := (hbA.cell (p := ⟨w.heap.size, 1, none⟩) (by simp; omega)).trans c1
    have r0' := (hbA.cell (p := ⟨w.heap.size + 1, 0, none⟩) (by simp; omega)).trans r0
    have r1' := (hbA.cell (p := ⟨w.heap.size + 1, 1, none⟩) (by simp; omega)).trans r1
    have s0' := (hbA.frozen (p := ⟨w.heap.size + 1, 0, none⟩) (by simp; omega)).trans s0
    have s1' := (hbA.frozen (p := ⟨w.heap.size + 1, 1, none⟩) (by simp; omega)).trans s1
    have HOW := Lib.hid (HO.out.below hbA (Nat.le_refl _))
    have HBWW := Lib.hid (HBW.out.trans (hbA.mono (by omega)))
    generalize w2.heap.size = g at *
    clear c0 c1 r0 r1 s0 s1 HO HBW hbA
    go_loopw [6] (fun i wr => CrashRel F fs W (w.heap.size + 1 + 1 + 1) b off cap i wr) (fun i _ => F.dir.length - (intOf i).toNat)
    case atStart => exact ⟨0, by omega, rfl, HOW.out, World.grownBy.refl W _⟩
    case round =>
      obtain ⟨k, hk, rfl, how, hgr⟩ := hrel
      have x0 := (grown_keeps hgr (k := w.heap.size) (by omega) (by omega) 0).1.trans c0'
      have x1 := (grown_keeps hgr (k := w.heap.size) (by omega) (by omega) 1).1.trans c1'
      have y0 := (grown_keeps hgr (k := w.heap.size + 1) (by omega) (by omega) 0).1.trans r0'
      have y1 := (grown_keeps hgr (k := w.heap.size + 1) (by omega) (by omega) 1).1.trans r1'
      have z0 := (grown_keeps hgr (k := w.heap.size + 1) (by omega) (by omega) 0).2.trans s0'
      have z1 := (grown_keeps hgr (k := w.heap.size + 1) (by omega) (by omega) 1).2.trans s1'
      have t0 := (grown_keeps hgr (k := g) (by omega) (by omega) 0).1.trans g0
      have t1 := (grown_keeps hgr (k := g) (by omega) (by omega) 1).1.trans g1
      by_cases hlt : k < F.dir.length
      · have a0 := HRT.out.at0 k hlt
        have a1 := HRT.out.at1 k hlt
        have e0 : (k : Int) < (F.dir.length : Int) := by omega
        have e1 : (0 : Int) ≤ (k : Int) := by omega
        have e2 : F.dir[k].1 < (F.sec.length : Int) := by omega
        obtain ⟨b', off', rfl, hbl', hc'⟩ := HR.out.2.get (by omega)
        have hW : ∀ j, wr.cell? ⟨b', j, none⟩ = w.cell? ⟨b', j, none⟩ := fun j => (grown_keeps hgr (k := b') (by have := HBWW.out.size; omega) (by omega) j).1.trans (HBWW.out.cell (p := ⟨b', j, none⟩) hbl')
        have hc0 : wr.cell? ⟨b', off' + k * 2, none⟩ = some (.int .i64 F.dir[k].1) := by rw [hW, hc' (k * 2) (by omega), dirs_even _ k hlt]
        have hc1 : wr.cell? ⟨b', off' + k * 2 + 1, none⟩ = some (.string F.dir[k].2) := by rw [hW, Nat.add_assoc, hc' (k * 2 + 1) (by omega), dirs_odd _ k hlt]
        obtain ⟨b2, off2, e, -, -, hcs, hfz⟩ := how.get (by omega)
        simp only [Option.some.injEq, Addr.mk.injEq, and_true] at e
        obtain ⟨rfl, rfl⟩ := e
        obtain ⟨v, hv⟩ : ∃ v, wr.cell? ⟨b, off + F.dir[k].1.toNat, none⟩ = some v := ⟨_, (hcs F.dir[k].1.toNat (by omega)).trans (List.getElem?_eq_getElem (by rw [how.1]; omega))⟩
        have hf := hfz F.dir[k].1.toNat (by omega)
        have HOK := Lib.hid ((show Own wr.drew _ _ _ 1 _ from how).set F.dir[k].1.toNat (.string (torn (F.sec[F.dir[k].1.toNat]'(by omega)) F.dir[k].2 (fs.getD k 0))) (by omega) ⟨v, hv⟩)
        have HGR := Lib.hid hgr
        obtain ⟨bs, offs, rfl, hbls, hcss⟩ := HR.out.1.get (by omega)
        have hold : wr.cell? ⟨bs, offs + F.dir[k].1.toNat, none⟩ = some (.string (F.sec[F.dir[k].1.toNat]'(by omega))) := by rw [(grown_keeps hgr (k := bs) (by have := HBWW.out.size; omega) (by omega) _).1, HBWW.out.cell (p := ⟨bs, offs + F.dir[k].1.toNat, none⟩) hbls, hcss _ (by omega), strs_at _ _ (by omega)]
        have u0 := HRT.out.fits F.dir[k].1.toNat (by omega)
        have u1 := HRT.out.data k hlt
        clear hW hc' hcs hfz how hgr hcss
        obtain ⟨ft, hft⟩ : ∃ ft, ft = fs.getD k 0 := ⟨_, rfl⟩
        rw [← hft] at HOK
        by_cases hkf : k < fs.length
        · obtain ⟨bf, offf, rfl, hblf, hcf⟩ := HFV.out.get (by omega)
          have eft : ft = fs[k] := by rw [hft]; simp [hkf]
          have hin := HFR.out fs[k] (List.getElem_mem hkf)
          have hcell : wr.cell? ⟨bf, offf + k, none⟩ = some (.int .i64 ft) := by rw [(grown_keeps HGR.out (k := bf) (by have := HBWW.out.size; omega) (by omega) _).1, HBWW.out.cell (p := ⟨bf, offf + k, none⟩) hblf, hcf _ (by omega), ints_at _ _ hkf, eft]
          rw [← eft] at hin
          have HFT := Lib.hid hft
          clear hcf hft eft
          go_wp2_with fail
          go_still_tail 27, (by kernel_rfl)
          still_call (specTorn _ _ ft _ (by unfold maxLen; omega) (by unfold maxLen; omega) hin.1 hin.2)
          repeat still_step
          refine wpStill_nil ?_
          change wpList _ _ _ _ _ wr.drew
          go_wp2_with fail
          go_roundw
          case rel =>
            refine ⟨k + 1, by omega, by go_num, ?_, grown_set (grown_drew HGR.out)⟩
            rw [crashL_step F fs k hlt (by omega), ← HFT.out, strs_set]
            exact HOK.out
          case measure => simp [intOf]; omega
        · have eft : ft = 0 := by rw [hft, List.getD_eq_getElem?_getD, List.getElem?_eq_none (by omega)]; rfl
          have HFT := Lib.hid hft
          clear hft
          subst eft
          have hin : -9223372036854775808 ≤ (0 : Int) ∧ (0 : Int) ≤ 9223372036854775807 := by decide
          go_wp2_with fail
          go_still_tail 27, (by kernel_rfl)
          still_call (specTorn _ _ 0 _ (by unfold maxLen; omega) (by unfold maxLen; omega) hin.1 hin.2)
          repeat still_step
          refine wpStill_nil ?_
          change wpList _ _ _ _ _ wr.drew
          go_wp2_with fail
          go_roundw
          case rel =>
            refine ⟨k + 1, by omega, by go_num, ?_, grown_set (grown_drew HGR.out)⟩
            rw [crashL_step F fs k hlt (by omega), ← HFT.out, strs_set]
            exact HOK.out
          case measure => simp [intOf]; omega
      · obtain rfl : k = F.dir.length := by omega
        have HOK := Lib.hid how
        have HGR := Lib.hid hgr
        clear how hgr
        go_wp2_with fail
        refine bodyPost_ret (v := .agg #[.slice (some ⟨b, off, none⟩) F.sec.length cap, .slice none 0 0]) (by simp [results, Try.results15, go_sem, y0, y1]) rfl ⟨_, _, rfl, ⟨?_, own_nil _ _ 2 none 0, fun k hk => by simp [blk, crashed]⟩, ?_⟩
        · rw [show (crashed F fs).sec.length = F.sec.length from crashL_length F fs F.dir.length]
          refine Own.other (Own.other (HOK.out.lower (by omega)) _ _ (fun k hk => ?_)) _ _ (fun k hk => ?_) <;> (have := (HOK.out.blk k hk).1; simp; omega)
        · exact ((HBWW.out.grown HGR.out HBWW.out.size (fun k hk => by have := Option.some.inj hk; omega)).setCell (p := ⟨w.heap.size + 1, 0, none⟩) (by simp) _).setCell (p := ⟨w.heap.size + 1, 1, none⟩) (by simp) _
end Go.Proofs.Ytkeimgglikdbfaa
