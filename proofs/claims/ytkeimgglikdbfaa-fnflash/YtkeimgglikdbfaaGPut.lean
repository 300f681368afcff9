/- The model's l03Put, with what an append wants. -/
import Derived.Test.YtkeimgglikdbfaaGCopy
namespace Go.Proofs.Ytkeimgglikdbfaa
open Go.RowKit

set_option maxHeartbeats 2000000 in
set_option maxRecDepth 100000 in
theorem specPutG (sv dv : Value) (F : FM) (at_ : Int) (x : ByteArray) (w : World) (h : FRd w sv dv F) (hf : FFits F) :
    Calls Try.prog 42 #[.agg #[sv, dv], .int .i64 at_, .string x] w (FMadeG w (putOf F at_ x)) := by
  obtain ⟨j0, hj, hy0, hy1, hy2⟩ := info_parts Try.infoD
  obtain ⟨a, c, rfl, -⟩ := id h.1.2
  obtain ⟨a', c', rfl, -⟩ := id h.2.2
  obtain ⟨f1, f2⟩ := id hf
  have HF := Lib.hid hf
  have HR := Lib.hid h
  clear h hf
  obtain ⟨O, hO⟩ : ∃ O, O = putD F.dir at_ x := ⟨_, rfl⟩
  unfold putOf
  rw [← hO]
  have H0 := Lib.hid hO
  clear hO
  go_enter Try.func42, Try.ntmps42
  go_wp2_with fail
  have hb2 : Below w.heap.size w ((w.alloc (.cells #[.slice a F.sec.length c, .slice a' F.dir.length c'] 26)).alloc (.cells #[.slice none 0 0, .slice none 0 0] 26)) := ((Below.refl _ w).alloc (Nat.le_refl _) _).alloc (by simp) _
  have r0 : ((w.alloc (.cells #[.slice a F.sec.length c, .slice a' F.dir.length c'] 26)).alloc (.cells #[.slice none 0 0, .slice none 0 0] 26)).cell? ⟨w.heap.size + 1, 0, none⟩ = some (.slice none 0 0) := by rw [cell_of_row _ _ _ _ _ _ (heap_alloc2_new w _ _)]; rfl
  have r1 : ((w.alloc (.cells #[.slice a F.sec.length c, .slice a' F.dir.length c'] 26)).alloc (.cells #[.slice none 0 0, .slice none 0 0] 26)).cell? ⟨w.heap.size + 1, 1, none⟩ = some (.slice none 0 0) := by rw [cell_of_row _ _ _ _ _ _ (heap_alloc2_new w _ _)]; rfl
  have s0 := frozen_of_row _ (w.heap.size + 1) 0 _ _ (heap_alloc2_new w (.cells #[.slice a F.sec.length c, .slice a' F.dir.length c'] 26) (.cells #[.slice none 0 0, .slice none 0 0] 26))
  have s1 := frozen_of_row _ (w.heap.size + 1) 1 _ _ (heap_alloc2_new w (.cells #[.slice a F.sec.length c, .slice a' F.dir.length c'] 26) (.cells #[.slice none 0 0, .slice none 0 0] 26))
  have hzW : w.heap.size + 2 = ((w.alloc (.cells #[.slice a F.sec.length c, .slice a' F.dir.length c'] 26)).alloc (.cells #[.slice none 0 0, .slice none 0 0] 26)).heap.size := by simp
  generalize ((w.alloc (.cells #[.slice a F.sec.length c, .slice a' F.dir.length c'] 26)).alloc (.cells #[.slice none 0 0, .slice none 0 0] 26)) = W0 at *
  refine (specCopyG _ _ F W0 (HR.out.below hb2 (Nat.le_refl _)) HF.out).mono ?_
  rintro e w1 ⟨sv1, dv1, rfl, hfg, hb1⟩
  have ho := hfg.own
  have hgs := hfg.2.2.2.1
  have hg := hfg.2.2.2.2
  clear hfg
  obtain ⟨a1, p1, rfl, -⟩ := id ho.1.2
  obtain ⟨a2, p2, rfl, -⟩ := id ho.2.1.2
  replace r0 := (hb1.cell (p := ⟨w.heap.size + 1, 0, none⟩) (by simp; omega)).trans r0
  replace r1 := (hb1.cell (p := ⟨w.heap.size + 1, 1, none⟩) (by simp; omega)).trans r1
  replace s0 := (hb1.frozen (p := ⟨w.heap.size + 1, 0, none⟩) (by simp; omega)).trans s0
  replace s1 := (hb1.frozen (p := ⟨w.heap.size + 1, 1, none⟩) (by simp; omega)).trans s1
  have hn1 : w.heap.size + 2 ≤ w1.heap.size := by have := hb1.size; omega
  have HB1 := Lib.hid (hb2.trans (hb1.mono (by omega)))
  have HO1 := Lib.hid (ho.lower (Nat.le_of_eq hzW))
  have HG1 := Lib.hid (hg.lower (Nat.le_of_eq hzW))
  have HGS1 := Lib.hid (hgs.lower (Nat.le_of_eq hzW))
  clear ho hg hgs hb1 hb2 hzW
  clear W0
  go_wp2_with fail
  have hz1 : w1.heap.size < (w1.alloc (.cells #[.slice a1 F.sec.length p1, .slice a2 F.dir.length p2] 26)).heap.size := by simp
  have hbA : Below w1.heap.size w1 (w1.alloc (.cells #[.slice a1 F.sec.length p1, .slice a2 F.dir.length p2] 26)) := alloc_below _ _
  have g0 : (w1.alloc (.cells #[.slice a1 F.sec.length p1, .slice a2 F.dir.length p2] 26)).cell? ⟨w1.heap.size, 0, none⟩ = some (.slice a1 F.sec.length p1) := by rw [World.cell?_alloc_new]; rfl
  have g1 : (w1.alloc (.cells #[.slice a1 F.sec.length p1, .slice a2 F.dir.length p2] 26)).cell? ⟨w1.heap.size, 1, none⟩ = some (.slice a2 F.dir.length p2) := by rw [World.cell?_alloc_new]; rfl
  have g2 : (w1.alloc (.cells #[.slice a1 F.sec.length p1, .slice a2 F.dir.length p2] 26)).frozen? ⟨w1.heap.size, 1, none⟩ = false := frozen_of_row _ w1.heap.size 1 _ _ (heap_alloc_new w1 _)
  generalize (w1.alloc (.cells #[.slice a1 F.sec.length p1, .slice a2 F.dir.length p2] 26)) = W at *
  replace r0 := (hbA.cell (p := ⟨w.heap.size + 1, 0, none⟩) (by simp; omega)).trans r0
  replace r1 := (hbA.cell (p := ⟨w.heap.size + 1, 1, none⟩) (by simp; omega)).trans r1
  replace s0 := (hbA.frozen (p := ⟨w.heap.size + 1, 0, none⟩) (by simp; omega)).trans s0
  replace s1 := (hbA.frozen (p := ⟨w.heap.size + 1, 1, none⟩) (by simp; omega)).trans s1
  have HO := Lib.hid (HO1.out.below hbA (Nat.le_refl _))
  have HG := Lib.hid (HG1.out.below hbA (Nat.le_refl _))
  have HGS := Lib.hid (HGS1.out.below hbA (Nat.le_refl _))
  have HBW := Lib.hid (HB1.out.trans (hbA.mono (by omega)))
  have HK1 := Lib.hid (HO1.out.1.blk)
  have HK2 := Lib.hid (HO1.out.2.1.blk)
  generalize w1.heap.size = g at *
  clear HO1 HG1 HGS1 HB1 hbA
  clear w1
  go_loop [8] (fun i => PutRel F at_ i) (fun i => F.dir.length - (intOf i).toNat)
  case atStart => exact ⟨0, by omega, rfl, fun j _ hj => absurd hj (by omega)⟩
  case round =>
    obtain ⟨k, hk, rfl, hseen⟩ := hrel
    have SEEN := Lib.hid hseen
    clear hseen
    by_cases hlt : k < F.dir.length
    · obtain ⟨b, off, rfl, hlo, hbl, hc, hfz⟩ := HO.out.2.1.get (by omega)
      have hkb := HK2.out b (blk_pos (by omega))
      have hc0 : W.cell? ⟨b, off + k * 2, none⟩ = some (.int .i64 F.dir[k].1) := by rw [hc (k * 2) (by omega), dirs_even _ k hlt]
      have hc1 : W.cell? ⟨b, off + k * 2 + 1, none⟩ = some (.string F.dir[k].2) := by rw [Nat.add_assoc, hc (k * 2 + 1) (by omega), dirs_odd _ k hlt]
      have hf1 : W.frozen? ⟨b, off + k * 2 + 1, none⟩ = false := by rw [Nat.add_assoc]; exact hfz (k * 2 + 1) (by omega)
      have e0 : (k : Int) < (F.dir.length : Int) := by omega
      have e1 : (0 : Int) ≤ (k : Int) := by omega
      clear hc hfz
      have n1 : ¬ g = b := by omega
      have n2 : ¬ w.heap.size + 1 = b := by omega
      have n3 : ¬ b = g := by omega
      have n4 : ¬ b = w.heap.size + 1 := by omega
      by_cases he : F.dir[k].1 = at_
      · have hO : O = F.dir.set k (at_, x) := H0.out.trans (put_hit at_ x F.dir k hlt SEEN.out he)
        have HGSET := Lib.hid (show Gr (W.setCell ⟨b, off + k * 2 + 1, none⟩ (.string x)) (w.heap.size + 2) 63 2 (.slice (some ⟨b, off, none⟩) F.dir.length p2) F.dir.length ((dirs F.dir).set (k * 2 + 1) (.string x)) by
          obtain rfl := HG.out.at0 (by omega)
          rw [Nat.zero_add]
          exact HG.out.set (by omega) _ _)
        rw [← dirs_set at_ x F.dir k hlt he] at HGSET
        have HSET := Lib.hid (HO.out.2.1.set (k * 2 + 1) (.string x) (by omega) ⟨_, by rw [← Nat.add_assoc]; exact hc1⟩)
        rw [← dirs_set at_ x F.dir k hlt he, ← Nat.add_assoc] at HSET
        have HLEN := Lib.hid (show O.length = F.dir.length by rw [hO, List.length_set])
        rw [← hO] at HSET HGSET
        have hsb : ∀ q, blk (.slice a1 F.sec.length p1) F.sec.length = some q → q ≠ b := fun q hq e => HO.out.2.2 q hq (by rw [blk_pos (by omega), e])
        have HSB := Lib.hid hsb
        clear hO hsb H0
        go_wp2_with fail
        refine bodyPost_ret (v := .agg #[.slice a1 F.sec.length p1, .slice (some ⟨b, off, none⟩) F.dir.length p2]) (by simp [results, Try.results42, go_sem, r0, r1, n1, n2, n3, n4]) rfl ⟨_, _, rfl, ⟨?_, ?_, ?_, ?_, ?_⟩, ?_⟩
        · refine Own.other (Own.other (Own.other (HO.out.1.lower (by omega)) _ _ (fun q hq => ?_)) _ _ (fun q hq => ?_)) _ _ (fun q hq => ?_)
          · exact HSB.out q hq
          · have := (HO.out.1.blk q hq).1; simp; omega
          · have := (HO.out.1.blk q hq).1; simp; omega
        · show Own _ _ _ O.length 2 (dirs O)
          rw [HLEN.out]
          refine Own.other (Own.other (HSET.out.lower (by omega)) _ _ (fun q hq => ?_)) _ _ (fun q hq => ?_) <;> (have := (HSET.out.blk q hq).1; simp; omega)
        · show ∀ q, blk _ F.sec.length = some q → blk _ O.length ≠ some q
          rw [HLEN.out]
          exact HO.out.2.2
        · exact (((HGS.out.other _ _ (fun q hq => HSB.out q hq)).low _ _ (by simp)).low _ _ (by simp)).lower (by omega)
        · show Gr _ _ _ 2 _ O.length (dirs O)
          rw [HLEN.out]
          exact ((HGSET.out.low _ _ (by simp)).low _ _ (by simp)).lower (by omega)
        · exact ((HBW.out.setCell (p := ⟨b, off + k * 2 + 1, none⟩) (by simp; omega) _).setCell (p := ⟨w.heap.size + 1, 0, none⟩) (by simp) _).setCell (p := ⟨w.heap.size + 1, 1, none⟩) (by simp) _
      · go_wp2_with fail
        go_round
        case rel =>
          refine ⟨k + 1, by omega, by go_num, fun j hj hjk => ?_⟩
          by_cases hjk' : j = k
          · subst hjk'; exact he
          · exact SEEN.out j hj (by omega)
        case measure => simp [intOf]; omega
    · obtain rfl : k = F.dir.length := by omega
      clear hlt hk
      go_wp2_with ((with_reducible show wpList _ _ _ (⟨some 39, _, _, _, _, _⟩ :: _) _ _); refine wpList_append_gr (lo := w.heap.size + 2) (e := 63) (sz := 2) (v := .slice a2 F.dir.length p2) (n := F.dir.length) (xs := dirs F.dir) rfl (.tmp 34) (.tmp 38) 24 rfl j0 _ 24 Try.underlying24 hj hy0 hy1 hy2 rfl (by decide) rfl (dirs_length _) ?_ ⟨W.heap.size, 0, none⟩ 1 1 rfl [.int .i64 at_, .string x] (by decide) rfl ?_ ?_ (by unfold maxLen; omega) (by omega) (by simp; omega) ?_)
      · exact HG.out.below (alloc_below _ _) (Nat.le_refl _)
      · exact ⟨rfl, rfl⟩
      · intro gg cap w2 hgn hgr hloc
        have ho := hgn.own
        have hblk : ∀ k, blk (.slice (some ⟨gg, 0, none⟩) (F.dir.length + 1) cap) (F.dir.length + 1) = some k → blk (.slice a2 F.dir.length p2) F.dir.length = some k ∨ (W.alloc (.cells #[.int .i64 at_, .string x] 63)).heap.size ≤ k := fun k hk => by
          rw [blk_pos (by omega)] at hk
          cases hk
          rcases hloc with h | h
          · exact .inl h
          · exact .inr (by simp; omega)
        have hzz : (W.alloc (.cells #[.int .i64 at_, .string x] 63)).heap.size = W.heap.size + 1 := by simp
        have hbA : Below W.heap.size W (W.alloc (.cells #[.int .i64 at_, .string x] 63)) := alloc_below _ _
        have hng : ∀ q, (q = g ∨ q < w.heap.size + 2) → blk (.slice a2 F.dir.length p2) F.dir.length ≠ some q := fun q hq e => by have := HK2.out q e; omega
        have hsk : ∀ q, blk (.slice a1 F.sec.length p1) F.sec.length = some q → q < W.heap.size ∧ w.heap.size + 2 ≤ q ∧ blk (.slice a2 F.dir.length p2) F.dir.length ≠ some q := fun q hq => ⟨(HO.out.1.blk q hq).2, (HO.out.1.blk q hq).1, HO.out.2.2 q hq⟩
        replace g0 := (grown_keep hgr (k := g) (by simp; omega) (hng _ (.inl rfl)) 0).1.trans ((hbA.cell (p := ⟨g, 0, none⟩) hz1).trans g0)
        replace g1 := (grown_keep hgr (k := g) (by simp; omega) (hng _ (.inl rfl)) 1).1.trans ((hbA.cell (p := ⟨g, 1, none⟩) hz1).trans g1)
        replace g2 := (grown_keep hgr (k := g) (by simp; omega) (hng _ (.inl rfl)) 1).2.trans ((hbA.frozen (p := ⟨g, 1, none⟩) hz1).trans g2)
        replace r0 := (grown_keep hgr (k := w.heap.size + 1) (by simp; omega) (hng _ (.inr (by omega))) 0).1.trans ((hbA.cell (p := ⟨w.heap.size + 1, 0, none⟩) (by simp; omega)).trans r0)
        replace r1 := (grown_keep hgr (k := w.heap.size + 1) (by simp; omega) (hng _ (.inr (by omega))) 1).1.trans ((hbA.cell (p := ⟨w.heap.size + 1, 1, none⟩) (by simp; omega)).trans r1)
        replace s0 := (grown_keep hgr (k := w.heap.size + 1) (by simp; omega) (hng _ (.inr (by omega))) 0).2.trans ((hbA.frozen (p := ⟨w.heap.size + 1, 0, none⟩) (by simp; omega)).trans s0)
        replace s1 := (grown_keep hgr (k := w.heap.size + 1) (by simp; omega) (hng _ (.inr (by omega))) 1).2.trans ((hbA.frozen (p := ⟨w.heap.size + 1, 1, none⟩) (by simp; omega)).trans s1)
        have hO : O = F.dir ++ [(at_, x)] := H0.out.trans (put_miss at_ x F.dir (fun j hj => SEEN.out j hj hj))
        rw [← dirs_append, ← hO] at ho hgn
        have HGN := Lib.hid hgn
        have HLEN := Lib.hid (show O.length = F.dir.length + 1 by rw [hO]; simp)
        have HOD := Lib.hid ho
        have HGR := Lib.hid hgr
        have HBLK := Lib.hid hblk
        have HSK := Lib.hid hsk
        have HBA := Lib.hid hbA
        have n1 : ¬ g = w.heap.size + 1 := by omega
        have n2 : ¬ w.heap.size + 1 = g := by omega
        clear ho hgn hloc hgr hblk hsk hbA hng hzz hO H0 hj hy0 hy1 hy2
        go_wp2_with fail
        have hW2 : Below w.heap.size w w2 := (HBW.out.trans (HBA.out.mono (by omega))).grown HGR.out (by simp; omega) (fun q hq => by have := HK2.out q hq; omega)
        have hS : Own w2 (w.heap.size + 2) (.slice a1 F.sec.length p1) F.sec.length 1 (strs F.sec) := (HO.out.1.below HBA.out (Nat.le_refl _)).two (s := none) (two_right HGR.out) (fun q hq => ⟨by simp, fun e => (HSK.out q hq).2.2 e.symm⟩)
        have hD : ∀ q, blk (.slice (some ⟨gg, 0, none⟩) (F.dir.length + 1) cap) (F.dir.length + 1) = some q → q ≠ g ∧ q ≠ w.heap.size + 1 ∧ blk (.slice a1 F.sec.length p1) F.sec.length ≠ some q := fun q hq => by
          have q1 := (HOD.out.blk q hq).1
          rcases HBLK.out q hq with e | e
          · have := HK2.out q e
            exact ⟨by omega, by omega, fun e2 => (HSK.out q e2).2.2 e⟩
          · (try simp at e)
            exact ⟨by omega, by omega, fun e2 => by have := (HSK.out q e2).1; omega⟩
        refine bodyPost_ret (v := .agg #[.slice a1 F.sec.length p1, .slice (some ⟨gg, 0, none⟩) (F.dir.length + 1) cap]) (by simp [results, Try.results42, go_sem, r0, r1, n1, n2]) rfl ⟨_, _, rfl, ⟨?_, ?_, ?_, ?_, ?_⟩, ?_⟩
        · refine Own.other (Own.other (Own.other (hS.lower (by omega)) _ _ (fun q hq => ?_)) _ _ (fun q hq => ?_)) _ _ (fun q hq => ?_) <;> (have := HK1.out q hq; simp; omega)
        · show Own _ _ _ O.length 2 (dirs O)
          rw [HLEN.out]
          refine Own.other (Own.other (Own.other (HOD.out.lower (by omega)) _ _ (fun q hq => ?_)) _ _ (fun q hq => ?_)) _ _ (fun q hq => ?_)
          · exact (hD q hq).1
          · exact (hD q hq).2.1
          · exact (hD q hq).2.1
        · show ∀ q, blk _ F.sec.length = some q → blk _ O.length ≠ some q
          rw [HLEN.out]
          exact fun q h1 h2 => (hD q h2).2.2 h1
        · have hGS : Gr w2 (w.heap.size + 2) 9 1 (.slice a1 F.sec.length p1) F.sec.length (strs F.sec) := (HGS.out.below HBA.out (Nat.le_refl _)).two (s := none) (two_right HGR.out) (fun q hq => ⟨by simp, fun e => (HSK.out q hq).2.2 e.symm⟩)
          exact (((hGS.other _ _ (fun q hq => by have := HK1.out q hq; simp; omega)).low _ _ (by simp)).low _ _ (by simp)).lower (by omega)
        · show Gr _ _ _ 2 _ O.length (dirs O)
          rw [HLEN.out]
          exact (((HGN.out.other _ _ (fun q hq => (hD q hq).1)).low _ _ (by simp)).low _ _ (by simp)).lower (by omega)
        · exact ((hW2.setCell (p := ⟨g, 1, none⟩) (by simp; omega) _).setCell (p := ⟨w.heap.size + 1, 0, none⟩) (by simp) _).setCell (p := ⟨w.heap.size + 1, 1, none⟩) (by simp) _
end Go.Proofs.Ytkeimgglikdbfaa
