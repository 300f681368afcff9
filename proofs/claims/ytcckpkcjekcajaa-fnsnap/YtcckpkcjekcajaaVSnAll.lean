/- SnapAll: the specification's and the program's. -/
import Derived.Test.YtcckpkcjekcajaaVRd
import Derived.Test.YtcckpkcjekcajaaCSIa
namespace Go.Proofs.Ytcckpkcjekcajaa
open Go.RowKit

set_option maxRecDepth 100000 in
set_option maxHeartbeats 1000000 in
theorem specSnapAll (v u : Value) (image : List ByteArray) (l : List stpT) (w : World) (h : Rd w v image.length 1 (strs image)) (hl : Rd w u l.length 4 (stpCs l)) (hn : image.length ≤ 1048576) (hm : l.length ≤ 1048576) :
    Calls Try.prog 18 #[v, u] w (OwnZ w (applyR image l)) := by
  obtain ⟨a, c, rfl, -⟩ := id h.2
  obtain ⟨a', c', rfl, -⟩ := id hl.2
  obtain ⟨R, hR⟩ : ∃ R, R = applyR image l := ⟨_, rfl⟩
  rw [← hR]
  have HR := Lib.hid hR
  clear hR
  have g0 := below_alloc1 w (.cells #[.slice none 0 0, .int .i64 0] 37)
  have X0 := Lib.hid (bx_new w 37 #[.slice none 0 0, .int .i64 0])
  have HA := Lib.hid (h.below g0 (Nat.le_refl _))
  have HL := Lib.hid (hl.below g0 (Nat.le_refl _))
  have hz := size_alloc1 w (.cells #[.slice none 0 0, .int .i64 0] 37)
  have G0 := Lib.hid g0
  clear g0 h hl
  go_enter Try.func18, Try.ntmps18
  go_wp2_with fail
  generalize w.alloc (.cells #[.slice none 0 0, .int .i64 0] 37) = W0 at *
  have hc := specImageApply _ _ image l W0 HA.out HL.out hn hm
  rw [← HR.out] at hc
  refine hc.mono ?_
  clear hc
  rintro e W1 ⟨v1, rfl, ho, hb⟩
  obtain ⟨a1, c1, rfl, -⟩ := id ho.2
  have hx := X0.out.next hb
  have c0 := hx.cell 0
  have c1' := hx.cell 1
  have z0 := hx.frozen 0
  have z1 := hx.frozen 1
  simp at c0 c1'
  have G9 := Lib.hid (G0.out.trans (hb.mono (by omega)))
  have HO := Lib.hid (ho.lower (show w.heap.size ≤ W0.heap.size by omega))
  have HO2 := Lib.hid ho
  clear hb hx ho
  go_wp2_with fail
  refine bodyPost_ret (v := .agg #[.slice a1 R.1.length c1, .int .i64 R.2]) (by simp [results, Try.results18, go_sem, c0, c1']) rfl ⟨_, rfl, ?_, ?_⟩
  · exact (HO.out.other ⟨w.heap.size, 0, none⟩ _ (fun k hk => by have := (HO2.out.blk k hk).1; show k ≠ w.heap.size; omega)).other ⟨w.heap.size, 1, none⟩ _ (fun k hk => by have := (HO2.out.blk k hk).1; show k ≠ w.heap.size; omega)
  · exact (G9.out.setCell (p := ⟨w.heap.size, 0, none⟩) (Nat.le_refl _) _).setCell (p := ⟨w.heap.size, 1, none⟩) (Nat.le_refl _) _

def SaRel (n fg : Nat) (L : List ByteArray) (W3 : World) (i : Value) (wr : World) : Prop :=
  ∃ k : Nat, k ≤ n ∧ i = .int .i64 k ∧ CellsAt wr fg 9 n (fun j => .string (if j < k then L.getD j ByteArray.empty else ByteArray.empty)) ∧ Below fg W3 wr
set_option maxRecDepth 100000 in
set_option maxHeartbeats 4000000 in
theorem implSnapAll (v u : Value) (base : List ByteArray) (l : List stpT) (w : World) (h : Rd w v base.length 1 (strs base)) (hl : Rd w u l.length 4 (stpCs l)) (hn : base.length ≤ 1048576) (hm : l.length ≤ 1048576) :
    Calls Try.prog 19 #[v, u] w (OwnZ w (applyR base l)) := by
  obtain ⟨i0, hi, hzz0, hzz1, hzz2⟩ := info_parts Try.info9
  obtain ⟨a, c, rfl, -⟩ := id h.2
  obtain ⟨a', c', rfl, -⟩ := id hl.2
  obtain ⟨R, hR⟩ : ∃ R, R = applyR base l := ⟨_, rfl⟩
  rw [← hR]
  have HR := Lib.hid hR
  clear hR
  have g0 := below_alloc1 w (.cells #[.slice none 0 0, .int .i64 0] 37)
  have X0 := Lib.hid (bx_new w 37 #[.slice none 0 0, .int .i64 0])
  have HA := Lib.hid (h.below g0 (Nat.le_refl _))
  have HL := Lib.hid (hl.below g0 (Nat.le_refl _))
  have hz := size_alloc1 w (.cells #[.slice none 0 0, .int .i64 0] 37)
  have G0 := Lib.hid g0
  clear g0 h hl
  obtain ⟨C, hC⟩ : ∃ C, C = applyC base l := ⟨_, rfl⟩
  have HC := Lib.hid hC
  clear hC
  by_cases hc0 : C = 0
  rotate_left
  · have hr : R = ([], C) := by rw [HR.out, HC.out]; exact applyR_no (by rw [← HC.out]; exact hc0)
    subst hr
    have dc : (C != 0) = true := by simpa using hc0
    clear HR hc0 hi hzz0 hzz1 hzz2
    go_enter Try.func19, Try.ntmps19
    go_wp2_with fail
    generalize w.alloc (.cells #[.slice none 0 0, .int .i64 0] 37) = W0 at *
    have hs := implAC _ _ base l W0 HA.out HL.out hn hm
    rw [← HC.out] at hs
    refine hs.mono ?_
    clear hs
    rintro e W1 ⟨rfl, hb⟩
    have hx := X0.out.next hb
    have c0 := hx.cell 0
    have c1 := hx.cell 1
    have z0 := hx.frozen 0
    have z1 := hx.frozen 1
    simp at c0 c1
    have G9 := Lib.hid (G0.out.trans (hb.mono (by omega)))
    clear hb hx
    go_wp2_with fail
    refine bodyPost_ret (v := .agg #[.slice none 0 0, .int .i64 C]) (by simp [results, Try.results19, go_sem, c0, c1]) rfl ⟨_, rfl, ownNil _ _ _, ?_⟩
    exact (G9.out.setCell (p := ⟨w.heap.size, 0, none⟩) (Nat.le_refl _) _).setCell (p := ⟨w.heap.size, 1, none⟩) (Nat.le_refl _) _
  subst hc0
  have h0 := HC.out.symm
  have H0 := Lib.hid h0
  obtain ⟨hib, hcode, -⟩ := applyC_ok h0
  have hn8 := ((imgB_iff base).1 hib).1
  have TO := Lib.hid (fitTo_of hcode)
  have hr : R = (applyL base l, 0) := by rw [HR.out]; exact applyR_yes h0
  subst hr
  have HLN := Lib.hid (applyL_length base l)
  have HAT := Lib.hid (fun (i : Nat) (hi : i < base.length) => snap_apply h0 hi)
  obtain ⟨L, hL⟩ : ∃ L, L = applyL base l := ⟨_, rfl⟩
  rw [← hL] at HLN HAT ⊢
  clear hib hcode h0 HR hL
  go_enter Try.func19, Try.ntmps19
  go_wp2_with fail
  generalize w.alloc (.cells #[.slice none 0 0, .int .i64 0] 37) = W0 at *
  have hs := implAC _ _ base l W0 HA.out HL.out hn hm
  rw [← HC.out] at hs
  refine hs.mono ?_
  clear hs
  rintro e W1 ⟨rfl, hb⟩
  replace X0 := Lib.hid (X0.out.next hb)
  replace G0 := Lib.hid (G0.out.trans (hb.mono (by omega)))
  replace HA := Lib.hid (HA.out.below hb (Nat.le_refl _))
  replace HL := Lib.hid (HL.out.below hb (Nat.le_refl _))
  have hz1 := hb.size
  clear hb
  go_wp2_with fail
  refine (implSnapOf _ _ l _ a a' base.length c c' rfl rfl HL.out hm TO.out).mono ?_
  rintro e W2 ⟨g, rfl, hg, hmap, hb⟩
  have gS := below_alloc1 W2 (.cells #[.slice a base.length c, .slice a' l.length c', .map (some g)] 69)
  have XS := Lib.hid (bx_new W2 69 #[.slice a base.length c, .slice a' l.length c', .map (some g)])
  have hzS := size_alloc1 W2 (.cells #[.slice a base.length c, .slice a' l.length c', .map (some g)] 69)
  have hb' := below_more hb gS
  replace X0 := Lib.hid (X0.out.next hb')
  replace G0 := Lib.hid (G0.out.trans (hb'.mono (by omega)))
  replace HA := Lib.hid (HA.out.below hb' (Nat.le_refl _))
  replace HL := Lib.hid (HL.out.below hb' (Nat.le_refl _))
  have MM := Lib.hid (hmap.below gS (Nat.le_refl _))
  have hz2 := hb.size
  clear hb hb' hmap gS
  go_wp2_with (at_make; refine wpList_make_full _ rfl _ _ 22 rfl (W2.alloc (.cells #[.slice a base.length c, .slice a' l.length c', .map (some g)] 69)).heap.size 9 i0 (.string ByteArray.empty) 1 Try.underlying22 hi hzz0 hzz1 .i64 .i64 _ _ base.length rfl rfl (by omega) (by omega) (by rw [hzz2]; omega) (by unfold maxLen; omega) (Nat.le_refl _) ?_)
  intro w4 hown4 hgrow4
  generalize W2.alloc (.cells #[.slice a base.length c, .slice a' l.length c', .map (some g)] 69) = W3 at *
  generalize W2.heap.size = sb at *
  have hg4 := own_block hown4
  rw [toList_madeCells_one] at hg4
  have HG4 := Lib.hid (made_strs hg4)
  have hb4 : Below W3.heap.size W3 w4 := (Below.refl _ W3).grown hgrow4 (Nat.le_refl _) (by simp)
  rw [hzS] at hb4
  have HB4 := Lib.hid hb4
  clear hown4 hgrow4 hg4 hb4 hi hzz0 hzz1 hzz2
  go_wp2_with fail
  go_loopw [24] (fun i wr => SaRel base.length (sb + 1) L W3 i wr) (fun i _ => base.length - (intOf i).toNat)
  case atStart => exact ⟨0, by omega, rfl, HG4.out, HB4.out⟩
  case round =>
    clear HG4 HB4
    obtain ⟨k, hk, rfl, hcs, hbz⟩ := hrel
    have hbel : Below W3.heap.size W3 wr := by rw [hzS]; exact hbz
    have HCS := Lib.hid hcs
    have HBEL := Lib.hid hbz
    have hsz := hbz.size
    by_cases hlt : k < base.length
    · have hxs := XS.out.next hbel
      have t0 := hxs.t0
      have t1 := hxs.t1
      have t2 := hxs.t2
      have e0 : (k : Int) < (base.length : Int) := by omega
      have e1 : (0 : Int) ≤ (k : Int) := by omega
      have hcall := implRead a a' c c' g l.length k base l wr (HA.out.below hbel (Nat.le_refl _)) (HL.out.below hbel (Nat.le_refl _)) (MM.out.below hbel (Nat.le_refl _)) hn hm H0.out hlt
      have HK := Lib.hid (show L.getD k ByteArray.empty = snapB base l k by rw [List.getD_eq_getElem?_getD, HAT.out k hlt]; rfl)
      obtain ⟨Z, hZ⟩ : ∃ Z, Z = snapB base l k := ⟨_, rfl⟩
      rw [← hZ] at hcall HK
      have hfg : sb + 1 < wr.heap.size := hcs.lt
      clear hZ hxs hcs hbel hbz
      go_wp2_with fail
      refine hcall.mono ?_
      clear hcall
      rintro e w5 ⟨rfl, hb5⟩
      have hcs5 := HCS.out.below hb5 hfg
      have HCS5 := Lib.hid hcs5
      have HB5 := Lib.hid (HBEL.out.trans (hb5.mono (by omega)))
      have hc2 := hcs5.cell k hlt
      have hf2 := hcs5.frozen k
      clear hb5 hcs5 t0 t1 t2
      go_wp2_with fail
      go_roundw
      case rel =>
        refine ⟨k + 1, by omega, by go_num, ?_, HB5.out.setCell (p := ⟨sb + 1, k, none⟩) (Nat.le_refl _) _⟩
        refine HCS5.out.set k _ ?_ ?_
        · show Value.string (if k < k + 1 then L.getD k ByteArray.empty else ByteArray.empty) = _
          rw [if_pos (by omega), HK.out]
        · intro i hi
          show Value.string (if i < k + 1 then L.getD i ByteArray.empty else ByteArray.empty) = .string (if i < k then L.getD i ByteArray.empty else ByteArray.empty)
          by_cases h1 : i < k
          · rw [if_pos h1, if_pos (by omega)]
          · rw [if_neg h1, if_neg (by omega)]
      case measure => simp [intOf]; omega
    · obtain rfl : k = base.length := by omega
      have hx := X0.out.next hbel
      have c0 := hx.cell 0
      have c1 := hx.cell 1
      have z0 := hx.frozen 0
      have z1 := hx.frozen 1
      simp at c0 c1
      have hgz : w.heap.size ≠ sb + 1 := by omega
      have HO := Lib.hid (show Own wr w.heap.size (.slice (some ⟨sb + 1, 0, none⟩) L.length base.length) L.length 1 (strs L) from by
        rw [HLN.out]
        refine own_of_cells HCS.out (by omega) (by omega) (by rw [strs_length, HLN.out]; omega) (fun j hj => ?_)
        rw [strs_at L j (by rw [HLN.out]; omega), if_pos (by omega), List.getD_eq_getElem?_getD, List.getElem?_eq_getElem (by rw [HLN.out]; omega)]; rfl)
      have G9 := Lib.hid (G0.out.trans (HBEL.out.mono (by omega)))
      have hl9 : ((base.length : Int)) = (L.length : Int) := by rw [HLN.out]
      have HL9 := Lib.hid hl9
      clear hx hcs hbel hbz hl9
      go_wp2_with fail
      refine bodyPost_ret (v := .agg #[.slice (some ⟨sb + 1, 0, none⟩) base.length base.length, .int .i64 0]) (by simp [results, Try.results19, go_sem, c0, c1]) rfl ⟨.slice (some ⟨sb + 1, 0, none⟩) base.length base.length, rfl, ?_, ?_⟩
      · have ho := HO.out
        rw [HLN.out] at ho
        rw [HLN.out]
        exact (ho.other ⟨w.heap.size, 0, none⟩ _ (fun k hk => by unfold blk at hk; split at hk <;> simp [Value.ownBlock] at hk; show k ≠ w.heap.size; omega)).other ⟨w.heap.size, 1, none⟩ _ (fun k hk => by unfold blk at hk; split at hk <;> simp [Value.ownBlock] at hk; show k ≠ w.heap.size; omega)
      · exact (G9.out.setCell (p := ⟨w.heap.size, 0, none⟩) (Nat.le_refl _) _).setCell (p := ⟨w.heap.size, 1, none⟩) (Nat.le_refl _) _
end Go.Proofs.Ytcckpkcjekcajaa
