/- The program's readPackage and PackageRead. -/
import Derived.Test.YtcpblmpapkhppaaGreatDoorKIn
import Derived.Test.YtcpblmpapkhppaaGreatDoorKOut
namespace Go.Proofs.YtcpblmpapkhppaaGreatDoor
open Go.RowKit

/-- What readPackage gives. -/
def RdPk (a : Nat → Addr) (s : ByteArray) (w : World) (e : Ending) (w' : World) : Prop :=
  ((unsealT s).2 = 0 ∧ pkGood (unsealT s).1 ∧ ∃ v, e = .returned (.tuple #[pkV (pkR s).1.1 (pkR s).1.2.1 v, .nilIface]) ∧ Gr w' w.heap.size 59 4 v (pkR s).1.2.2.length (stpCs (pkR s).1.2.2) ∧ (pkR s).2 = 0 ∧ Below w.heap.size w w') ∨
  (∃ T u, e = .returned (.tuple #[.agg #[.int .i64 0, .string { data := #[] }, .slice none 0 0], eL packW (.iface T u)]) ∧ pkR s = (noPk, (pkR s).2) ∧ ((((pkR s).2 = 2 ∨ (pkR s).2 = 4 ∨ (pkR s).2 = 5) ∧ Value.iface T u = eP (a (errI (pkR s).2))) ∨ ((pkR s).2 = 3 ∧ OddE a (.iface T u))) ∧ Below w.heap.size w w')
theorem pkR_seal {s : ByteArray} (h : ¬ (unsealT s).2 = 0) : pkR s = (noPk, (unsealT s).2) := by unfold pkR; rw [if_neg h]
theorem pkR_good {s : ByteArray} (h : (unsealT s).2 = 0) (hg : pkGood (unsealT s).1) : pkR s = (pkRd (unsealT s).1 (k3 (unsealT s).1).1.toNat, 0) := by unfold pkR; rw [if_pos h, if_pos hg]
theorem pkR_odd {s : ByteArray} (h : (unsealT s).2 = 0) (hg : ¬ pkGood (unsealT s).1) : pkR s = (noPk, 3) := by unfold pkR; rw [if_pos h, if_neg hg]
theorem pkR_len (s : ByteArray) : (pkR s).1.2.2.length ≤ 20 := by
  by_cases h : (pkR s).2 = 0
  · exact (pkR_ok h).1.len
  · unfold pkR at *
    split
    · rename_i h0
      rw [if_pos h0] at h
      split
      · rename_i hg
        rw [if_pos hg] at h
        exact absurd rfl h
      · exact Nat.zero_le _
    · exact Nat.zero_le _
set_option maxRecDepth 100000 in
set_option maxHeartbeats 2000000 in
theorem readPackage_any (s : ByteArray) (a : Nat → Addr) (w : World) (hs : s.size ≤ maxLen) (hL : Laid w) (hE : Sent w pkG a) :
    Calls Tryz.prog 31 #[.string s] w (RdPk a s w) := by
  have HL := Lib.hid hL
  have HE := Lib.hid hE
  clear hL hE
  have hcodes := unsealT_codes s
  have husz := unsealT_size s
  have HU := Lib.hid (fun w hE => unsealed_any s [3, 7, 4, 5] a w hs hE)
  have SE := Lib.hid (@pkR_seal s)
  have GO := Lib.hid (@pkR_good s)
  have OD := Lib.hid (@pkR_odd s)
  have Y0 := Lib.hid (bx_new w 24 #[.int .i64 0, .string { data := #[] }, .slice none 0 0])
  have B0 := Lib.hid (below_alloc1 w (.cells #[.int .i64 0, .string { data := #[] }, .slice none 0 0] 24))
  have z0 := size_alloc1 w (.cells #[.int .i64 0, .string { data := #[] }, .slice none 0 0] 24)
  obtain ⟨U, hU⟩ : ∃ U, U = unsealT s := ⟨_, rfl⟩
  rw [← hU] at hcodes husz HU SE GO OD
  have EU := Lib.hid hU
  clear hU
  obtain ⟨t, c⟩ := U
  unfold unsV at HU
  dsimp only at hcodes husz HU SE GO OD
  go_enter Tryz.func31, Tryz.ntmps31
  go_wp2_with fail
  generalize w.alloc (.cells #[.int .i64 0, .string { data := #[] }, .slice none 0 0] 24) = W0 at *
  refine (HU.out W0 (HE.out.next B0.out)).mono ?_
  clear HU
  by_cases hc : c = 0
  · subst hc
    rw [if_pos rfl]
    rintro e w1 ⟨rfl, hb⟩
    have g1 := hb.size
    have Y1 := Lib.hid (Y0.out.next hb)
    have B1 := Lib.hid (below_more B0.out hb)
    clear hb Y0 B0 SE
    go_wp2_with fail
    refine (packageIn_any t a w1 (by unfold maxLen; omega) (HL.out.below B1.out) (HE.out.next B1.out)).mono ?_
    rintro e w2 (⟨hg, v, rfl, hgr, hb⟩ | ⟨hg, T, u, hod, rfl, hb⟩)
    · have hpr := GO.out (by first | rfl | trivial) hg
      have HPR := Lib.hid hpr
      have HG := Lib.hid hg
      obtain ⟨b, hbe⟩ : ∃ b, b = (k1 t).1 := ⟨_, rfl⟩
      obtain ⟨d, hde⟩ : ∃ d, d = (k2 t).1 := ⟨_, rfl⟩
      obtain ⟨l, hle⟩ : ∃ l, l = (kS t (k3 t).1.toNat).1 := ⟨_, rfl⟩
      have HR := Lib.hid (show pkR s = ((b, d, l), 0) by rw [hpr]; unfold pkRd; rw [hbe, hde, hle])
      rw [← hle] at hgr
      rw [← hbe, ← hde]
      clear hbe hde hle hpr
      obtain ⟨a3, c3, rfl⟩ := gr_form hgr
      have g2 := hb.size
      have bz := below_alloc1 w2 (.cells #[.int .i64 b, .string d, .slice a3 l.length c3] 24)
      have hbb := below_more hb bz
      have Y2 := Lib.hid (Y1.out.next hbb)
      have B2 := Lib.hid (below_more B1.out hbb)
      have XP := Lib.hid (bx_new w2 24 #[.int .i64 b, .string d, .slice a3 l.length c3])
      have G2 := Lib.hid (hgr.below bz (Nat.le_refl _))
      clear hb bz hbb hgr Y1 B1
      obtain ⟨⟨y0, y1, y2⟩, f0, f1, f2⟩ := Y2.out.k3
      obtain ⟨⟨p0, p1, p2⟩, -⟩ := XP.out.k3
      unfold pkV
      go_wp2_with fail
      refine bodyPost_ret (v := .tuple #[.agg #[.int .i64 b, .string d, .slice a3 l.length c3], .nilIface]) (by simp [results, Tryz.results31, go_sem, y0, y1, y2]) rfl (.inl ⟨by rw [← EU.out], by rw [← EU.out]; exact HG.out, .slice a3 l.length c3, ?_, ?_, by rw [HR.out], ?_⟩)
      · rw [HR.out]; rfl
      · rw [HR.out]
        exact (((G2.out.low ⟨w.heap.size, 0, none⟩ _ (by simp; omega)).low ⟨w.heap.size, 1, none⟩ _ (by simp; omega)).low ⟨w.heap.size, 2, none⟩ _ (by simp; omega)).lower (by omega)
      · exact three_setK B2.out (Nat.le_refl _) _ _ _
    · have hpr := OD.out (by first | rfl | trivial) hg
      have HPR := Lib.hid hpr
      have HOD := Lib.hid hod
      have bz := below_alloc1 w2 (.cells #[.int .i64 0, .string { data := #[] }, .slice none 0 0] 24)
      have hbb := below_more hb bz
      have Y2 := Lib.hid (Y1.out.next hbb)
      have B2 := Lib.hid (below_more B1.out hbb)
      clear hb bz hbb hpr hod Y1 B1
      obtain ⟨⟨y0, y1, y2⟩, f0, f1, f2⟩ := Y2.out.k3
      go_wp2_with fail
      refine (packageError_any _ _ _).mono ?_
      rintro e w3 ⟨rfl, rfl⟩
      unfold eL
      go_wp2_with fail
      refine bodyPost_ret (v := .tuple #[.agg #[.int .i64 0, .string { data := #[] }, .slice none 0 0], .iface 127 (.agg #[.string packW, .iface T u])]) (by simp [eL, results, Tryz.results31, go_sem, y0, y1, y2]) rfl (.inr ⟨T, u, rfl, by rw [HPR.out], .inr ⟨by rw [HPR.out], HOD.out⟩, ?_⟩)
      exact three_setK B2.out (Nat.le_refl _) _ _ _
  · rw [if_neg hc]
    have hpr := SE.out hc
    have hcc := (hcodes.resolve_left hc).1
    rintro e w1 ⟨rfl, hb⟩
    have Y1 := Lib.hid (Y0.out.next hb)
    have B1 := Lib.hid (below_more B0.out hb)
    have HPR := Lib.hid hpr
    have HCC := Lib.hid hcc
    clear hb Y0 B0 SE GO OD hcodes hpr hcc
    obtain ⟨⟨y0, y1, y2⟩, f0, f1, f2⟩ := Y1.out.k3
    unfold eP
    go_wp2_with fail
    refine (packageError_any _ _ _).mono ?_
    rintro e w3 ⟨rfl, rfl⟩
    unfold eL
    go_wp2_with fail
    refine bodyPost_ret (v := .tuple #[.agg #[.int .i64 0, .string { data := #[] }, .slice none 0 0], .iface 127 (.agg #[.string packW, .iface 221 (.pointer (some (a (errI c))))])]) (by simp [eL, results, Tryz.results31, go_sem, y0, y1, y2]) rfl (.inr ⟨_, _, rfl, by rw [HPR.out], .inl ⟨by rw [HPR.out]; exact HCC.out, by rw [HPR.out]; rfl⟩, ?_⟩)
    exact three_setK B1.out (Nat.le_refl _) _ _ _
set_option maxRecDepth 100000 in
set_option maxHeartbeats 2000000 in
theorem implPkRead (s : ByteArray) (a : Nat → Addr) (w : World) (hs : s.size ≤ maxLen) (hL : Laid w) (hE : Sent w pkG a) :
    Calls Tryz.prog 6 #[.string s] w (MadePk (pkR s) w) := by
  have HL := Lib.hid hL
  have HE := Lib.hid hE
  clear hL hE
  have HR := Lib.hid (fun w hL hE => readPackage_any s a w hs hL hE)
  unfold RdPk at HR
  obtain ⟨R, hR⟩ : ∃ R, R = pkR s := ⟨_, rfl⟩
  rw [← hR] at HR ⊢
  clear hR
  obtain ⟨⟨b, d, l⟩, c⟩ := R
  have Y0 := Lib.hid (bx_new w 26 #[.int .i64 0, .string { data := #[] }, .slice none 0 0, .int .i64 0])
  have B0 := Lib.hid (below_alloc1 w (.cells #[.int .i64 0, .string { data := #[] }, .slice none 0 0, .int .i64 0] 26))
  have z0 := size_alloc1 w (.cells #[.int .i64 0, .string { data := #[] }, .slice none 0 0, .int .i64 0] 26)
  go_enter Tryz.func6, Tryz.ntmps6
  go_wp2_with fail
  generalize w.alloc (.cells #[.int .i64 0, .string { data := #[] }, .slice none 0 0, .int .i64 0] 26) = W0 at *
  refine (HR.out W0 (HL.out.below B0.out) (HE.out.next B0.out)).mono ?_
  clear HR
  rintro e w1 (⟨-, -, v, rfl, hgr, hc, hb⟩ | ⟨T, u, rfl, hno, hcode, hb⟩)
  · obtain rfl : c = 0 := hc
    obtain ⟨a3, c3, rfl⟩ := gr_form hgr
    have bz := below_alloc1 w1 (.cells #[.int .i64 b, .string d, .slice a3 l.length c3] 24)
    have hbb := below_more hb bz
    have g1 := hb.size
    have Y1 := Lib.hid (Y0.out.next hbb)
    have B1 := Lib.hid (below_more B0.out hbb)
    have XP := Lib.hid (bx_new w1 24 #[.int .i64 b, .string d, .slice a3 l.length c3])
    have G1 := Lib.hid (hgr.below bz (Nat.le_refl _))
    clear hb bz hbb hgr Y0 B0
    obtain ⟨⟨y0, y1, y2, y3⟩, f0, f1, f2, f3⟩ := Y1.out.k4
    obtain ⟨⟨p0, p1, p2⟩, -⟩ := XP.out.k3
    unfold pkV
    go_wp2_with fail
    refine bodyPost_ret (v := .agg #[.int .i64 b, .string d, .slice a3 l.length c3, .int .i64 0]) (by simp [results, Tryz.results6, go_sem, y0, y1, y2, y3]) rfl ⟨.slice a3 l.length c3, rfl, ?_, ?_⟩
    · exact ((((G1.out.low ⟨w.heap.size, 0, none⟩ _ (by simp; omega)).low ⟨w.heap.size, 1, none⟩ _ (by simp; omega)).low ⟨w.heap.size, 2, none⟩ _ (by simp; omega)).low ⟨w.heap.size, 3, none⟩ _ (by simp; omega)).lower (by omega)
    · exact four_setK B1.out _ _ _ _
  · have hl : l = [] ∧ b = 0 ∧ d = ⟨#[]⟩ := by
      have := congrArg Prod.fst hno
      simp only [noPk, Prod.mk.injEq] at this
      exact ⟨this.2.2, this.1, this.2.1⟩
    obtain ⟨rfl, rfl, rfl⟩ := hl
    have bz := below_alloc1 w1 (.cells #[.int .i64 0, .string { data := #[] }, .slice none 0 0] 24)
    have hbb := below_more hb bz
    have Y1 := Lib.hid (Y0.out.next hbb)
    have B1 := Lib.hid (below_more B0.out hbb)
    have E1 := Lib.hid (HE.out.next B1.out)
    have SC := Lib.hid (show ∀ w', Sent w' pkG a → Calls Tryz.prog 32 #[eL packW (.iface T u)] w' fun e w'' => e = .returned (.int .i64 c) ∧ Below w'.heap.size w' w'' from fun w' hE' => by
      rcases hcode with ⟨hcc, he⟩ | ⟨h3, hod⟩
      · rw [he]
        exact sealedCode_L packW c hcc [3, 7, 4, 5] a w' hE'
      · rw [show c = 3 from h3]
        exact sealedCode_other _ _ [3, 7, 4, 5] a w' hE' (hod.not packW w' hE'))
    unfold eL at SC
    clear hb bz hbb hcode hno Y0 B0
    unfold eL
    go_wp2_with fail
    refine (SC.out _ E1.out).mono ?_
    rintro e w2 ⟨rfl, hb⟩
    have Y2 := Lib.hid (Y1.out.next hb)
    have B2 := Lib.hid (below_more B1.out hb)
    clear hb SC Y1 B1
    obtain ⟨⟨y0, y1, y2, y3⟩, f0, f1, f2, f3⟩ := Y2.out.k4
    go_wp2_with fail
    refine bodyPost_ret (v := .agg #[.int .i64 0, .string { data := #[] }, .slice none 0 0, .int .i64 c]) (by simp [results, Tryz.results6, go_sem, y0, y1, y2, y3]) rfl ⟨.slice none 0 0, rfl, Gr.nil _ _ _ _, ?_⟩
    exact four_setK B2.out _ _ _ _
end Go.Proofs.YtcpblmpapkhppaaGreatDoor
