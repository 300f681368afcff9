/- The law FnImage. -/
import Derived.Test.YtcckpkcjekcajaaDoorCDraw3
import Derived.Test.YtcckpkcjekcajaaDoorCDig
import Derived.Test.YtcckpkcjekcajaaDoorCIAp
import Derived.Test.YtcckpkcjekcajaaDoorCSIa
import Derived.Test.YtcckpkcjekcajaaDoorCLwI
namespace Go.Proofs.YtcckpkcjekcajaaDoor
open Go.RowKit

theorem xorS_back {a b : ByteArray} (ha : a.size = 8) (hb : b.size = 8) : xorS (xorS a b) b = a := by
  have e : xorS a b = xor8 a b := by unfold xorS; rw [if_pos ⟨ha, hb⟩]
  rw [e, xorS_comm]
  unfold xorS
  rw [if_pos ⟨hb, xor8_size _ _⟩]
  refine block_ext (xor8_size _ _) ha fun i hi => ?_
  rw [bat_xor8 _ _ i hi, bat_xor8 _ _ i hi, UInt8.xor_comm (bat a i), ← UInt8.xor_assoc, UInt8.xor_self, UInt8.zero_xor]
/-- What block i is to be, of the first k steps. -/
def wantT (image : List ByteArray) (l : List stpT) (i k : Nat) : ByteArray := (l.take k).foldl (want1 image i) (image.getD i ⟨#[]⟩)
theorem wantT_zero (image : List ByteArray) (l : List stpT) (i : Nat) (h : i < image.length) : wantT image l i 0 = image[i] := by
  unfold wantT; rw [List.take_zero]; show image.getD i ⟨#[]⟩ = _; rw [List.getD_eq_getElem?_getD, List.getElem?_eq_getElem h]; rfl
theorem wantT_no {image : List ByteArray} {l : List stpT} {i k : Nat} (h : k < l.length) (hn : ¬ (l[k].1 ≠ 5 ∧ l[k].2.1 = (i : Int))) : wantT image l i (k + 1) = wantT image l i k := by
  unfold wantT
  rw [List.take_succ_eq_append_getElem h, List.foldl_append]
  show want1 image i _ l[k] = _
  unfold want1; rw [if_neg hn]
theorem wantT_yes {image : List ByteArray} {l : List stpT} {i k : Nat} (h : k < l.length) (hy : l[k].1 ≠ 5 ∧ l[k].2.1 = (i : Int)) : wantT image l i (k + 1) = makeS l[k] (image.getD l[k].2.2.1.toNat ⟨#[]⟩) := by
  unfold wantT
  rw [List.take_succ_eq_append_getElem h, List.foldl_append]
  show want1 image i _ l[k] = _
  unfold want1; rw [if_pos hy]
theorem wantT_all {image : List ByteArray} {l : List stpT} {i : Nat} (h : i < image.length) (hl : ∀ x ∈ l, x.1 ≠ 5 → 0 ≤ x.2.1) : (applyL image l)[i]? = some (wantT image l i l.length) := by
  unfold wantT applyL
  rw [List.take_length]
  exact fold_at image i l image _ hl (by rw [List.getElem?_eq_getElem h, List.getD_eq_getElem?_getD, List.getElem?_eq_getElem h]; rfl)
theorem join_two {G : Prop} {S X : World → Prop} (p : Hid (∀ w, S w → X w) → G) (c : ∀ w, S w → X w) : G := p (Lib.hid c)
theorem keepIS {W W' : World} {n m : Nat} {T U : TypeId} {a b e f g h : Value} (X : Bx W n T #[a, b]) (Y : Bx W m U #[e, f, g, h]) (k : Below W.heap.size W W') :
    W'.cell? ⟨n, 0, none⟩ = some a ∧ W'.cell? ⟨n, 1, none⟩ = some b ∧ W'.cell? ⟨m, 0, none⟩ = some e ∧ W'.cell? ⟨m, 1, none⟩ = some f ∧ W'.cell? ⟨m, 2, none⟩ = some g ∧ W'.cell? ⟨m, 3, none⟩ = some h ∧ Below W.heap.size W W' :=
  ⟨(X.next k).c0, (X.next k).c1, (Y.next k).q0, (Y.next k).q1, (Y.next k).q2, (Y.next k).q3, k⟩
def FiCut (W : World) (c : Value) (wx : World) : Prop := c = .bool false ∧ Below W.heap.size W wx
def FiOut (n : Nat) (W : World) (i : Value) (wr : World) : Prop := ∃ k : Nat, k ≤ n ∧ i = .int .i64 (k : Int) ∧ Below W.heap.size W wr
def FiIn (image : List ByteArray) (l : List stpT) (j : Nat) (W : World) (t i : Value) (wr : World) : Prop := ∃ k : Nat, k ≤ l.length ∧ i = .int .i64 (k : Int) ∧ t = .string (wantT image l j k) ∧ Below W.heap.size W wr

set_option maxRecDepth 100000 in
set_option maxHeartbeats 8000000 in
theorem imageLaw_mid (a0 a1 : Option Addr) (len0 cap0 len1 cap1 : Nat) (w : World) (hB0 : Bytes w a0 len0) (hB1 : Bytes w a1 len1) (h0 : len0 ≤ 1048576) (h1 : len1 ≤ 1048576) (hL : LaidT w) :
    Calls Tryd.prog 3 #[.slice a0 len0 cap0, .slice a1 len1 cap1] w fun e w' => e = .returned (.bool true) ∧ Below w.heap.size w w' := by
  have B0 := Lib.hid hB0
  have B1 := Lib.hid hB1
  have HL := Lib.hid hL
  clear hB0 hB1 hL
  have d0 : decide ((1048576 : Int) < (len0 : Int)) = false := decide_eq_false (by omega)
  have d1 : decide ((1048576 : Int) < (len1 : Int)) = false := decide_eq_false (by omega)
  go_enter Tryd.func3, Tryd.ntmps3
  go_wp2_with fail
  refine (drawApply_any a0 len0 cap0 w B0.out h0).mono ?_
  rintro e w1 ⟨im, vi, l, vl, him, hl, hims, hls, rfl, hgi, hgl, hb⟩
  obtain ⟨ai, ci, rfl⟩ := gr_form hgi
  obtain ⟨al, cl, rfl⟩ := gr_form hgl
  have RI := Lib.hid hgi.own.rd
  have RL := Lib.hid hgl.own.rd
  have BW := Lib.hid hb
  have HIS := Lib.hid hims
  have HLS := Lib.hid hls
  clear hgi hgl hb B0 hims hls
  go_wp2_with fail
  have HIA := Lib.hid (fun w h k => implImageApply (.slice ai im.length ci) (.slice al l.length cl) im l w h k (by omega) (by omega))
  have HSA := Lib.hid (fun w h k => specImageApply (.slice ai im.length ci) (.slice al l.length cl) im l w h k (by omega) (by omega))
  have hRl := applyR_len im l
  have HOKR := Lib.hid (show (applyR im l).2 = 0 → imgB im = true ∧ codeS l (im.length : Int) = 0 ∧ applyR im l = (applyL im l, 0) from fun h => by
    unfold applyR at h ⊢
    by_cases h1 : 400 < im.length ∨ 400 < l.length
    · rw [if_pos h1] at h; cases h
    · rw [if_neg h1] at h ⊢
      by_cases h2 : imgB im = false
      · rw [if_pos h2] at h; cases h
      · rw [if_neg h2] at h ⊢
        by_cases h3 : codeS l (im.length : Int) ≠ 0
        · rw [if_pos h3] at h; exact absurd h h3
        · rw [if_neg h3]; exact ⟨by simpa using h2, by simpa using h3, rfl⟩)
  obtain ⟨R, hR⟩ : ∃ R, R = applyR im l := ⟨_, rfl⟩
  rw [← hR] at HIA HSA hRl HOKR
  clear hR
  have H9 : R.1.length ≤ 1048576 := by omega
  have LW := Lib.hid (fun v u w h k => lwImage_any v u R w h k H9)
  refine (HIA.out _ RI.out RL.out).mono ?_
  rintro e w2 ⟨vx, rfl, hox, hb⟩
  obtain ⟨ax, cx, rfl, -⟩ := id hox.2
  have hbb := below_more hb (below_alloc1 w2 (.cells #[.slice ax R.1.length cx, .int .i64 R.2] 28))
  have XB := Lib.hid (bx_new w2 28 #[.slice ax R.1.length cx, .int .i64 R.2])
  have RX := Lib.hid (hox.rd.below (below_alloc1 w2 (.cells #[.slice ax R.1.length cx, .int .i64 R.2] 28)) (Nat.le_refl _))
  replace RI := Lib.hid (RI.out.below hbb (Nat.le_refl _))
  replace RL := Lib.hid (RL.out.below hbb (Nat.le_refl _))
  replace BW := Lib.hid (below_more BW.out hbb)
  clear hb hbb hox HIA
  go_wp2_with fail
  generalize w2.alloc (.cells #[.slice ax R.1.length cx, .int .i64 R.2] 28) = W2 at *
  generalize w2.heap.size = nx at *
  refine (drawXored_any a1 len1 cap1 W2 (B1.out.below BW.out) h1).mono ?_
  rintro e w3 ⟨a, b, ha, hb', rfl, hb⟩
  replace XB := Lib.hid (XB.out.next hb)
  replace RX := Lib.hid (RX.out.below hb (Nat.le_refl _))
  replace RI := Lib.hid (RI.out.below hb (Nat.le_refl _))
  replace RL := Lib.hid (RL.out.below hb (Nat.le_refl _))
  replace BW := Lib.hid (below_more BW.out hb)
  clear hb
  go_wp2_with fail
  refine (drawMade_any a1 len1 cap1 w3 (B1.out.below BW.out) h1).mono ?_
  rintro e w4 ⟨mm, vm, y, hmm, hms, hy, rfl, hgm, hb⟩
  obtain ⟨am, cm, rfl⟩ := gr_form hgm
  unfold stpV
  have hbb := below_more hb (below_alloc1 w4 (.cells #[.int .i64 y.1, .int .i64 y.2.1, .int .i64 y.2.2.1, .string y.2.2.2] 33))
  have YB := Lib.hid (bx_new w4 33 #[.int .i64 y.1, .int .i64 y.2.1, .int .i64 y.2.2.1, .string y.2.2.2])
  have RM := Lib.hid (hgm.own.rd.below (below_alloc1 w4 (.cells #[.int .i64 y.1, .int .i64 y.2.1, .int .i64 y.2.2.1, .string y.2.2.2] 33)) (Nat.le_refl _))
  have HMS := Lib.hid hms
  replace XB := Lib.hid (XB.out.next hbb)
  replace RX := Lib.hid (RX.out.below hbb (Nat.le_refl _))
  replace RI := Lib.hid (RI.out.below hbb (Nat.le_refl _))
  replace RL := Lib.hid (RL.out.below hbb (Nat.le_refl _))
  replace BW := Lib.hid (below_more BW.out hbb)
  clear hb hbb hgm hms
  go_wp2_with fail
  generalize w4.alloc (.cells #[.int .i64 y.1, .int .i64 y.2.1, .int .i64 y.2.2.1, .string y.2.2.2] 33) = W4 at *
  generalize w4.heap.size = ny at *
  refine (drawDigestI_any a1 len1 cap1 W4 (B1.out.below BW.out) h1).mono ?_
  rintro e W ⟨dd, vd, hdd, hds, rfl, hgd, hb⟩
  obtain ⟨ad, cd, rfl⟩ := gr_form hgd
  have hcap := hgd.cap
  have RD := Lib.hid hgd.own.rd
  replace YB := Lib.hid (YB.out.next hb)
  replace RM := Lib.hid (RM.out.below hb (Nat.le_refl _))
  replace XB := Lib.hid (XB.out.next hb)
  replace RX := Lib.hid (RX.out.below hb (Nat.le_refl _))
  replace RI := Lib.hid (RI.out.below hb (Nat.le_refl _))
  replace RL := Lib.hid (RL.out.below hb (Nat.le_refl _))
  replace BW := Lib.hid (below_more BW.out hb)
  clear hb hgd hds B1
  have ham : a.size ≤ maxLen := by unfold maxLen; omega
  have hbm : b.size ≤ maxLen := by unfold maxLen; omega
  have hym : y.2.2.2.size ≤ maxLen := by unfold maxLen; omega
  have HIX := Lib.hid (fun w => implXored a b w ham hbm)
  have HSX := Lib.hid (fun w => specXored a b w ham hbm)
  have HIM := Lib.hid (fun w h => implMadeBy (.slice am mm.length cm) mm y.1 y.2.1 y.2.2.1 y.2.2.2 w h (by omega))
  have HSM := Lib.hid (fun w h => specMadeBy (.slice am mm.length cm) mm y.1 y.2.1 y.2.2.1 y.2.2.2 w h (by omega) (fun s hs => by have := HMS.out s hs; unfold maxLen; omega) hym)
  have HID := Lib.hid (fun w h k => implImgDig ad cd dd w h (by omega) hcap k)
  have HSD := Lib.hid (fun w h => specImgDig (.slice ad dd.length cd) dd w h (by omega))
  have HIR := Lib.hid (fun w h => implImg (.slice ai im.length ci) im w h (by omega))
  have HSR := Lib.hid (fun w h => specImg (.slice ai im.length ci) im w h (by omega))
  have HXX := Lib.hid (fun (h1 : a.size = 8) (h2 : b.size = 8) => (show xorS (xorS a b) b = a from xorS_back h1 h2))
  have hXs := xorS_size a b
  obtain ⟨X, hX⟩ : ∃ X, X = xorS a b := ⟨_, rfl⟩
  obtain ⟨M, hM⟩ : ∃ M, M = madeS mm y := ⟨_, rfl⟩
  have hM' : madeS mm (y.1, y.2.1, y.2.2.1, y.2.2.2) = M := hM.symm
  obtain ⟨D, hD⟩ : ∃ D, D = imgDig dd := ⟨_, rfl⟩
  obtain ⟨G, hG⟩ : ∃ G, G = imgB im := ⟨_, rfl⟩
  rw [← hX] at HIX HSX HXX hXs
  rw [hM'] at HIM HSM
  rw [← hD] at HID HSD
  rw [← hG] at HIR HSR
  have HGI := Lib.hid hG
  clear hX hM hM' hD hG ham hym
  obtain ⟨W, rfl⟩ : ∃ V, V = W := ⟨_, rfl⟩
  have HLW := Lib.hid (HL.out.below BW.out HL.out.two)
  have HTW := HLW.out.two
  go_wp2_with fail
  go_cut [81] (fun c wx => FiCut W c wx)
  case first =>
    refine wp_region_held_drew (S := (fun w' => w'.cell? ⟨nx, 0, none⟩ = some (.slice ax R.1.length cx) ∧ w'.cell? ⟨nx, 1, none⟩ = some (.int .i64 R.2) ∧ w'.cell? ⟨ny, 0, none⟩ = some (.int .i64 y.1) ∧ w'.cell? ⟨ny, 1, none⟩ = some (.int .i64 y.2.1) ∧ w'.cell? ⟨ny, 2, none⟩ = some (.int .i64 y.2.2.1) ∧ w'.cell? ⟨ny, 3, none⟩ = some (.string y.2.2.2) ∧ Below W.heap.size W w')) (by kernel_rfl) (keepIS XB.out YB.out (Below.refl _ _).drew) (fun hHeld => ?_)
    refine wpAnyH_take (i := 0) (oi := ⟨some 44, _, _, _, _, _⟩) (v := ?_) rfl (by kernel_rfl) (by kernel_rfl) (by kernel_rfl) (fun _ _ _ h => h) (Or.inl ⟨by rfl, ?_⟩) (by assumption) ?_
    rotate_left
    · intro w' hSw
      (try dsimp only at hSw)
      go_simp
      try with_reducible rfl
    (try simp only [Act.put, List.setIfInBounds_toArray, List.set_cons_zero, List.set_cons_succ])
    refine wpAnyH_take (i := 1) (oi := ⟨some 45, _, _, _, _, _⟩) (v := ?_) rfl (by kernel_rfl) (by kernel_rfl) (by kernel_rfl) (fun _ _ _ h => h) (Or.inl ⟨by rfl, ?_⟩) (by assumption) ?_
    rotate_left
    · intro w' hSw
      (try dsimp only at hSw)
      go_simp
      try with_reducible rfl
    (try simp only [Act.put, List.setIfInBounds_toArray, List.set_cons_zero, List.set_cons_succ])
    refine wpAnyH_take (i := 2) (oi := ⟨some 46, _, _, _, _, _⟩) (v := ?_) rfl (by kernel_rfl) (by kernel_rfl) (by kernel_rfl) (fun _ _ _ h => h) (Or.inl ⟨by rfl, ?_⟩) (by assumption) ?_
    rotate_left
    · intro w' hSw
      (try dsimp only at hSw)
      go_simp
      try with_reducible rfl
    (try simp only [Act.put, List.setIfInBounds_toArray, List.set_cons_zero, List.set_cons_succ])
    refine wpAnyH_ready (rs := [3]) (by kernel_rfl) (by simp) ?_
    refine AllReadyH.cons (o := ⟨some 47, _, _, _, _, _⟩) rfl (fun K hK => ?_) AllReadyH.nil
    have hq0 := hHeld
    clear hHeld
    (try dsimp only at hq0)
    have hbq : Below W.heap.size W _ := hq0.2.2.2.2.2.2
    go_simp
    refine (HSA.out _ (RI.out.below hbq (Nat.le_refl _)) (RL.out.below hbq (Nat.le_refl _))).mono ?_
    rintro e wn ⟨v9, rfl, ho9, hbn⟩
    obtain ⟨a9, c9, rfl, -⟩ := id ho9.2
    have HO9 := Lib.hid ho9.rd
    have RX9 := Lib.hid ((RX.out.below hbq (Nat.le_refl _)).below hbn (Nat.le_refl _))
    clear ho9
    have hbw := below_more hbq hbn
    clear hq0 hbq hbn
    refine hK.out _ _ (keepIS XB.out YB.out hbw) (fun hHeld => ?_)
    clear hK K
    (try simp only [Act.put, List.setIfInBounds_toArray, List.set_cons_zero, List.set_cons_succ])
    refine wpAnyH_ready (rs := [4]) (by kernel_rfl) (by simp) ?_
    refine AllReadyH.cons (o := ⟨some 48, _, _, _, _, _⟩) rfl (fun K hK => ?_) AllReadyH.nil
    have hq0 := hHeld
    clear hHeld
    (try dsimp only at hq0)
    have hbq : Below W.heap.size W _ := hq0.2.2.2.2.2.2
    go_simp
    refine (LW.out _ _ _ RX9.out HO9.out).mono ?_
    rintro e wm ⟨rfl, hbn⟩
    clear RX9 HO9
    have hbw := below_more hbq hbn
    clear hq0 hbq hbn
    refine hK.out _ _ (keepIS XB.out YB.out hbw) (fun hHeld => ?_)
    clear hK K
    (try simp only [Act.put, List.setIfInBounds_toArray, List.set_cons_zero, List.set_cons_succ])
    refine wpAnyH_take (i := 5) (oi := ⟨some 49, _, _, _, _, _⟩) (v := ?_) rfl (by kernel_rfl) (by kernel_rfl) (by kernel_rfl) (fun _ _ _ h => h) (Or.inl ⟨by rfl, ?_⟩) (by assumption) ?_
    rotate_left
    · intro w' hSw
      (try dsimp only at hSw)
      go_simp
      try with_reducible rfl
    (try simp only [Act.put, List.setIfInBounds_toArray, List.set_cons_zero, List.set_cons_succ])
    refine wpAnyH_take (i := 6) (oi := ⟨some 50, _, _, _, _, _⟩) (v := ?_) rfl (by kernel_rfl) (by kernel_rfl) (by kernel_rfl) (fun _ _ _ h => h) (Or.inl ⟨by rfl, ?_⟩) (by assumption) ?_
    rotate_left
    · intro w' hSw
      (try dsimp only at hSw)
      go_simp
      try with_reducible rfl
    (try simp only [Act.put, List.setIfInBounds_toArray, List.set_cons_zero, List.set_cons_succ])
    refine wpAnyH_take (i := 7) (oi := ⟨some 51, _, _, _, _, _⟩) (v := ?_) rfl (by kernel_rfl) (by kernel_rfl) (by kernel_rfl) (fun _ _ _ h => h) (Or.inl ⟨by rfl, ?_⟩) (by assumption) ?_
    rotate_left
    · intro w' hSw
      (try dsimp only at hSw)
      go_simp
      try with_reducible rfl
    (try simp only [Act.put, List.setIfInBounds_toArray, List.set_cons_zero, List.set_cons_succ])
    refine wpAnyH_take (i := 8) (oi := ⟨some 52, _, _, _, _, _⟩) (v := ?_) rfl (by kernel_rfl) (by kernel_rfl) (by kernel_rfl) (fun _ _ _ h => h) (Or.inl ⟨by rfl, ?_⟩) (by assumption) ?_
    rotate_left
    · intro w' hSw
      (try dsimp only at hSw)
      go_simp
      try with_reducible rfl
    (try simp only [Act.put, List.setIfInBounds_toArray, List.set_cons_zero, List.set_cons_succ])
    refine wpAnyH_take (i := 10) (oi := ⟨some 54, _, _, _, _, _⟩) (v := ?_) rfl (by kernel_rfl) (by kernel_rfl) (by kernel_rfl) (fun _ _ _ h => h) (Or.inl ⟨by rfl, ?_⟩) (by assumption) ?_
    rotate_left
    · intro w' hSw
      (try dsimp only at hSw)
      go_simp
      try with_reducible rfl
    (try simp only [Act.put, List.setIfInBounds_toArray, List.set_cons_zero, List.set_cons_succ])
    refine wpAnyH_take (i := 11) (oi := ⟨some 55, _, _, _, _, _⟩) (v := ?_) rfl (by kernel_rfl) (by kernel_rfl) (by kernel_rfl) (fun _ _ _ h => h) (Or.inl ⟨by rfl, ?_⟩) (by assumption) ?_
    rotate_left
    · intro w' hSw
      (try dsimp only at hSw)
      go_simp
      try with_reducible rfl
    (try simp only [Act.put, List.setIfInBounds_toArray, List.set_cons_zero, List.set_cons_succ])
    refine wpAnyH_ready (rs := [9]) (by kernel_rfl) (by simp) ?_
    refine AllReadyH.cons (o := ⟨some 53, _, _, _, _, _⟩) rfl (fun K hK => ?_) AllReadyH.nil
    have hq0 := hHeld
    clear hHeld
    (try dsimp only at hq0)
    have hbq : Below W.heap.size W _ := hq0.2.2.2.2.2.2
    go_simp
    refine (HIX.out _).mono ?_
    rintro e wn ⟨rfl, hbn⟩
    have hbw := below_more hbq hbn
    clear hq0 hbq hbn
    refine hK.out _ _ (keepIS XB.out YB.out hbw) (fun hHeld => ?_)
    clear hK K
    (try simp only [Act.put, List.setIfInBounds_toArray, List.set_cons_zero, List.set_cons_succ])
    refine wpAnyH_ready (rs := [12]) (by kernel_rfl) (by simp) ?_
    refine AllReadyH.cons (o := ⟨some 56, _, _, _, _, _⟩) rfl (fun K hK => ?_) AllReadyH.nil
    have hq0 := hHeld
    clear hHeld
    (try dsimp only at hq0)
    have hbq : Below W.heap.size W _ := hq0.2.2.2.2.2.2
    go_simp
    refine (HSX.out _).mono ?_
    rintro e wn ⟨rfl, hbn⟩
    have hbw := below_more hbq hbn
    clear hq0 hbq hbn
    refine hK.out _ _ (keepIS XB.out YB.out hbw) (fun hHeld => ?_)
    clear hK K
    (try simp only [Act.put, List.setIfInBounds_toArray, List.set_cons_zero, List.set_cons_succ])
    refine wpAnyH_take (i := 13) (oi := ⟨some 57, _, _, _, _, _⟩) (v := ?_) rfl (by kernel_rfl) (by kernel_rfl) (by kernel_rfl) (fun _ _ _ h => h) (Or.inl ⟨by rfl, ?_⟩) (by assumption) ?_
    rotate_left
    · intro w' hSw
      (try dsimp only at hSw)
      go_simp
      try with_reducible rfl
    (try simp only [Act.put, List.setIfInBounds_toArray, List.set_cons_zero, List.set_cons_succ])
    refine wpAnyH_take (i := 14) (oi := ⟨some 58, _, _, _, _, _⟩) (v := ?_) rfl (by kernel_rfl) (by kernel_rfl) (by kernel_rfl) (fun _ _ _ h => h) (Or.inl ⟨by rfl, ?_⟩) (by assumption) ?_
    rotate_left
    · intro w' hSw
      (try dsimp only at hSw)
      go_simp
      try with_reducible rfl
    (try simp only [Act.put, List.setIfInBounds_toArray, List.set_cons_zero, List.set_cons_succ])
    refine wpAnyH_take (i := 15) (oi := ⟨some 59, _, _, _, _, _⟩) (v := ?_) rfl (by kernel_rfl) (by kernel_rfl) (by kernel_rfl) (fun _ _ _ h => h) (Or.inl ⟨by rfl, ?_⟩) (by assumption) ?_
    rotate_left
    · intro w' hSw
      (try dsimp only at hSw)
      go_simp
      try with_reducible rfl
    (try simp only [Act.put, List.setIfInBounds_toArray, List.set_cons_zero, List.set_cons_succ])
    refine wpAnyH_take (i := 16) (oi := ⟨some 60, _, _, _, _, _⟩) (v := ?_) rfl (by kernel_rfl) (by kernel_rfl) (by kernel_rfl) (fun _ _ _ h => h) (Or.inl ⟨by rfl, ?_⟩) (by assumption) ?_
    rotate_left
    · intro w' hSw
      (try dsimp only at hSw)
      go_simp
      try with_reducible rfl
    (try simp only [Act.put, List.setIfInBounds_toArray, List.set_cons_zero, List.set_cons_succ])
    refine wpAnyH_take (i := 17) (oi := ⟨some 61, _, _, _, _, _⟩) (v := ?_) rfl (by kernel_rfl) (by kernel_rfl) (by kernel_rfl) (fun _ _ _ h => h) (Or.inl ⟨by rfl, ?_⟩) (by assumption) ?_
    rotate_left
    · intro w' hSw
      (try dsimp only at hSw)
      go_simp
      try with_reducible rfl
    (try simp only [Act.put, List.setIfInBounds_toArray, List.set_cons_zero, List.set_cons_succ])
    refine wpAnyH_take (i := 19) (oi := ⟨some 63, _, _, _, _, _⟩) (v := ?_) rfl (by kernel_rfl) (by kernel_rfl) (by kernel_rfl) (fun _ _ _ h => h) (Or.inl ⟨by rfl, ?_⟩) (by assumption) ?_
    rotate_left
    · intro w' hSw
      (try dsimp only at hSw)
      go_simp
      try with_reducible rfl
    (try simp only [Act.put, List.setIfInBounds_toArray, List.set_cons_zero, List.set_cons_succ])
    refine wpAnyH_take (i := 20) (oi := ⟨some 64, _, _, _, _, _⟩) (v := ?_) rfl (by kernel_rfl) (by kernel_rfl) (by kernel_rfl) (fun _ _ _ h => h) (Or.inl ⟨by rfl, ?_⟩) (by assumption) ?_
    rotate_left
    · intro w' hSw
      (try dsimp only at hSw)
      go_simp
      try with_reducible rfl
    (try simp only [Act.put, List.setIfInBounds_toArray, List.set_cons_zero, List.set_cons_succ])
    refine wpAnyH_ready (rs := [18]) (by kernel_rfl) (by simp) ?_
    refine AllReadyH.cons (o := ⟨some 62, _, _, _, _, _⟩) rfl (fun K hK => ?_) AllReadyH.nil
    have hq0 := hHeld
    clear hHeld
    (try dsimp only at hq0)
    have hbq : Below W.heap.size W _ := hq0.2.2.2.2.2.2
    go_simp
    refine (HIM.out _ (RM.out.below hbq (Nat.le_refl _))).mono ?_
    rintro e wn ⟨rfl, hbn⟩
    have hbw := below_more hbq hbn
    clear hq0 hbq hbn
    refine hK.out _ _ (keepIS XB.out YB.out hbw) (fun hHeld => ?_)
    clear hK K
    (try simp only [Act.put, List.setIfInBounds_toArray, List.set_cons_zero, List.set_cons_succ])
    refine wpAnyH_ready (rs := [21]) (by kernel_rfl) (by simp) ?_
    refine AllReadyH.cons (o := ⟨some 65, _, _, _, _, _⟩) rfl (fun K hK => ?_) AllReadyH.nil
    have hq0 := hHeld
    clear hHeld
    (try dsimp only at hq0)
    have hbq : Below W.heap.size W _ := hq0.2.2.2.2.2.2
    go_simp
    refine (HSM.out _ (RM.out.below hbq (Nat.le_refl _))).mono ?_
    rintro e wn ⟨rfl, hbn⟩
    have hbw := below_more hbq hbn
    clear hq0 hbq hbn
    refine hK.out _ _ (keepIS XB.out YB.out hbw) (fun hHeld => ?_)
    clear hK K
    (try simp only [Act.put, List.setIfInBounds_toArray, List.set_cons_zero, List.set_cons_succ])
    refine wpAnyH_take (i := 22) (oi := ⟨some 66, _, _, _, _, _⟩) (v := ?_) rfl (by kernel_rfl) (by kernel_rfl) (by kernel_rfl) (fun _ _ _ h => h) (Or.inl ⟨by rfl, ?_⟩) (by assumption) ?_
    rotate_left
    · intro w' hSw
      (try dsimp only at hSw)
      go_simp
      try with_reducible rfl
    (try simp only [Act.put, List.setIfInBounds_toArray, List.set_cons_zero, List.set_cons_succ])
    refine wpAnyH_take (i := 23) (oi := ⟨some 67, _, _, _, _, _⟩) (v := ?_) rfl (by kernel_rfl) (by kernel_rfl) (by kernel_rfl) (fun _ _ _ h => h) (Or.inl ⟨by rfl, ?_⟩) (by assumption) ?_
    rotate_left
    · intro w' hSw
      (try dsimp only at hSw)
      go_simp
      try with_reducible rfl
    (try simp only [Act.put, List.setIfInBounds_toArray, List.set_cons_zero, List.set_cons_succ])
    refine wpAnyH_take (i := 24) (oi := ⟨some 68, _, _, _, _, _⟩) (v := ?_) rfl (by kernel_rfl) (by kernel_rfl) (by kernel_rfl) (fun _ _ _ h => h) (Or.inl ⟨by rfl, ?_⟩) (by assumption) ?_
    rotate_left
    · intro w' hSw
      (try dsimp only at hSw)
      go_simp
      try with_reducible rfl
    (try simp only [Act.put, List.setIfInBounds_toArray, List.set_cons_zero, List.set_cons_succ])
    refine wpAnyH_take (i := 25) (oi := ⟨some 69, _, _, _, _, _⟩) (v := ?_) rfl (by kernel_rfl) (by kernel_rfl) (by kernel_rfl) (fun _ _ _ h => h) (Or.inl ⟨by rfl, ?_⟩) (by assumption) ?_
    rotate_left
    · intro w' hSw
      (try dsimp only at hSw)
      go_simp
      try with_reducible rfl
    (try simp only [Act.put, List.setIfInBounds_toArray, List.set_cons_zero, List.set_cons_succ])
    refine wpAnyH_take (i := 27) (oi := ⟨some 71, _, _, _, _, _⟩) (v := ?_) rfl (by kernel_rfl) (by kernel_rfl) (by kernel_rfl) (fun _ _ _ h => h) (Or.inl ⟨by rfl, ?_⟩) (by assumption) ?_
    rotate_left
    · intro w' hSw
      (try dsimp only at hSw)
      go_simp
      try with_reducible rfl
    (try simp only [Act.put, List.setIfInBounds_toArray, List.set_cons_zero, List.set_cons_succ])
    refine wpAnyH_ready (rs := [26]) (by kernel_rfl) (by simp) ?_
    refine AllReadyH.cons (o := ⟨some 70, _, _, _, _, _⟩) rfl (fun K hK => ?_) AllReadyH.nil
    have hq0 := hHeld
    clear hHeld
    (try dsimp only at hq0)
    have hbq : Below W.heap.size W _ := hq0.2.2.2.2.2.2
    go_simp
    refine (HID.out _ (RD.out.below hbq (Nat.le_refl _)) (HLW.out.below hbq HTW)).mono ?_
    rintro e wn ⟨rfl, hbn⟩
    have hbw := below_more hbq hbn
    clear hq0 hbq hbn
    refine hK.out _ _ (keepIS XB.out YB.out hbw) (fun hHeld => ?_)
    clear hK K
    (try simp only [Act.put, List.setIfInBounds_toArray, List.set_cons_zero, List.set_cons_succ])
    refine wpAnyH_ready (rs := [28]) (by kernel_rfl) (by simp) ?_
    refine AllReadyH.cons (o := ⟨some 72, _, _, _, _, _⟩) rfl (fun K hK => ?_) AllReadyH.nil
    have hq0 := hHeld
    clear hHeld
    (try dsimp only at hq0)
    have hbq : Below W.heap.size W _ := hq0.2.2.2.2.2.2
    go_simp
    refine (HSD.out _ (RD.out.below hbq (Nat.le_refl _))).mono ?_
    rintro e wn ⟨rfl, hbn⟩
    have hbw := below_more hbq hbn
    clear hq0 hbq hbn
    refine hK.out _ _ (keepIS XB.out YB.out hbw) (fun hHeld => ?_)
    clear hK K
    (try simp only [Act.put, List.setIfInBounds_toArray, List.set_cons_zero, List.set_cons_succ])
    refine wpAnyH_take (i := 29) (oi := ⟨some 73, _, _, _, _, _⟩) (v := ?_) rfl (by kernel_rfl) (by kernel_rfl) (by kernel_rfl) (fun _ _ _ h => h) (Or.inl ⟨by rfl, ?_⟩) (by assumption) ?_
    rotate_left
    · intro w' hSw
      (try dsimp only at hSw)
      go_simp
      try with_reducible rfl
    (try simp only [Act.put, List.setIfInBounds_toArray, List.set_cons_zero, List.set_cons_succ])
    refine wpAnyH_take (i := 30) (oi := ⟨some 74, _, _, _, _, _⟩) (v := ?_) rfl (by kernel_rfl) (by kernel_rfl) (by kernel_rfl) (fun _ _ _ h => h) (Or.inl ⟨by rfl, ?_⟩) (by assumption) ?_
    rotate_left
    · intro w' hSw
      (try dsimp only at hSw)
      go_simp
      try with_reducible rfl
    (try simp only [Act.put, List.setIfInBounds_toArray, List.set_cons_zero, List.set_cons_succ])
    refine wpAnyH_take (i := 31) (oi := ⟨some 75, _, _, _, _, _⟩) (v := ?_) rfl (by kernel_rfl) (by kernel_rfl) (by kernel_rfl) (fun _ _ _ h => h) (Or.inl ⟨by rfl, ?_⟩) (by assumption) ?_
    rotate_left
    · intro w' hSw
      (try dsimp only at hSw)
      go_simp
      try with_reducible rfl
    (try simp only [Act.put, List.setIfInBounds_toArray, List.set_cons_zero, List.set_cons_succ])
    refine wpAnyH_take (i := 32) (oi := ⟨some 76, _, _, _, _, _⟩) (v := ?_) rfl (by kernel_rfl) (by kernel_rfl) (by kernel_rfl) (fun _ _ _ h => h) (Or.inl ⟨by rfl, ?_⟩) (by assumption) ?_
    rotate_left
    · intro w' hSw
      (try dsimp only at hSw)
      go_simp
      try with_reducible rfl
    (try simp only [Act.put, List.setIfInBounds_toArray, List.set_cons_zero, List.set_cons_succ])
    refine wpAnyH_take (i := 34) (oi := ⟨some 78, _, _, _, _, _⟩) (v := ?_) rfl (by kernel_rfl) (by kernel_rfl) (by kernel_rfl) (fun _ _ _ h => h) (Or.inl ⟨by rfl, ?_⟩) (by assumption) ?_
    rotate_left
    · intro w' hSw
      (try dsimp only at hSw)
      go_simp
      try with_reducible rfl
    (try simp only [Act.put, List.setIfInBounds_toArray, List.set_cons_zero, List.set_cons_succ])
    refine wpAnyH_ready (rs := [33]) (by kernel_rfl) (by simp) ?_
    refine AllReadyH.cons (o := ⟨some 77, _, _, _, _, _⟩) rfl (fun K hK => ?_) AllReadyH.nil
    have hq0 := hHeld
    clear hHeld
    (try dsimp only at hq0)
    have hbq : Below W.heap.size W _ := hq0.2.2.2.2.2.2
    go_simp
    refine (HIR.out _ (RI.out.below hbq (Nat.le_refl _))).mono ?_
    rintro e wn ⟨rfl, hsame⟩
    have hbn := Below.refl wn.heap.size wn
    subst hsame
    have hbw := below_more hbq hbn
    clear hq0 hbq hbn
    refine hK.out _ _ (keepIS XB.out YB.out hbw) (fun hHeld => ?_)
    clear hK K
    (try simp only [Act.put, List.setIfInBounds_toArray, List.set_cons_zero, List.set_cons_succ])
    refine wpAnyH_ready (rs := [35]) (by kernel_rfl) (by simp) ?_
    refine AllReadyH.cons (o := ⟨some 79, _, _, _, _, _⟩) rfl (fun K hK => ?_) AllReadyH.nil
    have hq0 := hHeld
    clear hHeld
    (try dsimp only at hq0)
    have hbq : Below W.heap.size W _ := hq0.2.2.2.2.2.2
    go_simp
    refine (HSR.out _ (RI.out.below hbq (Nat.le_refl _))).mono ?_
    rintro e wn ⟨rfl, hsame⟩
    have hbn := Below.refl wn.heap.size wn
    subst hsame
    have hbw := below_more hbq hbn
    clear hq0 hbq hbn
    refine hK.out _ _ (keepIS XB.out YB.out hbw) (fun hHeld => ?_)
    clear hK K
    (try simp only [Act.put, List.setIfInBounds_toArray, List.set_cons_zero, List.set_cons_succ])
    refine wpAnyH_take (i := 36) (oi := ⟨some 80, _, _, _, _, _⟩) (v := ?_) rfl (by kernel_rfl) (by kernel_rfl) (by kernel_rfl) (fun _ _ _ h => h) (Or.inl ⟨by rfl, ?_⟩) (by assumption) ?_
    rotate_left
    · intro w' hSw
      (try dsimp only at hSw)
      go_simp
      try with_reducible rfl
    (try simp only [Act.put, List.setIfInBounds_toArray, List.set_cons_zero, List.set_cons_succ])
    refine wpAnyH_take (i := 37) (oi := ⟨some 81, _, _, _, _, _⟩) (v := ?_) rfl (by kernel_rfl) (by kernel_rfl) (by kernel_rfl) (fun _ _ _ h => h) (Or.inl ⟨by rfl, ?_⟩) (by assumption) ?_
    rotate_left
    · intro w' hSw
      (try dsimp only at hSw)
      go_simp
      try with_reducible rfl
    (try simp only [Act.put, List.setIfInBounds_toArray, List.set_cons_zero, List.set_cons_succ])
    have hb9 : Below W.heap.size W _ := hHeld.2.2.2.2.2.2
    refine wpAnyH_done (by kernel_rfl) ?_ _
    clear hHeld
    go_wp2_with fail
    go_meet
    case rel => exact ⟨rfl, hb9⟩
  case rest =>
    obtain ⟨rfl, hb⟩ := hcut
    replace XB := Lib.hid (XB.out.next hb)
    replace RX := Lib.hid (RX.out.below hb (Nat.le_refl _))
    replace RI := Lib.hid (RI.out.below hb (Nat.le_refl _))
    replace RL := Lib.hid (RL.out.below hb (Nat.le_refl _))
    replace BW := Lib.hid (below_more BW.out hb)
    clear hb YB RM RD HSA LW HIM HSM HID HSD HIR HSR HLW HTW
    obtain ⟨V, rfl⟩ : ∃ V, V = wc := ⟨_, rfl⟩
    go_upto_region 10 with (fail)
    go_cut [98] (fun c wx => FiCut V c wx)
    case first =>
      by_cases ha8 : a.size = 8
      · by_cases hb8 : b.size = 8
        · have e0 : ((a.size : Int) == 8) = true := beq_iff_eq.2 (by omega)
          have e1 : ((b.size : Int) == 8) = true := beq_iff_eq.2 (by omega)
          have h2 := fun w => implXored X b w (by unfold maxLen; omega) hbm
          rw [HXX.out ha8 hb8] at h2
          have H2 := Lib.hid h2
          have dq : (a.toList == a.toList) = true := by simp
          clear h2 ha8 hb8
          go_wp2_with fail
          refine (HIX.out _).mono ?_
          rintro e w6 ⟨rfl, hb6⟩
          go_wp2_with fail
          refine (H2.out _).mono ?_
          rintro e w7 ⟨rfl, hb7⟩
          have hb8 := below_more hb6 hb7
          clear hb6 hb7
          go_wp2_with fail
          go_meet
          case rel => exact ⟨rfl, hb8⟩
        · have e0 : ((a.size : Int) == 8) = true := beq_iff_eq.2 (by omega)
          have e1 : ((b.size : Int) == 8) = false := beq_eq_false_iff_ne.2 (by omega)
          clear ha8 hb8
          go_wp2_with fail
          go_meet
          case rel => exact ⟨rfl, Below.refl _ _⟩
      · have e0 : ((a.size : Int) == 8) = false := beq_eq_false_iff_ne.2 (by omega)
        clear ha8
        go_wp2_with fail
        go_meet
        case rel => exact ⟨rfl, Below.refl _ _⟩
    case rest =>
      obtain ⟨rfl, hb⟩ := hcut
      replace XB := Lib.hid (XB.out.next hb)
      replace RX := Lib.hid (RX.out.below hb (Nat.le_refl _))
      replace RI := Lib.hid (RI.out.below hb (Nat.le_refl _))
      replace RL := Lib.hid (RL.out.below hb (Nat.le_refl _))
      replace BW := Lib.hid (below_more BW.out hb)
      clear hb HIX HSX HXX hXs hbm
      obtain ⟨V, rfl⟩ : ∃ V, V = wc := ⟨_, rfl⟩
      have c0 := XB.out.c0
      have c1 := XB.out.c1
      by_cases hz : R.2 = 0
      rotate_left
      · have dz : (R.2 != 0) = true := bne_iff_ne.2 hz
        clear hz
        go_wp2_with fail
        go_ret
        exact ⟨rfl, BW.out⟩
      obtain ⟨hgi, hcode, hRR⟩ := HOKR.out hz
      have dz : (R.2 != 0) = false := by rw [hz]; rfl
      obtain ⟨-, -, hok⟩ := code_ok hcode
      have HOK := Lib.hid hok
      have HGG := Lib.hid hgi
      have hRx : R.1 = applyL im l := by rw [hRR]
      have hlx : R.1.length = im.length := by rw [hRx, applyL_length]
      have HRX := Lib.hid hRx
      have dl : ((R.1.length : Int) != (im.length : Int)) = false := by rw [hlx]; simp
      have HLX := Lib.hid hlx
      have HW := Lib.hid (fun i (h : i < im.length) => wantT_all (l := l) h (fun x hx h5 => by have := (ok_from (hok x hx) h5).2.2.1; exact this))
      have HSM := Lib.hid (fun (w : World) h (x : stpT) (hx : x.2.2.2.size ≤ maxLen) => specMadeBy (.slice ai im.length ci) im x.1 x.2.1 x.2.2.1 x.2.2.2 w h (by omega) (fun s hs => by have := HIS.out s hs; unfold maxLen; omega) hx)
      clear hz hgi hcode hRR hok hRx hlx HOKR HGI
      go_wp2_with fail
      go_loopw [13] (fun i wr => FiOut im.length V i wr) (fun i _ => im.length - (intOf i).toNat)
      case atStart => exact ⟨0, by omega, rfl, Below.refl _ _⟩
      case round =>
        obtain ⟨k, hk, rfl, hb⟩ := hrel
        have HB := Lib.hid hb
        have RI2 := Lib.hid (RI.out.below hb (Nat.le_refl _))
        clear hb c0 c1
        by_cases hlt : k < im.length
        · obtain ⟨b7, o7, hp7, hl7, hc7⟩ := RI2.out.get (by omega)
          subst hp7
          have r0 : wr.cell? ⟨b7, o7 + k, none⟩ = some (.string im[k]) := by rw [hc7 k (by omega), strs_at im k hlt]
          have HZ := Lib.hid (wantT_zero im l k hlt)
          have e0 : (k : Int) < (im.length : Int) := by omega
          have e1 : (0 : Int) ≤ (k : Int) := by omega
          clear hc7
          go_wp2_with fail
          go_loopw [14, 15] (fun t i wr => FiIn im l k V t i wr) (fun _ i _ => l.length - (intOf i).toNat)
          case atStart => exact ⟨0, by omega, rfl, by rw [HZ.out], HB.out⟩
          case round =>
            obtain ⟨m, hm, rfl, rfl, hb2⟩ := hrel
            have HB2 := Lib.hid hb2
            have hz2 := hb2.size
            have RL2 := Lib.hid (RL.out.below hb2 (Nat.le_refl _))
            have RI3 := Lib.hid (RI.out.below hb2 (Nat.le_refl _))
            clear r0
            by_cases hml : m < l.length
            · obtain ⟨b8, o8, hp8, hl8, hc8⟩ := RL2.out.get (by omega)
              subst hp8
              have s0 : wr.cell? ⟨b8, o8 + m * 4, none⟩ = some (.int .i64 l[m].1) := by rw [hc8 (m * 4) (by omega), stpCs_0 l m hml]
              have s1 : wr.cell? ⟨b8, o8 + m * 4 + 1, none⟩ = some (.int .i64 l[m].2.1) := by rw [Nat.add_assoc, hc8 (m * 4 + 1) (by omega), stpCs_1 l m hml]
              have s2 : wr.cell? ⟨b8, o8 + m * 4 + 2, none⟩ = some (.int .i64 l[m].2.2.1) := by rw [Nat.add_assoc, hc8 (m * 4 + 2) (by omega), stpCs_2 l m hml]
              have s3 : wr.cell? ⟨b8, o8 + m * 4 + 3, none⟩ = some (.string l[m].2.2.2) := by rw [Nat.add_assoc, hc8 (m * 4 + 3) (by omega), stpCs_3 l m hml]
              have f0 : (m : Int) < (l.length : Int) := by omega
              have f1 : (0 : Int) ≤ (m : Int) := by omega
              clear hc8 hb2
              by_cases hy : l[m].1 ≠ 5 ∧ l[m].2.1 = (k : Int)
              · have HN := Lib.hid (wantT_yes (image := im) hml hy)
                obtain ⟨h5, ht⟩ := hy
                have hst := HOK.out _ (List.getElem_mem hml)
                have hmd : madeS im l[m] = makeS l[m] (im.getD l[m].2.2.1.toNat ⟨#[]⟩) := by unfold madeS; rw [if_pos ⟨HGG.out, h5, hst⟩]
                have hdz : l[m].2.2.2.size ≤ maxLen := by have := HLS.out _ (List.getElem_mem hml); unfold maxLen; omega
                have hcall := HSM.out wr RI3.out l[m] hdz
                obtain ⟨Z, hZ⟩ : ∃ Z, Z = madeS im (l[m].1, l[m].2.1, l[m].2.2.1, l[m].2.2.2) := ⟨_, rfl⟩
                rw [← hZ] at hcall
                have hZ2 : Z = madeS im l[m] := hZ
                have HNZ := Lib.hid (show wantT im l k (m + 1) = Z by rw [HN.out, hZ2, hmd])
                have d5 : (l[m].1 != 5) = true := bne_iff_ne.2 h5
                have dt : (l[m].2.1 == (k : Int)) = true := beq_iff_eq.2 ht
                clear h5 ht hst hmd hdz hZ hZ2 HN
                generalize wantT im l k m = tt at *
                go_wp2_with fail
                refine hcall.mono ?_
                clear hcall
                rintro e w9 ⟨rfl, hb9⟩
                have HB9 := Lib.hid (HB2.out.trans (hb9.mono hz2))
                clear hb9 s0 s1 s2 s3
                go_wp2_with fail
                go_roundw
                case rel =>
                  have fin : FiIn im l k V (.string Z) (.int .i64 ((m : Int) + 1)) w9 := ⟨m + 1, by omega, by go_num, by rw [HNZ.out], HB9.out⟩
                  first | exact fin | ((repeat apply Exists.intro); exact ⟨fin, rfl⟩)
                case measure => simp [intOf]; omega
              · have HN := Lib.hid (wantT_no (image := im) hml hy)
                generalize hW0 : wantT im l k m = tt at *
                have HNZ := Lib.hid (show wantT im l k (m + 1) = tt from HN.out)
                clear HN hW0
                by_cases h5 : l[m].1 = 5
                · have d5 : (l[m].1 != 5) = false := by rw [h5]; rfl
                  clear hy h5
                  go_wp2_with fail
                  go_roundw
                  case rel =>
                    have fin : FiIn im l k V (.string tt) (.int .i64 ((m : Int) + 1)) wr := ⟨m + 1, by omega, by go_num, by rw [HNZ.out], HB2.out⟩
                    first | exact fin | ((repeat apply Exists.intro); exact ⟨fin, rfl⟩)
                  case measure => simp [intOf]; omega
                · have d5 : (l[m].1 != 5) = true := bne_iff_ne.2 h5
                  have dt : (l[m].2.1 == (k : Int)) = false := beq_eq_false_iff_ne.2 (fun h => hy ⟨h5, h⟩)
                  clear hy h5
                  go_wp2_with fail
                  go_roundw
                  case rel =>
                    have fin : FiIn im l k V (.string tt) (.int .i64 ((m : Int) + 1)) wr := ⟨m + 1, by omega, by go_num, by rw [HNZ.out], HB2.out⟩
                    first | exact fin | ((repeat apply Exists.intro); exact ⟨fin, rfl⟩)
                  case measure => simp [intOf]; omega
            · obtain rfl : m = l.length := by omega
              have hx9 := XB.out.next hb2
              have c0 := hx9.c0
              have RX2 := RX.out.below hb2 (Nat.le_refl _)
              have hRl2 := HLX.out
              obtain ⟨b9, o9, hp9, hl9, hc9⟩ := RX2.get (by omega)
              subst hp9
              have hkR : k < R.1.length := by omega
              have s0 : wr.cell? ⟨b9, o9 + k, none⟩ = some (.string (wantT im l k l.length)) := by
                rw [hc9 k (by omega), strs_at R.1 k hkR]
                have := HW.out k hlt
                rw [← HRX.out, List.getElem?_eq_getElem hkR] at this
                rw [Option.some.inj this]
              have g0 : (k : Int) < (R.1.length : Int) := by omega
              generalize wantT im l k l.length = tt at *
              have dq : (tt.toList == tt.toList) = true := by simp
              clear hx9 RX2 hc9 hb2 hRl2
              go_wp2_with fail
              go_roundw
              case rel =>
                have fin : FiOut im.length V (.int .i64 ((k : Int) + 1)) wr := ⟨k + 1, by omega, by go_num, HB2.out⟩
                first | exact fin | ((repeat apply Exists.intro); exact ⟨fin, rfl⟩)
              case measure => simp [intOf]; omega
        · obtain rfl : k = im.length := by omega
          go_wp2_with fail
          go_ret
          exact ⟨rfl, below_more BW.out HB.out⟩
theorem imageLaw_any (a0 : Option Addr) (len0 cap0 : Nat) (a1 : Option Addr) (len1 cap1 : Nat) (w : World) (hB0 : Bytes w a0 len0) (hm0 : len0 ≤ maxLen) (hB1 : Bytes w a1 len1) (hm1 : len1 ≤ maxLen) (hL : LaidT w) :
    Calls Tryd.prog 3 #[.slice a0 len0 cap0, .slice a1 len1 cap1] w fun e w' => e = .returned (.bool true) ∧ Below w.heap.size w w' := by
  by_cases h0 : 1048576 < len0
  · have d0 : decide ((1048576 : Int) < (len0 : Int)) = true := decide_eq_true (by omega)
    clear hB0 hB1 hL
    go_enter Tryd.func3, Tryd.ntmps3
    go_wp2_with fail
    go_ret
    exact ⟨rfl, Below.refl _ _⟩
  by_cases h1 : 1048576 < len1
  · have d0 : decide ((1048576 : Int) < (len0 : Int)) = false := decide_eq_false (by omega)
    have d1 : decide ((1048576 : Int) < (len1 : Int)) = true := decide_eq_true (by omega)
    clear hB0 hB1 hL
    go_enter Tryd.func3, Tryd.ntmps3
    go_wp2_with fail
    go_ret
    exact ⟨rfl, Below.refl _ _⟩
  exact imageLaw_mid a0 a1 len0 cap0 len1 cap1 w hB0 hB1 (by omega) (by omega) hL
end Go.Proofs.YtcckpkcjekcajaaDoor
