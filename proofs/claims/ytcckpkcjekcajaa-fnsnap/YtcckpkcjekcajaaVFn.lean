/- The law FnSnap. -/
import Derived.Test.YtcckpkcjekcajaaVDr
import Derived.Test.YtcckpkcjekcajaaVSnRd
import Derived.Test.YtcckpkcjekcajaaVSnAll
import Derived.Test.YtcckpkcjekcajaaCLwI
namespace Go.Proofs.Ytcckpkcjekcajaa
open Go.RowKit

theorem applyR_snd (image : List ByteArray) (l : List stpT) : (applyR image l).2 = applyC image l := by
  by_cases h : applyC image l = 0
  · rw [applyR_yes h, h]
  · rw [applyR_no h]
theorem applyR_fst {image : List ByteArray} {l : List stpT} (h : applyC image l = 0) : (applyR image l).1.length = image.length := by
  rw [applyR_yes h]; exact applyL_length image l
def SnCut (W : World) (c : Value) (wx : World) : Prop := c = .bool false ∧ Below W.heap.size W wx
def SnOut (n : Nat) (W : World) (i : Value) (wr : World) : Prop := ∃ k : Nat, k ≤ n ∧ i = .int .i64 (k : Int) ∧ Below W.heap.size W wr
set_option maxRecDepth 100000 in
set_option maxHeartbeats 8000000 in
theorem snapLaw_mid (a0 a1 : Option Addr) (len0 cap0 len1 cap1 : Nat) (w : World) (hB0 : Bytes w a0 len0) (hB1 : Bytes w a1 len1) (h0 : len0 ≤ 1048576) (h1 : len1 ≤ 1048576) :
    Calls Try.prog 6 #[.slice a0 len0 cap0, .slice a1 len1 cap1] w fun e w' => e = .returned (.bool true) ∧ Below w.heap.size w w' := by
  have B0 := Lib.hid hB0
  have B1 := Lib.hid hB1
  clear hB0 hB1
  have d0 : decide ((1048576 : Int) < (len0 : Int)) = false := decide_eq_false (by omega)
  have d1 : decide ((1048576 : Int) < (len1 : Int)) = false := decide_eq_false (by omega)
  go_enter Try.func6, Try.ntmps6
  go_wp2_with fail
  refine (drawSnapRead_any a0 len0 cap0 w B0.out h0).mono ?_
  rintro e w1 ⟨im, vi, l, vl, z, him, hl, hims, hls, hz0, hz1, rfl, hgi, hgl, hb⟩
  obtain ⟨ai, ci, rfl⟩ := gr_form hgi
  obtain ⟨al, cl, rfl⟩ := gr_form hgl
  have RI := Lib.hid hgi.own.rd
  have RL := Lib.hid hgl.own.rd
  have BW := Lib.hid hb
  have HIS := Lib.hid hims
  have HLS := Lib.hid hls
  clear hgi hgl hb B0 hims hls
  have HSS := Lib.hid (fun w h k => specSnapRead (.slice ai im.length ci) (.slice al l.length cl) im l z w h k (by omega) (by omega) (fun s hs => by have := HIS.out s hs; unfold maxLen; omega) (fun s hs => by have := (HLS.out s hs).1; unfold maxLen; omega))
  have hIS := implSnapRead (.slice ai im.length ci) (.slice al l.length cl) im l z w1 RI.out RL.out (by omega) (by omega)
  have HCD := Lib.hid (fun h : applyC im l ≠ 0 => snapR_no (b := z) h)
  obtain ⟨R, hR⟩ : ∃ R, R = snapR im l z := ⟨_, rfl⟩
  rw [← hR] at HSS hIS HCD
  clear hR
  obtain ⟨X, xc⟩ := R
  unfold TextW at HSS hIS
  dsimp only at HSS hIS HCD
  go_wp2_with fail
  refine hIS.mono ?_
  clear hIS
  rintro e w2 ⟨rfl, hb⟩
  have hbb := below_more hb (below_alloc1 w2 (.cells #[.string X, .int .i64 0, .int .i64 xc] 27))
  have XX := Lib.hid (bx_new w2 27 #[.string X, .int .i64 0, .int .i64 xc])
  replace RI := Lib.hid (RI.out.below hbb (Nat.le_refl _))
  replace RL := Lib.hid (RL.out.below hbb (Nat.le_refl _))
  replace BW := Lib.hid (below_more BW.out hbb)
  clear hb hbb
  go_wp2_with fail
  generalize w2.alloc (.cells #[.string X, .int .i64 0, .int .i64 xc] 27) = W2 at *
  generalize w2.heap.size = nx at *
  refine (drawTouches_any a1 len1 cap1 W2 (B1.out.below BW.out) h1).mono ?_
  rintro e w3 ⟨t, vt, q, ht, hts, hq0, hq1, rfl, hgt, hb⟩
  obtain ⟨at_, ct, rfl⟩ := gr_form hgt
  have RT := Lib.hid hgt.own.rd
  have HTS := Lib.hid hts
  replace XX := Lib.hid (XX.out.next hb)
  replace RI := Lib.hid (RI.out.below hb (Nat.le_refl _))
  replace RL := Lib.hid (RL.out.below hb (Nat.le_refl _))
  replace BW := Lib.hid (below_more BW.out hb)
  clear hb hgt hts
  go_wp2_with fail
  refine (drawSnapAll_any a1 len1 cap1 w3 (B1.out.below BW.out) h1).mono ?_
  rintro e W ⟨im2, vi2, l2, vl2, him2, hl2, hims2, hls2, rfl, hgi, hgl, hb⟩
  obtain ⟨ai2, ci2, rfl⟩ := gr_form hgi
  obtain ⟨al2, cl2, rfl⟩ := gr_form hgl
  have RI2 := Lib.hid hgi.own.rd
  have RL2 := Lib.hid hgl.own.rd
  replace XX := Lib.hid (XX.out.next hb)
  replace RI := Lib.hid (RI.out.below hb (Nat.le_refl _))
  replace RL := Lib.hid (RL.out.below hb (Nat.le_refl _))
  replace RT := Lib.hid (RT.out.below hb (Nat.le_refl _))
  replace BW := Lib.hid (below_more BW.out hb)
  clear hgi hgl hb B1 hims2 hls2
  have HIT := Lib.hid (fun w h => implTouches (.slice at_ t.length ct) t q w h (by omega) (fun d hd => (HTS.out d hd).2) (by omega) (by omega))
  have HST := Lib.hid (fun w h => specTouches (.slice at_ t.length ct) t q w h (by omega))
  obtain ⟨T, hT⟩ : ∃ T, T = touchS t q := ⟨_, rfl⟩
  rw [← hT] at HIT HST
  clear hT
  have HIA := Lib.hid (fun w h k => implSnapAll (.slice ai2 im2.length ci2) (.slice al2 l2.length cl2) im2 l2 w h k (by omega) (by omega))
  have HSA := Lib.hid (fun w h k => specSnapAll (.slice ai2 im2.length ci2) (.slice al2 l2.length cl2) im2 l2 w h k (by omega) (by omega))
  have hRl := applyR_len im2 l2
  obtain ⟨Q, hQ⟩ : ∃ Q, Q = applyR im2 l2 := ⟨_, rfl⟩
  rw [← hQ] at HIA HSA hRl
  clear hQ
  have H9 : Q.1.length ≤ 1048576 := by omega
  have LW := Lib.hid (fun v u w h k => lwImage_any v u Q w h k H9)
  clear hRl H9
  obtain ⟨W, rfl⟩ : ∃ V, V = W := ⟨_, rfl⟩
  have KP := Lib.hid (show ∀ w', Below W.heap.size W w' → w'.cell? ⟨nx, 0, none⟩ = some (.string X) ∧ w'.cell? ⟨nx, 1, none⟩ = some (.int .i64 0) ∧ w'.cell? ⟨nx, 2, none⟩ = some (.int .i64 xc) from fun w' hb' => ⟨(XX.out.next hb').t0, (XX.out.next hb').t1, (XX.out.next hb').t2⟩)
  go_upto_region 7 with (fail)
  go_cut [67] (fun c wx => SnCut W c wx)
  case first =>
    refine wp_region_held_drew (S := (fun w' => w'.cell? ⟨nx, 0, none⟩ = some (.string X) ∧ w'.cell? ⟨nx, 1, none⟩ = some (.int .i64 0) ∧ w'.cell? ⟨nx, 2, none⟩ = some (.int .i64 xc))) (by kernel_rfl) (KP.out _ (Below.refl _ _).drew) (fun hHeld => ?_)
    refine wpAnyH_take (i := 0) (oi := ⟨some 43, _, _, _, _, _⟩) (v := ?_) rfl (by kernel_rfl) (by kernel_rfl) (by kernel_rfl) (fun _ _ _ h => h) (Or.inl ⟨by rfl, ?_⟩) (by assumption) ?_
    rotate_left
    · intro w' hSw
      (try dsimp only at hSw)
      go_simp
      try with_reducible rfl
    (try simp only [Act.put, List.setIfInBounds_toArray, List.set_cons_zero, List.set_cons_succ])
    refine wpAnyH_take (i := 1) (oi := ⟨some 44, _, _, _, _, _⟩) (v := ?_) rfl (by kernel_rfl) (by kernel_rfl) (by kernel_rfl) (fun _ _ _ h => h) (Or.inl ⟨by rfl, ?_⟩) (by assumption) ?_
    rotate_left
    · intro w' hSw
      (try dsimp only at hSw)
      go_simp
      try with_reducible rfl
    (try simp only [Act.put, List.setIfInBounds_toArray, List.set_cons_zero, List.set_cons_succ])
    refine wpAnyH_take (i := 2) (oi := ⟨some 45, _, _, _, _, _⟩) (v := ?_) rfl (by kernel_rfl) (by kernel_rfl) (by kernel_rfl) (fun _ _ _ h => h) (Or.inl ⟨by rfl, ?_⟩) (by assumption) ?_
    rotate_left
    · intro w' hSw
      (try dsimp only at hSw)
      go_simp
      try with_reducible rfl
    (try simp only [Act.put, List.setIfInBounds_toArray, List.set_cons_zero, List.set_cons_succ])
    refine wpAnyH_take (i := 3) (oi := ⟨some 46, _, _, _, _, _⟩) (v := ?_) rfl (by kernel_rfl) (by kernel_rfl) (by kernel_rfl) (fun _ _ _ h => h) (Or.inl ⟨by rfl, ?_⟩) (by assumption) ?_
    rotate_left
    · intro w' hSw
      (try dsimp only at hSw)
      go_simp
      try with_reducible rfl
    (try simp only [Act.put, List.setIfInBounds_toArray, List.set_cons_zero, List.set_cons_succ])
    refine wpAnyH_ready (rs := [4]) (by kernel_rfl) (by simp) ?_
    refine AllReadyH.cons (o := ⟨some 47, _, _, _, _, _⟩) rfl (fun K hK => ?_) AllReadyH.nil
    clear hHeld
    go_simp
    go_at_call 11
    refine (HSS.out _ (RI.out.below (Below.refl W.heap.size W).drew (Nat.le_refl _)) (RL.out.below (Below.refl W.heap.size W).drew (Nat.le_refl _))).mono ?_
    rintro e y1 ⟨rfl, hb⟩
    have By1 := Lib.hid ((Below.refl W.heap.size W).drew.trans (hb.mono (Below.refl W.heap.size W).drew.size))
    clear hb
    refine hK.out _ _ (KP.out _ By1.out) (fun hHeld => ?_)
    clear hK K
    (try simp only [Act.put, List.setIfInBounds_toArray, List.set_cons_zero, List.set_cons_succ])
    refine wpAnyH_take (i := 5) (oi := ⟨some 48, _, _, _, _, _⟩) (v := ?_) rfl (by kernel_rfl) (by kernel_rfl) (by kernel_rfl) (fun _ _ _ h => h) (Or.inl ⟨by rfl, ?_⟩) (by assumption) ?_
    rotate_left
    · intro w' hSw
      (try dsimp only at hSw)
      go_simp
      try with_reducible rfl
    (try simp only [Act.put, List.setIfInBounds_toArray, List.set_cons_zero, List.set_cons_succ])
    refine wpAnyH_take (i := 6) (oi := ⟨some 49, _, _, _, _, _⟩) (v := ?_) rfl (by kernel_rfl) (by kernel_rfl) (by kernel_rfl) (fun _ _ _ h => h) (Or.inl ⟨by rfl, ?_⟩) (by assumption) ?_
    rotate_left
    · intro w' hSw
      (try dsimp only at hSw)
      go_simp
      try with_reducible rfl
    (try simp only [Act.put, List.setIfInBounds_toArray, List.set_cons_zero, List.set_cons_succ])
    refine wpAnyH_take (i := 7) (oi := ⟨some 50, _, _, _, _, _⟩) (v := ?_) rfl (by kernel_rfl) (by kernel_rfl) (by kernel_rfl) (fun _ _ _ h => h) (Or.inl ⟨by rfl, ?_⟩) (by assumption) ?_
    rotate_left
    · intro w' hSw
      (try dsimp only at hSw)
      go_simp
      try with_reducible rfl
    (try simp only [Act.put, List.setIfInBounds_toArray, List.set_cons_zero, List.set_cons_succ])
    refine wpAnyH_take (i := 8) (oi := ⟨some 51, _, _, _, _, _⟩) (v := ?_) rfl (by kernel_rfl) (by kernel_rfl) (by kernel_rfl) (fun _ _ _ h => h) (Or.inl ⟨by rfl, ?_⟩) (by assumption) ?_
    rotate_left
    · intro w' hSw
      (try dsimp only at hSw)
      go_simp
      try with_reducible rfl
    (try simp only [Act.put, List.setIfInBounds_toArray, List.set_cons_zero, List.set_cons_succ])
    refine wpAnyH_take (i := 10) (oi := ⟨some 53, _, _, _, _, _⟩) (v := ?_) rfl (by kernel_rfl) (by kernel_rfl) (by kernel_rfl) (fun _ _ _ h => h) (Or.inl ⟨by rfl, ?_⟩) (by assumption) ?_
    rotate_left
    · intro w' hSw
      (try dsimp only at hSw)
      go_simp
      try with_reducible rfl
    (try simp only [Act.put, List.setIfInBounds_toArray, List.set_cons_zero, List.set_cons_succ])
    refine wpAnyH_take (i := 11) (oi := ⟨some 54, _, _, _, _, _⟩) (v := ?_) rfl (by kernel_rfl) (by kernel_rfl) (by kernel_rfl) (fun _ _ _ h => h) (Or.inl ⟨by rfl, ?_⟩) (by assumption) ?_
    rotate_left
    · intro w' hSw
      (try dsimp only at hSw)
      go_simp
      try with_reducible rfl
    (try simp only [Act.put, List.setIfInBounds_toArray, List.set_cons_zero, List.set_cons_succ])
    refine wpAnyH_ready (rs := [9]) (by kernel_rfl) (by simp) ?_
    refine AllReadyH.cons (o := ⟨some 52, _, _, _, _, _⟩) rfl (fun K hK => ?_) AllReadyH.nil
    clear hHeld
    go_simp
    go_at_call 26
    refine (HIT.out _ (RT.out.below By1.out (Nat.le_refl _))).mono ?_
    rintro e y2 ⟨rfl, hb⟩
    have By2 := Lib.hid (By1.out.trans (hb.mono By1.out.size))
    clear hb
    refine hK.out _ _ (KP.out _ By2.out) (fun hHeld => ?_)
    clear hK K
    (try simp only [Act.put, List.setIfInBounds_toArray, List.set_cons_zero, List.set_cons_succ])
    refine wpAnyH_ready (rs := [12]) (by kernel_rfl) (by simp) ?_
    refine AllReadyH.cons (o := ⟨some 55, _, _, _, _, _⟩) rfl (fun K hK => ?_) AllReadyH.nil
    clear hHeld
    go_simp
    go_at_call 25
    refine (HST.out _ (RT.out.below By2.out (Nat.le_refl _))).mono ?_
    rintro e y3 ⟨rfl, hb⟩
    have By3 := Lib.hid (By2.out.trans (hb.mono By2.out.size))
    clear hb
    refine hK.out _ _ (KP.out _ By3.out) (fun hHeld => ?_)
    clear hK K
    (try simp only [Act.put, List.setIfInBounds_toArray, List.set_cons_zero, List.set_cons_succ])
    refine wpAnyH_take (i := 13) (oi := ⟨some 56, _, _, _, _, _⟩) (v := ?_) rfl (by kernel_rfl) (by kernel_rfl) (by kernel_rfl) (fun _ _ _ h => h) (Or.inl ⟨by rfl, ?_⟩) (by assumption) ?_
    rotate_left
    · intro w' hSw
      (try dsimp only at hSw)
      go_simp
      try with_reducible rfl
    (try simp only [Act.put, List.setIfInBounds_toArray, List.set_cons_zero, List.set_cons_succ])
    refine wpAnyH_take (i := 14) (oi := ⟨some 57, _, _, _, _, _⟩) (v := ?_) rfl (by kernel_rfl) (by kernel_rfl) (by kernel_rfl) (fun _ _ _ h => h) (Or.inl ⟨by rfl, ?_⟩) (by assumption) ?_
    rotate_left
    · intro w' hSw
      (try dsimp only at hSw)
      go_simp
      try with_reducible rfl
    (try simp only [Act.put, List.setIfInBounds_toArray, List.set_cons_zero, List.set_cons_succ])
    refine wpAnyH_take (i := 15) (oi := ⟨some 58, _, _, _, _, _⟩) (v := ?_) rfl (by kernel_rfl) (by kernel_rfl) (by kernel_rfl) (fun _ _ _ h => h) (Or.inl ⟨by rfl, ?_⟩) (by assumption) ?_
    rotate_left
    · intro w' hSw
      (try dsimp only at hSw)
      go_simp
      try with_reducible rfl
    (try simp only [Act.put, List.setIfInBounds_toArray, List.set_cons_zero, List.set_cons_succ])
    refine wpAnyH_take (i := 16) (oi := ⟨some 59, _, _, _, _, _⟩) (v := ?_) rfl (by kernel_rfl) (by kernel_rfl) (by kernel_rfl) (fun _ _ _ h => h) (Or.inl ⟨by rfl, ?_⟩) (by assumption) ?_
    rotate_left
    · intro w' hSw
      (try dsimp only at hSw)
      go_simp
      try with_reducible rfl
    (try simp only [Act.put, List.setIfInBounds_toArray, List.set_cons_zero, List.set_cons_succ])
    refine wpAnyH_take (i := 17) (oi := ⟨some 60, _, _, _, _, _⟩) (v := ?_) rfl (by kernel_rfl) (by kernel_rfl) (by kernel_rfl) (fun _ _ _ h => h) (Or.inl ⟨by rfl, ?_⟩) (by assumption) ?_
    rotate_left
    · intro w' hSw
      (try dsimp only at hSw)
      go_simp
      try with_reducible rfl
    (try simp only [Act.put, List.setIfInBounds_toArray, List.set_cons_zero, List.set_cons_succ])
    refine wpAnyH_take (i := 19) (oi := ⟨some 62, _, _, _, _, _⟩) (v := ?_) rfl (by kernel_rfl) (by kernel_rfl) (by kernel_rfl) (fun _ _ _ h => h) (Or.inl ⟨by rfl, ?_⟩) (by assumption) ?_
    rotate_left
    · intro w' hSw
      (try dsimp only at hSw)
      go_simp
      try with_reducible rfl
    (try simp only [Act.put, List.setIfInBounds_toArray, List.set_cons_zero, List.set_cons_succ])
    refine wpAnyH_take (i := 20) (oi := ⟨some 63, _, _, _, _, _⟩) (v := ?_) rfl (by kernel_rfl) (by kernel_rfl) (by kernel_rfl) (fun _ _ _ h => h) (Or.inl ⟨by rfl, ?_⟩) (by assumption) ?_
    rotate_left
    · intro w' hSw
      (try dsimp only at hSw)
      go_simp
      try with_reducible rfl
    (try simp only [Act.put, List.setIfInBounds_toArray, List.set_cons_zero, List.set_cons_succ])
    refine wpAnyH_ready (rs := [18]) (by kernel_rfl) (by simp) ?_
    refine AllReadyH.cons (o := ⟨some 61, _, _, _, _, _⟩) rfl (fun K hK => ?_) AllReadyH.nil
    clear hHeld
    go_simp
    go_at_call 19
    refine (HIA.out _ (RI2.out.below By3.out (Nat.le_refl _)) (RL2.out.below By3.out (Nat.le_refl _))).mono ?_
    rintro e y4 ⟨v4, rfl, ho, hb⟩
    obtain ⟨a4, c4, rfl, -⟩ := id ho.2
    have O4 := Lib.hid ho.rd
    have By4 := Lib.hid (By3.out.trans (hb.mono By3.out.size))
    have Ly4 := Lib.hid hb
    clear hb ho
    refine hK.out _ _ (KP.out _ By4.out) (fun hHeld => ?_)
    clear hK K
    (try simp only [Act.put, List.setIfInBounds_toArray, List.set_cons_zero, List.set_cons_succ])
    refine wpAnyH_ready (rs := [21]) (by kernel_rfl) (by simp) ?_
    refine AllReadyH.cons (o := ⟨some 64, _, _, _, _, _⟩) rfl (fun K hK => ?_) AllReadyH.nil
    clear hHeld
    go_simp
    go_at_call 18
    refine (HSA.out _ (RI2.out.below By4.out (Nat.le_refl _)) (RL2.out.below By4.out (Nat.le_refl _))).mono ?_
    rintro e y5 ⟨v5, rfl, ho, hb⟩
    obtain ⟨a5, c5, rfl, -⟩ := id ho.2
    have O5 := Lib.hid ho.rd
    have By5 := Lib.hid (By4.out.trans (hb.mono By4.out.size))
    have Ly5 := Lib.hid hb
    clear hb ho
    refine hK.out _ _ (KP.out _ By5.out) (fun hHeld => ?_)
    clear hK K
    (try simp only [Act.put, List.setIfInBounds_toArray, List.set_cons_zero, List.set_cons_succ])
    refine wpAnyH_ready (rs := [22]) (by kernel_rfl) (by simp) ?_
    refine AllReadyH.cons (o := ⟨some 65, _, _, _, _, _⟩) rfl (fun K hK => ?_) AllReadyH.nil
    clear hHeld
    go_simp
    go_at_call 30
    refine (LW.out _ _ _ (O4.out.below Ly5.out (Nat.le_refl _)) O5.out).mono ?_
    rintro e y6 ⟨rfl, hb⟩
    have By6 := Lib.hid (By5.out.trans (hb.mono By5.out.size))
    clear hb
    refine hK.out _ _ (KP.out _ By6.out) (fun hHeld => ?_)
    clear hK K
    (try simp only [Act.put, List.setIfInBounds_toArray, List.set_cons_zero, List.set_cons_succ])
    refine wpAnyH_take (i := 23) (oi := ⟨some 66, _, _, _, _, _⟩) (v := ?_) rfl (by kernel_rfl) (by kernel_rfl) (by kernel_rfl) (fun _ _ _ h => h) (Or.inl ⟨by rfl, ?_⟩) (by assumption) ?_
    rotate_left
    · intro w' hSw
      (try dsimp only at hSw)
      go_simp
      try with_reducible rfl
    (try simp only [Act.put, List.setIfInBounds_toArray, List.set_cons_zero, List.set_cons_succ])
    refine wpAnyH_take (i := 24) (oi := ⟨some 67, _, _, _, _, _⟩) (v := ?_) rfl (by kernel_rfl) (by kernel_rfl) (by kernel_rfl) (fun _ _ _ h => h) (Or.inl ⟨by rfl, ?_⟩) (by assumption) ?_
    rotate_left
    · intro w' hSw
      (try dsimp only at hSw)
      go_simp
      try with_reducible rfl
    (try simp only [Act.put, List.setIfInBounds_toArray, List.set_cons_zero, List.set_cons_succ])
    refine wpAnyH_done (by kernel_rfl) ?_ _
    clear hHeld
    
    clear KP
    go_wp2_with fail
    go_meet
    case rel => exact ⟨rfl, By6.out⟩
  case rest =>
    obtain ⟨rfl, hb⟩ := hcut
    replace XX := Lib.hid (XX.out.next hb)
    replace RI := Lib.hid (RI.out.below hb (Nat.le_refl _))
    replace RL := Lib.hid (RL.out.below hb (Nat.le_refl _))
    replace BW := Lib.hid (below_more BW.out hb)
    clear hb KP RT RI2 RL2 HSS HIT HST HIA HSA LW HTS
    obtain ⟨V, rfl⟩ : ∃ V, V = wc := ⟨_, rfl⟩
    have HAL := Lib.hid (fun w h k => implSnapAll (.slice ai im.length ci) (.slice al l.length cl) im l w h k (by omega) (by omega))
    have HQC := Lib.hid (applyR_snd im l)
    have hRl := applyR_len im l
    have HQF := Lib.hid (fun h : applyC im l = 0 => applyR_fst h)
    have HQA := Lib.hid (fun (h : applyC im l = 0) (i : Nat) (hi : i < im.length) => show (applyR im l).1[i]? = some (snapB im l i) by rw [applyR_yes h]; exact snap_apply h hi)
    obtain ⟨P, hP⟩ : ∃ P, P = applyR im l := ⟨_, rfl⟩
    rw [← hP] at HAL HQC hRl HQF HQA
    clear hP
    obtain ⟨L, cc⟩ := P
    unfold OwnZ at HAL
    dsimp only at HAL HQC hRl HQF HQA
    go_wp2_with fail
    refine (HAL.out V RI.out RL.out).mono ?_
    rintro e w7 ⟨vx, rfl, hox, hb⟩
    obtain ⟨ax, cx, rfl, -⟩ := id hox.2
    have hbb := below_more hb (below_alloc1 w7 (.cells #[.slice ax L.length cx, .int .i64 cc] 37))
    have XB := Lib.hid (bx_new w7 37 #[.slice ax L.length cx, .int .i64 cc])
    have RX := Lib.hid (hox.rd.below (below_alloc1 w7 (.cells #[.slice ax L.length cx, .int .i64 cc] 37)) (Nat.le_refl _))
    replace XX := Lib.hid (XX.out.next hbb)
    replace RI := Lib.hid (RI.out.below hbb (Nat.le_refl _))
    replace RL := Lib.hid (RL.out.below hbb (Nat.le_refl _))
    replace BW := Lib.hid (below_more BW.out hbb)
    have x2 := XX.out.t2
    clear hb hbb hox HAL
    by_cases hc : cc = 0
    rotate_left
    · have hx : xc = cc := by
        have h1 := HCD.out (by rw [← HQC.out]; exact hc)
        have h2 := congrArg Prod.snd h1
        simp only at h2
        rw [h2, HQC.out]
      have dc : (cc != 0) = true := bne_iff_ne.2 hc
      subst hx
      clear hc
      go_wp2_with fail
      go_ret
      exact ⟨rfl, BW.out⟩
    subst hc
    have h0c := HQC.out.symm
    have H0C := Lib.hid h0c
    have HLn := Lib.hid (show L.length = im.length from HQF.out h0c)
    have HAT := Lib.hid (HQA.out h0c)
    have hcode := (applyC_ok h0c).2.1
    have TO := Lib.hid (fitTo_of hcode)
    have hl20 := (code_ok hcode).2.1
    clear h0c hcode HQF HQA HCD x2 XX
    go_wp2_with fail
    generalize w7.alloc (.cells #[.slice ax L.length cx, .int .i64 0] 37) = V2 at *
    generalize w7.heap.size = nz at *
    go_loopw [14] (fun i wr => SnOut im.length V2 i wr) (fun i _ => im.length - (intOf i).toNat)
    case atStart => exact ⟨0, by omega, rfl, Below.refl _ _⟩
    case round =>
      obtain ⟨k, hk, rfl, hb⟩ := hrel
      obtain ⟨Y, rfl⟩ : ∃ Y, Y = wr := ⟨_, rfl⟩
      have BY := Lib.hid (below_more BW.out hb)
      have BK := Lib.hid hb
      by_cases hlt : k < im.length
      · have XY := Lib.hid (XB.out.next hb)
        have RIY := Lib.hid (RI.out.below hb (Nat.le_refl _))
        have RLY := Lib.hid (RL.out.below hb (Nat.le_refl _))
        have RXY := Lib.hid (RX.out.below hb (Nat.le_refl _))
        have hat := HAT.out k hlt
        have hkL : k < L.length := by have := HLn.out; omega
        rw [List.getElem?_eq_getElem hkL] at hat
        have hLk : L[k] = snapB im l k := Option.some.inj hat
        obtain ⟨bi, oi, hpi, hbi, hci⟩ := RIY.out.get (by omega)
        obtain ⟨bx, ox, hpx, hbx, hcx⟩ := RXY.out.get (by omega)
        cases hpi
        cases hpx
        have r0 : Y.cell? ⟨bi, oi + k, none⟩ = some (.string im[k]) := by rw [hci k (by omega), strs_at im k hlt]
        have r1 : Y.cell? ⟨bx, ox + k, none⟩ = some (.string (snapB im l k)) := by rw [hcx k (by omega), strs_at L k hkL, hLk]
        have e0 : (k : Int) < (im.length : Int) := by omega
        have e1 : (k : Int) < (L.length : Int) := by omega
        have e2 : (0 : Int) ≤ (k : Int) := by omega
        have HRd := Lib.hid (fun w h k' => implSnapRead (.slice (some ⟨bi, oi, none⟩) im.length ci) (.slice al l.length cl) im l (k : Int) w h k' (by omega) (by omega))
        rw [snapR_in H0C.out hlt] at HRd
        unfold TextW at HRd
        dsimp only at HRd
        have HTo := Lib.hid (fun w h => implTouches (.slice al l.length cl) l (k : Int) w h (by omega) TO.out (by omega) (by omega))
        have hts : touchS l (k : Int) = touchI l (k : Int) := by unfold touchS; rw [if_neg (by omega)]
        rw [hts] at HTo
        have HBS := Lib.hid (fun h : touchI l (k : Int) < 0 => snapB_base (base := im) h hlt)
        obtain ⟨S, hS⟩ : ∃ S, S = snapB im l k := ⟨_, rfl⟩
        rw [← hS] at r1 HRd HBS
        obtain ⟨U, hU⟩ : ∃ U, U = touchI l (k : Int) := ⟨_, rfl⟩
        rw [← hU] at HTo HBS
        clear hat hLk hci hcx hb hts hS hU
        have KP := Lib.hid (show ∀ w', Below Y.heap.size Y w' → w'.cell? ⟨nz, 0, none⟩ = some (.slice (some ⟨bx, ox, none⟩) L.length cx) ∧ w'.cell? ⟨bx, ox + k, none⟩ = some (.string S) ∧ w'.cell? ⟨bi, oi + k, none⟩ = some (.string im[k]) from fun w' hb' => ⟨(XY.out.next hb').c0, (hb'.cell (p := ⟨bx, ox + k, none⟩) hbx).trans r1, (hb'.cell (p := ⟨bi, oi + k, none⟩) hbi).trans r0⟩)
        clear r0 r1
        by_cases hneg : U < 0
        · have du : decide (U < 0) = true := decide_eq_true hneg
          have hbs := HBS.out hneg
          rw [← hbs] at KP
          clear hbs hneg HBS
          go_upto_region 15 with (fail)
          refine wp_region_held_drew (S := (fun w' => w'.cell? ⟨nz, 0, none⟩ = some (.slice (some ⟨bx, ox, none⟩) L.length cx) ∧ w'.cell? ⟨bx, ox + k, none⟩ = some (.string S) ∧ w'.cell? ⟨bi, oi + k, none⟩ = some (.string S))) (by kernel_rfl) (KP.out _ (Below.refl _ _).drew) (fun hHeld => ?_)
          refine wpAnyH_take (i := 0) (oi := ⟨some 83, _, _, _, _, _⟩) (v := ?_) rfl (by kernel_rfl) (by kernel_rfl) (by kernel_rfl) (fun _ _ _ h => h) (Or.inl ⟨by rfl, ?_⟩) (by assumption) ?_
          rotate_left
          · intro w' hSw
            (try dsimp only at hSw)
            go_simp
            try with_reducible rfl
          (try simp only [Act.put, List.setIfInBounds_toArray, List.set_cons_zero, List.set_cons_succ])
          refine wpAnyH_take (i := 1) (oi := ⟨some 84, _, _, _, _, _⟩) (v := ?_) rfl (by kernel_rfl) (by kernel_rfl) (by kernel_rfl) (fun _ _ _ h => h) (Or.inl ⟨by rfl, ?_⟩) (by assumption) ?_
          rotate_left
          · intro w' hSw
            (try dsimp only at hSw)
            go_simp
            try with_reducible rfl
          (try simp only [Act.put, List.setIfInBounds_toArray, List.set_cons_zero, List.set_cons_succ])
          refine wpAnyH_take (i := 2) (oi := ⟨some 85, _, _, _, _, _⟩) (v := ?_) rfl (by kernel_rfl) (by kernel_rfl) (by kernel_rfl) (fun _ _ _ h => h) (Or.inl ⟨by rfl, ?_⟩) (by assumption) ?_
          rotate_left
          · intro w' hSw
            (try dsimp only at hSw)
            go_simp
            try with_reducible rfl
          (try simp only [Act.put, List.setIfInBounds_toArray, List.set_cons_zero, List.set_cons_succ])
          refine wpAnyH_take (i := 4) (oi := ⟨some 87, _, _, _, _, _⟩) (v := ?_) rfl (by kernel_rfl) (by kernel_rfl) (by kernel_rfl) (fun _ _ _ h => h) (Or.inl ⟨by rfl, ?_⟩) (by assumption) ?_
          rotate_left
          · intro w' hSw
            (try dsimp only at hSw)
            go_simp
            try with_reducible rfl
          (try simp only [Act.put, List.setIfInBounds_toArray, List.set_cons_zero, List.set_cons_succ])
          refine wpAnyH_take (i := 5) (oi := ⟨some 88, _, _, _, _, _⟩) (v := ?_) rfl (by kernel_rfl) (by kernel_rfl) (by kernel_rfl) (fun _ _ _ h => h) (Or.inl ⟨by rfl, ?_⟩) (by assumption) ?_
          rotate_left
          · intro w' hSw
            (try dsimp only at hSw)
            go_simp
            try with_reducible rfl
          (try simp only [Act.put, List.setIfInBounds_toArray, List.set_cons_zero, List.set_cons_succ])
          refine wpAnyH_take (i := 6) (oi := ⟨some 89, _, _, _, _, _⟩) (v := ?_) rfl (by kernel_rfl) (by kernel_rfl) (by kernel_rfl) (fun _ _ _ h => h) (Or.inl ⟨by rfl, ?_⟩) (by assumption) ?_
          rotate_left
          · intro w' hSw
            (try dsimp only at hSw)
            go_simp
            try with_reducible rfl
          (try simp only [Act.put, List.setIfInBounds_toArray, List.set_cons_zero, List.set_cons_succ])
          refine wpAnyH_take (i := 7) (oi := ⟨some 90, _, _, _, _, _⟩) (v := ?_) rfl (by kernel_rfl) (by kernel_rfl) (by kernel_rfl) (fun _ _ _ h => h) (Or.inl ⟨by rfl, ?_⟩) (by assumption) ?_
          rotate_left
          · intro w' hSw
            (try dsimp only at hSw)
            go_simp
            try with_reducible rfl
          (try simp only [Act.put, List.setIfInBounds_toArray, List.set_cons_zero, List.set_cons_succ])
          refine wpAnyH_take (i := 8) (oi := ⟨some 91, _, _, _, _, _⟩) (v := ?_) rfl (by kernel_rfl) (by kernel_rfl) (by kernel_rfl) (fun _ _ _ h => h) (Or.inl ⟨by rfl, ?_⟩) (by assumption) ?_
          rotate_left
          · intro w' hSw
            (try dsimp only at hSw)
            go_simp
            try with_reducible rfl
          (try simp only [Act.put, List.setIfInBounds_toArray, List.set_cons_zero, List.set_cons_succ])
          refine wpAnyH_take (i := 9) (oi := ⟨some 92, _, _, _, _, _⟩) (v := ?_) rfl (by kernel_rfl) (by kernel_rfl) (by kernel_rfl) (fun _ _ _ h => h) (Or.inl ⟨by rfl, ?_⟩) (by assumption) ?_
          rotate_left
          · intro w' hSw
            (try dsimp only at hSw)
            go_simp
            try with_reducible rfl
          (try simp only [Act.put, List.setIfInBounds_toArray, List.set_cons_zero, List.set_cons_succ])
          refine wpAnyH_ready (rs := [3]) (by kernel_rfl) (by simp) ?_
          refine AllReadyH.cons (o := ⟨some 86, _, _, _, _, _⟩) rfl (fun K hK => ?_) AllReadyH.nil
          clear hHeld
          go_simp
          go_at_call 14
          refine (HRd.out _ (RIY.out.below (Below.refl Y.heap.size Y).drew (Nat.le_refl _)) (RLY.out.below (Below.refl Y.heap.size Y).drew (Nat.le_refl _))).mono ?_
          rintro e y1 ⟨rfl, hb⟩
          have By1 := Lib.hid ((Below.refl Y.heap.size Y).drew.trans (hb.mono (Below.refl Y.heap.size Y).drew.size))
          clear hb
          refine hK.out _ _ (KP.out _ By1.out) (fun hHeld => ?_)
          clear hK K
          (try simp only [Act.put, List.setIfInBounds_toArray, List.set_cons_zero, List.set_cons_succ])
          refine wpAnyH_take (i := 10) (oi := ⟨some 93, _, _, _, _, _⟩) (v := ?_) rfl (by kernel_rfl) (by kernel_rfl) (by kernel_rfl) (fun _ _ _ h => h) (Or.inl ⟨by rfl, ?_⟩) (by assumption) ?_
          rotate_left
          · intro w' hSw
            (try dsimp only at hSw)
            go_simp
            try with_reducible rfl
          (try simp only [Act.put, List.setIfInBounds_toArray, List.set_cons_zero, List.set_cons_succ])
          refine wpAnyH_take (i := 11) (oi := ⟨some 94, _, _, _, _, _⟩) (v := ?_) rfl (by kernel_rfl) (by kernel_rfl) (by kernel_rfl) (fun _ _ _ h => h) (Or.inl ⟨by rfl, ?_⟩) (by assumption) ?_
          rotate_left
          · intro w' hSw
            (try dsimp only at hSw)
            go_simp
            try with_reducible rfl
          (try simp only [Act.put, List.setIfInBounds_toArray, List.set_cons_zero, List.set_cons_succ])
          refine wpAnyH_take (i := 12) (oi := ⟨some 95, _, _, _, _, _⟩) (v := ?_) rfl (by kernel_rfl) (by kernel_rfl) (by kernel_rfl) (fun _ _ _ h => h) (Or.inl ⟨by rfl, ?_⟩) (by assumption) ?_
          rotate_left
          · intro w' hSw
            (try dsimp only at hSw)
            go_simp
            try with_reducible rfl
          (try simp only [Act.put, List.setIfInBounds_toArray, List.set_cons_zero, List.set_cons_succ])
          refine wpAnyH_take (i := 13) (oi := ⟨some 96, _, _, _, _, _⟩) (v := ?_) rfl (by kernel_rfl) (by kernel_rfl) (by kernel_rfl) (fun _ _ _ h => h) (Or.inl ⟨by rfl, ?_⟩) (by assumption) ?_
          rotate_left
          · intro w' hSw
            (try dsimp only at hSw)
            go_simp
            try with_reducible rfl
          (try simp only [Act.put, List.setIfInBounds_toArray, List.set_cons_zero, List.set_cons_succ])
          refine wpAnyH_ready (rs := [14]) (by kernel_rfl) (by simp) ?_
          refine AllReadyH.cons (o := ⟨some 97, _, _, _, _, _⟩) rfl (fun K hK => ?_) AllReadyH.nil
          clear hHeld
          go_simp
          go_at_call 26
          refine (HTo.out _ (RLY.out.below By1.out (Nat.le_refl _))).mono ?_
          rintro e y2 ⟨rfl, hb⟩
          have By2 := Lib.hid (By1.out.trans (hb.mono By1.out.size))
          clear hb
          refine hK.out _ _ (KP.out _ By2.out) (fun hHeld => ?_)
          clear hK K
          (try simp only [Act.put, List.setIfInBounds_toArray, List.set_cons_zero, List.set_cons_succ])
          refine wpAnyH_take (i := 15) (oi := ⟨some 98, _, _, _, _, _⟩) (v := ?_) rfl (by kernel_rfl) (by kernel_rfl) (by kernel_rfl) (fun _ _ _ h => h) (Or.inl ⟨by rfl, ?_⟩) (by assumption) ?_
          rotate_left
          · intro w' hSw
            (try dsimp only at hSw)
            go_simp
            try with_reducible rfl
          (try simp only [Act.put, List.setIfInBounds_toArray, List.set_cons_zero, List.set_cons_succ])
          refine wpAnyH_take (i := 16) (oi := ⟨some 99, _, _, _, _, _⟩) (v := ?_) rfl (by kernel_rfl) (by kernel_rfl) (by kernel_rfl) (fun _ _ _ h => h) (Or.inl ⟨by rfl, ?_⟩) (by assumption) ?_
          rotate_left
          · intro w' hSw
            (try dsimp only at hSw)
            go_simp
            try with_reducible rfl
          (try simp only [Act.put, List.setIfInBounds_toArray, List.set_cons_zero, List.set_cons_succ])
          refine wpAnyH_take (i := 17) (oi := ⟨some 100, _, _, _, _, _⟩) (v := ?_) rfl (by kernel_rfl) (by kernel_rfl) (by kernel_rfl) (fun _ _ _ h => h) (Or.inl ⟨by rfl, ?_⟩) (by assumption) ?_
          rotate_left
          · intro w' hSw
            (try dsimp only at hSw)
            go_simp
            try with_reducible rfl
          (try simp only [Act.put, List.setIfInBounds_toArray, List.set_cons_zero, List.set_cons_succ])
          refine wpAnyH_take (i := 18) (oi := ⟨some 101, _, _, _, _, _⟩) (v := ?_) rfl (by kernel_rfl) (by kernel_rfl) (by kernel_rfl) (fun _ _ _ h => h) (Or.inl ⟨by rfl, ?_⟩) (by assumption) ?_
          rotate_left
          · intro w' hSw
            (try dsimp only at hSw)
            go_simp
            try with_reducible rfl
          (try simp only [Act.put, List.setIfInBounds_toArray, List.set_cons_zero, List.set_cons_succ])
          refine wpAnyH_take (i := 19) (oi := ⟨some 102, _, _, _, _, _⟩) (v := ?_) rfl (by kernel_rfl) (by kernel_rfl) (by kernel_rfl) (fun _ _ _ h => h) (Or.inl ⟨by rfl, ?_⟩) (by assumption) ?_
          rotate_left
          · intro w' hSw
            (try dsimp only at hSw)
            go_simp
            try with_reducible rfl
          (try simp only [Act.put, List.setIfInBounds_toArray, List.set_cons_zero, List.set_cons_succ])
          refine wpAnyH_take (i := 20) (oi := ⟨some 103, _, _, _, _, _⟩) (v := ?_) rfl (by kernel_rfl) (by kernel_rfl) (by kernel_rfl) (fun _ _ _ h => h) (Or.inl ⟨by rfl, ?_⟩) (by assumption) ?_
          rotate_left
          · intro w' hSw
            (try dsimp only at hSw)
            go_simp
            try with_reducible rfl
          (try simp only [Act.put, List.setIfInBounds_toArray, List.set_cons_zero, List.set_cons_succ])
          refine wpAnyH_take (i := 21) (oi := ⟨some 104, _, _, _, _, _⟩) (v := ?_) rfl (by kernel_rfl) (by kernel_rfl) (by kernel_rfl) (fun _ _ _ h => h) (Or.inl ⟨by rfl, ?_⟩) (by assumption) ?_
          rotate_left
          · intro w' hSw
            (try dsimp only at hSw)
            go_simp
            try with_reducible rfl
          (try simp only [Act.put, List.setIfInBounds_toArray, List.set_cons_zero, List.set_cons_succ])
          refine wpAnyH_take (i := 22) (oi := ⟨some 105, _, _, _, _, _⟩) (v := ?_) rfl (by kernel_rfl) (by kernel_rfl) (by kernel_rfl) (fun _ _ _ h => h) (Or.inl ⟨by rfl, ?_⟩) (by assumption) ?_
          rotate_left
          · intro w' hSw
            (try dsimp only at hSw)
            go_simp
            try with_reducible rfl
          (try simp only [Act.put, List.setIfInBounds_toArray, List.set_cons_zero, List.set_cons_succ])
          refine wpAnyH_take (i := 23) (oi := ⟨some 106, _, _, _, _, _⟩) (v := ?_) rfl (by kernel_rfl) (by kernel_rfl) (by kernel_rfl) (fun _ _ _ h => h) (Or.inl ⟨by rfl, ?_⟩) (by assumption) ?_
          rotate_left
          · intro w' hSw
            (try dsimp only at hSw)
            go_simp
            try with_reducible rfl
          (try simp only [Act.put, List.setIfInBounds_toArray, List.set_cons_zero, List.set_cons_succ])
          refine wpAnyH_take (i := 24) (oi := ⟨some 107, _, _, _, _, _⟩) (v := ?_) rfl (by kernel_rfl) (by kernel_rfl) (by kernel_rfl) (fun _ _ _ h => h) (Or.inl ⟨by rfl, ?_⟩) (by assumption) ?_
          rotate_left
          · intro w' hSw
            (try dsimp only at hSw)
            go_simp
            try with_reducible rfl
          (try simp only [Act.put, List.setIfInBounds_toArray, List.set_cons_zero, List.set_cons_succ])
          refine wpAnyH_take (i := 25) (oi := ⟨some 108, _, _, _, _, _⟩) (v := ?_) rfl (by kernel_rfl) (by kernel_rfl) (by kernel_rfl) (fun _ _ _ h => h) (Or.inl ⟨by rfl, ?_⟩) (by assumption) ?_
          rotate_left
          · intro w' hSw
            (try dsimp only at hSw)
            go_simp
            try with_reducible rfl
          (try simp only [Act.put, List.setIfInBounds_toArray, List.set_cons_zero, List.set_cons_succ])
          refine wpAnyH_take (i := 26) (oi := ⟨some 109, _, _, _, _, _⟩) (v := ?_) rfl (by kernel_rfl) (by kernel_rfl) (by kernel_rfl) (fun _ _ _ h => h) (Or.inl ⟨by rfl, ?_⟩) (by assumption) ?_
          rotate_left
          · intro w' hSw
            (try dsimp only at hSw)
            go_simp
            try with_reducible rfl
          (try simp only [Act.put, List.setIfInBounds_toArray, List.set_cons_zero, List.set_cons_succ])
          refine wpAnyH_take (i := 27) (oi := ⟨some 110, _, _, _, _, _⟩) (v := ?_) rfl (by kernel_rfl) (by kernel_rfl) (by kernel_rfl) (fun _ _ _ h => h) (Or.inl ⟨by rfl, ?_⟩) (by assumption) ?_
          rotate_left
          · intro w' hSw
            (try dsimp only at hSw)
            go_simp
            try with_reducible rfl
          (try simp only [Act.put, List.setIfInBounds_toArray, List.set_cons_zero, List.set_cons_succ])
          refine wpAnyH_take (i := 28) (oi := ⟨some 111, _, _, _, _, _⟩) (v := ?_) rfl (by kernel_rfl) (by kernel_rfl) (by kernel_rfl) (fun _ _ _ h => h) (Or.inl ⟨by rfl, ?_⟩) (by assumption) ?_
          rotate_left
          · intro w' hSw
            (try dsimp only at hSw)
            go_simp
            try with_reducible rfl
          (try simp only [Act.put, List.setIfInBounds_toArray, List.set_cons_zero, List.set_cons_succ])
          refine wpAnyH_done (by kernel_rfl) ?_ _
          clear hHeld
          
          have BF := Lib.hid (below_more BK.out By2.out)
          clear By1 By2 KP
          go_wp2_with fail
          go_roundw
          case rel =>
            have fin : SnOut im.length V2 (.int .i64 ((k : Int) + 1)) y2 := ⟨k + 1, by omega, by go_num, BF.out⟩
            first | exact fin | ((repeat apply Exists.intro); exact ⟨fin, rfl⟩)
          case measure => simp [intOf]; omega
        · have du : decide (U < 0) = false := decide_eq_false hneg
          clear hneg HBS
          go_upto_region 15 with (fail)
          refine wp_region_held_drew (S := (fun w' => w'.cell? ⟨nz, 0, none⟩ = some (.slice (some ⟨bx, ox, none⟩) L.length cx) ∧ w'.cell? ⟨bx, ox + k, none⟩ = some (.string S) ∧ w'.cell? ⟨bi, oi + k, none⟩ = some (.string im[k]))) (by kernel_rfl) (KP.out _ (Below.refl _ _).drew) (fun hHeld => ?_)
          refine wpAnyH_take (i := 0) (oi := ⟨some 83, _, _, _, _, _⟩) (v := ?_) rfl (by kernel_rfl) (by kernel_rfl) (by kernel_rfl) (fun _ _ _ h => h) (Or.inl ⟨by rfl, ?_⟩) (by assumption) ?_
          rotate_left
          · intro w' hSw
            (try dsimp only at hSw)
            go_simp
            try with_reducible rfl
          (try simp only [Act.put, List.setIfInBounds_toArray, List.set_cons_zero, List.set_cons_succ])
          refine wpAnyH_take (i := 1) (oi := ⟨some 84, _, _, _, _, _⟩) (v := ?_) rfl (by kernel_rfl) (by kernel_rfl) (by kernel_rfl) (fun _ _ _ h => h) (Or.inl ⟨by rfl, ?_⟩) (by assumption) ?_
          rotate_left
          · intro w' hSw
            (try dsimp only at hSw)
            go_simp
            try with_reducible rfl
          (try simp only [Act.put, List.setIfInBounds_toArray, List.set_cons_zero, List.set_cons_succ])
          refine wpAnyH_take (i := 2) (oi := ⟨some 85, _, _, _, _, _⟩) (v := ?_) rfl (by kernel_rfl) (by kernel_rfl) (by kernel_rfl) (fun _ _ _ h => h) (Or.inl ⟨by rfl, ?_⟩) (by assumption) ?_
          rotate_left
          · intro w' hSw
            (try dsimp only at hSw)
            go_simp
            try with_reducible rfl
          (try simp only [Act.put, List.setIfInBounds_toArray, List.set_cons_zero, List.set_cons_succ])
          refine wpAnyH_take (i := 4) (oi := ⟨some 87, _, _, _, _, _⟩) (v := ?_) rfl (by kernel_rfl) (by kernel_rfl) (by kernel_rfl) (fun _ _ _ h => h) (Or.inl ⟨by rfl, ?_⟩) (by assumption) ?_
          rotate_left
          · intro w' hSw
            (try dsimp only at hSw)
            go_simp
            try with_reducible rfl
          (try simp only [Act.put, List.setIfInBounds_toArray, List.set_cons_zero, List.set_cons_succ])
          refine wpAnyH_take (i := 5) (oi := ⟨some 88, _, _, _, _, _⟩) (v := ?_) rfl (by kernel_rfl) (by kernel_rfl) (by kernel_rfl) (fun _ _ _ h => h) (Or.inl ⟨by rfl, ?_⟩) (by assumption) ?_
          rotate_left
          · intro w' hSw
            (try dsimp only at hSw)
            go_simp
            try with_reducible rfl
          (try simp only [Act.put, List.setIfInBounds_toArray, List.set_cons_zero, List.set_cons_succ])
          refine wpAnyH_take (i := 6) (oi := ⟨some 89, _, _, _, _, _⟩) (v := ?_) rfl (by kernel_rfl) (by kernel_rfl) (by kernel_rfl) (fun _ _ _ h => h) (Or.inl ⟨by rfl, ?_⟩) (by assumption) ?_
          rotate_left
          · intro w' hSw
            (try dsimp only at hSw)
            go_simp
            try with_reducible rfl
          (try simp only [Act.put, List.setIfInBounds_toArray, List.set_cons_zero, List.set_cons_succ])
          refine wpAnyH_take (i := 7) (oi := ⟨some 90, _, _, _, _, _⟩) (v := ?_) rfl (by kernel_rfl) (by kernel_rfl) (by kernel_rfl) (fun _ _ _ h => h) (Or.inl ⟨by rfl, ?_⟩) (by assumption) ?_
          rotate_left
          · intro w' hSw
            (try dsimp only at hSw)
            go_simp
            try with_reducible rfl
          (try simp only [Act.put, List.setIfInBounds_toArray, List.set_cons_zero, List.set_cons_succ])
          refine wpAnyH_take (i := 8) (oi := ⟨some 91, _, _, _, _, _⟩) (v := ?_) rfl (by kernel_rfl) (by kernel_rfl) (by kernel_rfl) (fun _ _ _ h => h) (Or.inl ⟨by rfl, ?_⟩) (by assumption) ?_
          rotate_left
          · intro w' hSw
            (try dsimp only at hSw)
            go_simp
            try with_reducible rfl
          (try simp only [Act.put, List.setIfInBounds_toArray, List.set_cons_zero, List.set_cons_succ])
          refine wpAnyH_take (i := 9) (oi := ⟨some 92, _, _, _, _, _⟩) (v := ?_) rfl (by kernel_rfl) (by kernel_rfl) (by kernel_rfl) (fun _ _ _ h => h) (Or.inl ⟨by rfl, ?_⟩) (by assumption) ?_
          rotate_left
          · intro w' hSw
            (try dsimp only at hSw)
            go_simp
            try with_reducible rfl
          (try simp only [Act.put, List.setIfInBounds_toArray, List.set_cons_zero, List.set_cons_succ])
          refine wpAnyH_ready (rs := [3]) (by kernel_rfl) (by simp) ?_
          refine AllReadyH.cons (o := ⟨some 86, _, _, _, _, _⟩) rfl (fun K hK => ?_) AllReadyH.nil
          clear hHeld
          go_simp
          go_at_call 14
          refine (HRd.out _ (RIY.out.below (Below.refl Y.heap.size Y).drew (Nat.le_refl _)) (RLY.out.below (Below.refl Y.heap.size Y).drew (Nat.le_refl _))).mono ?_
          rintro e y1 ⟨rfl, hb⟩
          have By1 := Lib.hid ((Below.refl Y.heap.size Y).drew.trans (hb.mono (Below.refl Y.heap.size Y).drew.size))
          clear hb
          refine hK.out _ _ (KP.out _ By1.out) (fun hHeld => ?_)
          clear hK K
          (try simp only [Act.put, List.setIfInBounds_toArray, List.set_cons_zero, List.set_cons_succ])
          refine wpAnyH_take (i := 10) (oi := ⟨some 93, _, _, _, _, _⟩) (v := ?_) rfl (by kernel_rfl) (by kernel_rfl) (by kernel_rfl) (fun _ _ _ h => h) (Or.inl ⟨by rfl, ?_⟩) (by assumption) ?_
          rotate_left
          · intro w' hSw
            (try dsimp only at hSw)
            go_simp
            try with_reducible rfl
          (try simp only [Act.put, List.setIfInBounds_toArray, List.set_cons_zero, List.set_cons_succ])
          refine wpAnyH_take (i := 11) (oi := ⟨some 94, _, _, _, _, _⟩) (v := ?_) rfl (by kernel_rfl) (by kernel_rfl) (by kernel_rfl) (fun _ _ _ h => h) (Or.inl ⟨by rfl, ?_⟩) (by assumption) ?_
          rotate_left
          · intro w' hSw
            (try dsimp only at hSw)
            go_simp
            try with_reducible rfl
          (try simp only [Act.put, List.setIfInBounds_toArray, List.set_cons_zero, List.set_cons_succ])
          refine wpAnyH_take (i := 12) (oi := ⟨some 95, _, _, _, _, _⟩) (v := ?_) rfl (by kernel_rfl) (by kernel_rfl) (by kernel_rfl) (fun _ _ _ h => h) (Or.inl ⟨by rfl, ?_⟩) (by assumption) ?_
          rotate_left
          · intro w' hSw
            (try dsimp only at hSw)
            go_simp
            try with_reducible rfl
          (try simp only [Act.put, List.setIfInBounds_toArray, List.set_cons_zero, List.set_cons_succ])
          refine wpAnyH_take (i := 13) (oi := ⟨some 96, _, _, _, _, _⟩) (v := ?_) rfl (by kernel_rfl) (by kernel_rfl) (by kernel_rfl) (fun _ _ _ h => h) (Or.inl ⟨by rfl, ?_⟩) (by assumption) ?_
          rotate_left
          · intro w' hSw
            (try dsimp only at hSw)
            go_simp
            try with_reducible rfl
          (try simp only [Act.put, List.setIfInBounds_toArray, List.set_cons_zero, List.set_cons_succ])
          refine wpAnyH_ready (rs := [14]) (by kernel_rfl) (by simp) ?_
          refine AllReadyH.cons (o := ⟨some 97, _, _, _, _, _⟩) rfl (fun K hK => ?_) AllReadyH.nil
          clear hHeld
          go_simp
          go_at_call 26
          refine (HTo.out _ (RLY.out.below By1.out (Nat.le_refl _))).mono ?_
          rintro e y2 ⟨rfl, hb⟩
          have By2 := Lib.hid (By1.out.trans (hb.mono By1.out.size))
          clear hb
          refine hK.out _ _ (KP.out _ By2.out) (fun hHeld => ?_)
          clear hK K
          (try simp only [Act.put, List.setIfInBounds_toArray, List.set_cons_zero, List.set_cons_succ])
          refine wpAnyH_take (i := 15) (oi := ⟨some 98, _, _, _, _, _⟩) (v := ?_) rfl (by kernel_rfl) (by kernel_rfl) (by kernel_rfl) (fun _ _ _ h => h) (Or.inl ⟨by rfl, ?_⟩) (by assumption) ?_
          rotate_left
          · intro w' hSw
            (try dsimp only at hSw)
            go_simp
            try with_reducible rfl
          (try simp only [Act.put, List.setIfInBounds_toArray, List.set_cons_zero, List.set_cons_succ])
          refine wpAnyH_take (i := 16) (oi := ⟨some 99, _, _, _, _, _⟩) (v := ?_) rfl (by kernel_rfl) (by kernel_rfl) (by kernel_rfl) (fun _ _ _ h => h) (Or.inl ⟨by rfl, ?_⟩) (by assumption) ?_
          rotate_left
          · intro w' hSw
            (try dsimp only at hSw)
            go_simp
            try with_reducible rfl
          (try simp only [Act.put, List.setIfInBounds_toArray, List.set_cons_zero, List.set_cons_succ])
          refine wpAnyH_take (i := 17) (oi := ⟨some 100, _, _, _, _, _⟩) (v := undef) rfl (by kernel_rfl) (by kernel_rfl) (by kernel_rfl) (fun _ _ _ h => h) (Or.inr ⟨by rfl, rfl⟩) (by assumption) ?_
          (try simp only [Act.put, List.setIfInBounds_toArray, List.set_cons_zero, List.set_cons_succ])
          refine wpAnyH_take (i := 18) (oi := ⟨some 101, _, _, _, _, _⟩) (v := undef) rfl (by kernel_rfl) (by kernel_rfl) (by kernel_rfl) (fun _ _ _ h => h) (Or.inr ⟨by rfl, rfl⟩) (by assumption) ?_
          (try simp only [Act.put, List.setIfInBounds_toArray, List.set_cons_zero, List.set_cons_succ])
          refine wpAnyH_take (i := 19) (oi := ⟨some 102, _, _, _, _, _⟩) (v := undef) rfl (by kernel_rfl) (by kernel_rfl) (by kernel_rfl) (fun _ _ _ h => h) (Or.inr ⟨by rfl, rfl⟩) (by assumption) ?_
          (try simp only [Act.put, List.setIfInBounds_toArray, List.set_cons_zero, List.set_cons_succ])
          refine wpAnyH_take (i := 20) (oi := ⟨some 103, _, _, _, _, _⟩) (v := undef) rfl (by kernel_rfl) (by kernel_rfl) (by kernel_rfl) (fun _ _ _ h => h) (Or.inr ⟨by rfl, rfl⟩) (by assumption) ?_
          (try simp only [Act.put, List.setIfInBounds_toArray, List.set_cons_zero, List.set_cons_succ])
          refine wpAnyH_take (i := 21) (oi := ⟨some 104, _, _, _, _, _⟩) (v := undef) rfl (by kernel_rfl) (by kernel_rfl) (by kernel_rfl) (fun _ _ _ h => h) (Or.inr ⟨by rfl, rfl⟩) (by assumption) ?_
          (try simp only [Act.put, List.setIfInBounds_toArray, List.set_cons_zero, List.set_cons_succ])
          refine wpAnyH_take (i := 22) (oi := ⟨some 105, _, _, _, _, _⟩) (v := undef) rfl (by kernel_rfl) (by kernel_rfl) (by kernel_rfl) (fun _ _ _ h => h) (Or.inr ⟨by rfl, rfl⟩) (by assumption) ?_
          (try simp only [Act.put, List.setIfInBounds_toArray, List.set_cons_zero, List.set_cons_succ])
          refine wpAnyH_take (i := 23) (oi := ⟨some 106, _, _, _, _, _⟩) (v := undef) rfl (by kernel_rfl) (by kernel_rfl) (by kernel_rfl) (fun _ _ _ h => h) (Or.inr ⟨by rfl, rfl⟩) (by assumption) ?_
          (try simp only [Act.put, List.setIfInBounds_toArray, List.set_cons_zero, List.set_cons_succ])
          refine wpAnyH_take (i := 24) (oi := ⟨some 107, _, _, _, _, _⟩) (v := undef) rfl (by kernel_rfl) (by kernel_rfl) (by kernel_rfl) (fun _ _ _ h => h) (Or.inr ⟨by rfl, rfl⟩) (by assumption) ?_
          (try simp only [Act.put, List.setIfInBounds_toArray, List.set_cons_zero, List.set_cons_succ])
          refine wpAnyH_take (i := 25) (oi := ⟨some 108, _, _, _, _, _⟩) (v := undef) rfl (by kernel_rfl) (by kernel_rfl) (by kernel_rfl) (fun _ _ _ h => h) (Or.inr ⟨by rfl, rfl⟩) (by assumption) ?_
          (try simp only [Act.put, List.setIfInBounds_toArray, List.set_cons_zero, List.set_cons_succ])
          refine wpAnyH_take (i := 26) (oi := ⟨some 109, _, _, _, _, _⟩) (v := undef) rfl (by kernel_rfl) (by kernel_rfl) (by kernel_rfl) (fun _ _ _ h => h) (Or.inr ⟨by rfl, rfl⟩) (by assumption) ?_
          (try simp only [Act.put, List.setIfInBounds_toArray, List.set_cons_zero, List.set_cons_succ])
          refine wpAnyH_take (i := 27) (oi := ⟨some 110, _, _, _, _, _⟩) (v := ?_) rfl (by kernel_rfl) (by kernel_rfl) (by kernel_rfl) (fun _ _ _ h => h) (Or.inl ⟨by rfl, ?_⟩) (by assumption) ?_
          rotate_left
          · intro w' hSw
            (try dsimp only at hSw)
            go_simp
            try with_reducible rfl
          (try simp only [Act.put, List.setIfInBounds_toArray, List.set_cons_zero, List.set_cons_succ])
          refine wpAnyH_take (i := 28) (oi := ⟨some 111, _, _, _, _, _⟩) (v := ?_) rfl (by kernel_rfl) (by kernel_rfl) (by kernel_rfl) (fun _ _ _ h => h) (Or.inl ⟨by rfl, ?_⟩) (by assumption) ?_
          rotate_left
          · intro w' hSw
            (try dsimp only at hSw)
            go_simp
            try with_reducible rfl
          (try simp only [Act.put, List.setIfInBounds_toArray, List.set_cons_zero, List.set_cons_succ])
          refine wpAnyH_done (by kernel_rfl) ?_ _
          clear hHeld
          
          have BF := Lib.hid (below_more BK.out By2.out)
          clear By1 By2 KP
          go_wp2_with fail
          go_roundw
          case rel =>
            have fin : SnOut im.length V2 (.int .i64 ((k : Int) + 1)) y2 := ⟨k + 1, by omega, by go_num, BF.out⟩
            first | exact fin | ((repeat apply Exists.intro); exact ⟨fin, rfl⟩)
          case measure => simp [intOf]; omega
      · obtain rfl : k = im.length := by omega
        go_wp2_with fail
        go_ret
        exact ⟨rfl, BY.out⟩
theorem snapLaw_any (a0 : Option Addr) (len0 cap0 : Nat) (a1 : Option Addr) (len1 cap1 : Nat) (w : World) (hB0 : Bytes w a0 len0) (hm0 : len0 ≤ maxLen) (hB1 : Bytes w a1 len1) (hm1 : len1 ≤ maxLen) :
    Calls Try.prog 6 #[.slice a0 len0 cap0, .slice a1 len1 cap1] w fun e w' => e = .returned (.bool true) ∧ Below w.heap.size w w' := by
  by_cases h0 : 1048576 < len0
  · have d0 : decide ((1048576 : Int) < (len0 : Int)) = true := decide_eq_true (by omega)
    clear hB0 hB1
    go_enter Try.func6, Try.ntmps6
    go_wp2_with fail
    go_ret
    exact ⟨rfl, Below.refl _ _⟩
  by_cases h1 : 1048576 < len1
  · have d0 : decide ((1048576 : Int) < (len0 : Int)) = false := decide_eq_false (by omega)
    have d1 : decide ((1048576 : Int) < (len1 : Int)) = true := decide_eq_true (by omega)
    clear hB0 hB1
    go_enter Try.func6, Try.ntmps6
    go_wp2_with fail
    go_ret
    exact ⟨rfl, Below.refl _ _⟩
  exact snapLaw_mid a0 a1 len0 cap0 len1 cap1 w hB0 hB1 (by omega) (by omega)
end Go.Proofs.Ytcckpkcjekcajaa
