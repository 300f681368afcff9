/- RecordRead: the specification's and the program's. -/
import Derived.Test.YthkbllkhomjmbaaDoorQRB
import Derived.Test.YthkbllkhomjmbaaDoorQM
import Derived.Test.YthkbllkhomjmbaaDoorQUns
import Derived.Test.YthkbllkhomjmbaaDoorBIRead
namespace Go.Proofs.YthkbllkhomjmbaaDoor
open Go.RowKit

theorem unsealT_szq (s : ByteArray) : (unsealT s).1.size ≤ 8000 := by
  unfold unsealT
  split
  · exact Nat.zero_le _
  · split
    · exact Nat.zero_le _
    · split
      · simp; omega
      · exact Nat.zero_le _

set_option maxRecDepth 100000 in
set_option maxHeartbeats 4000000 in
theorem specRecRead (s : ByteArray) (n : Int) (w : World) (hs : s.size ≤ maxLen) :
    Calls Tryd.prog 47 #[.string s, .int .i64 n] w fun e w' => e = .returned (soV (recRd s n)) ∧ Below w.heap.size w w' := by
  have husz := unsealT_szq s
  have HU := Lib.hid (fun w => specUnsealT s w hs)
  have SE := Lib.hid (fun h => @recRd_seal s h n)
  have CMP := Lib.hid (fun h => @rec_cmp s h n)
  obtain ⟨R, hR⟩ : ∃ R, R = recRd s n := ⟨_, rfl⟩
  rw [← hR] at SE CMP ⊢
  clear hR
  obtain ⟨U, hU⟩ : ∃ U, U = unsealT s := ⟨_, rfl⟩
  rw [← hU] at husz HU SE CMP
  clear hU
  obtain ⟨t, c⟩ := U
  dsimp only at husz HU SE CMP
  have Y := Lib.hid (bx_new w 46 #[.int .i64 0, .int .i64 0, .int .i64 0, .string { data := #[] }, .int .i64 0])
  have B := Lib.hid (below_alloc1 w (.cells #[.int .i64 0, .int .i64 0, .int .i64 0, .string { data := #[] }, .int .i64 0] 46))
  have z0 := size_alloc1 w (.cells #[.int .i64 0, .int .i64 0, .int .i64 0, .string { data := #[] }, .int .i64 0] 46)
  go_enter Tryd.func47, Tryd.ntmps47
  go_wp2_with fail
  generalize w.alloc (.cells #[.int .i64 0, .int .i64 0, .int .i64 0, .string { data := #[] }, .int .i64 0] 46) = W0 at *
  refine (HU.out W0).mono ?_
  clear HU
  rintro e w1 ⟨rfl, hb⟩
  have bz := below_alloc1 w1 (.cells #[.string t, .int .i64 0, .int .i64 c] 31)
  have hbb := below_more hb bz
  have s1 := size_alloc1 w1 (.cells #[.string t, .int .i64 0, .int .i64 c] 31)
  have g1 := hb.size
  have XU := Lib.hid (bx_new w1 31 #[.string t, .int .i64 0, .int .i64 c])
  replace Y := Lib.hid (Y.out.next hbb)
  replace B := Lib.hid (below_more B.out hbb)
  clear hb bz hbb
  have u0 := XU.out.t0
  have u2 := XU.out.t2
  by_cases hc : c = 0
  rotate_left
  · have hr := SE.out hc
    have dc : (c != 0) = true := by simpa using hc
    have HRR := Lib.hid hr
    clear SE CMP hc hr
    obtain ⟨y0, y1, y2, y3, y4⟩ := Y.out.s0
    obtain ⟨f0, f1, f2, f3, f4⟩ := Y.out.f5
    go_wp2_with fail
    refine bodyPost_ret (v := soV (noStp, c)) (by simp [noStp, soV, results, Tryd.results47, go_sem, y0, y1, y2, y3, y4]) rfl ⟨by rw [HRR.out], ?_⟩
    exact set5 B.out _ (Nat.le_refl _) _ _ _ _ _
  subst hc
  replace CMP := Lib.hid (CMP.out (by first | rfl | trivial))
  clear SE
  have ht : t.size ≤ maxLen := by unfold maxLen; omega
  obtain ⟨q, hq, hqs, hrt⟩ := rN_at t
  have HN1 := Lib.hid (fun w p hB => num_any t 0 false p w ht (by decide) hB)
  rw [show numS t 0 false = rN t from rfl] at HN1
  have HX := Lib.hid (fun w => specStepRead (rT t) w (by rw [hrt]; unfold maxLen at *; simp; omega))
  rw [show rdR (rT t) = rX t from rfl, hrt] at HX
  generalize rX t = X at *
  generalize rN t = N at *
  clear hrt
  obtain ⟨m, at', bad⟩ := N
  obtain ⟨⟨k, to', f, d⟩, xc⟩ := X
  dsimp only at hq CMP HN1 HX
  subst hq
  have bz := below_alloc1 (w1.alloc (.cells #[.string t, .int .i64 0, .int .i64 0] 31)) (.cells #[.string t, .int .i64 0, .bool false] 104)
  have X1 := bx_new (w1.alloc (.cells #[.string t, .int .i64 0, .int .i64 0] 31)) 104 #[.string t, .int .i64 0, .bool false]
  have s2 := size_alloc1 (w1.alloc (.cells #[.string t, .int .i64 0, .int .i64 0] 31)) (.cells #[.string t, .int .i64 0, .bool false] 104)
  rw [s1] at X1
  replace Y := Lib.hid (Y.out.next bz)
  replace B := Lib.hid (below_more B.out bz)
  replace XU := Lib.hid (XU.out.next bz)
  have XR := Lib.hid X1
  clear bz X1
  go_wp2_with fail
  clear u0 u2
  generalize (w1.alloc (.cells #[.string t, .int .i64 0, .int .i64 0] 31)).alloc (.cells #[.string t, .int .i64 0, .bool false] 104) = W2 at *
  obtain ⟨p, hp⟩ : ∃ p, p = w1.heap.size + 1 := ⟨_, rfl⟩
  have hpw : w.heap.size < p := by omega
  have hpW : p < W2.heap.size := by omega
  have hnp : w1.heap.size ≠ p := by omega
  rw [← hp] at XR ⊢
  clear hp s1 s2 g1 z0
  generalize w1.heap.size = nU at *
  refine (HN1.out W2 p XR.out).mono ?_
  rintro e w3 ⟨rfl, hx, hg⟩
  have g3 := hg.size
  have Y3 := Lib.hid (Y.out.grown hg (by simp; omega))
  have XU3 := Lib.hid (XU.out.grown hg (by simp; omega))
  have B3 := Lib.hid (below_gr B.out hg B.out.size (by omega))
  have XR3 := Lib.hid hx
  clear hx hg XR XU Y B HN1
  have k0 := XU3.out.t0
  have k1 := XR3.out.t1
  have e0 : (0 : Int) ≤ (q : Int) := by omega
  have e1 : (q : Int) ≤ (t.size : Int) := by omega
  have KP := Lib.hid (show ∀ w', Below w3.heap.size w3 w' → w'.cell? ⟨nU, 0, none⟩ = some (.string t) ∧ w'.cell? ⟨p, 1, none⟩ = some (.int .i64 (q : Int)) from fun w' hb' => ⟨(XU3.out.next hb').t0, (XR3.out.next hb').t1⟩)
  have Z0 := Lib.hid (bx_new w3 46 #[.int .i64 0, .int .i64 0, .int .i64 0, .string { data := #[] }, .int .i64 0])
  have BZ := Lib.hid (below_alloc1 w3 (.cells #[.int .i64 0, .int .i64 0, .int .i64 0, .string { data := #[] }, .int .i64 0] 46))
  have hz : w3.heap.size ≤ (w3.alloc (.cells #[.int .i64 0, .int .i64 0, .int .i64 0, .string { data := #[] }, .int .i64 0] 46)).heap.size := BZ.out.size
  unfold soV at HX
  dsimp only at HX
  go_wp2_with fail
  refine wp_region_held_drew (S := (fun w' => w'.cell? ⟨nU, 0, none⟩ = some (.string t) ∧ w'.cell? ⟨p, 1, none⟩ = some (.int .i64 (q : Int)))) (by kernel_rfl) ⟨k0, k1⟩ (fun hHeld => ?_)
  refine wpAnyH_take (i := 0) (oi := ⟨some 23, _, _, _, _, _⟩) (v := ?_) rfl (by kernel_rfl) (by kernel_rfl) (by kernel_rfl) (fun _ _ _ h => h) (Or.inl ⟨by rfl, ?_⟩) (by assumption) ?_
  rotate_left
  · intro w' hSw
    (try dsimp only at hSw)
    go_simp
    try with_reducible rfl
  (try simp only [Act.put, List.setIfInBounds_toArray, List.set_cons_zero, List.set_cons_succ])
  refine wpAnyH_take (i := 1) (oi := ⟨some 24, _, _, _, _, _⟩) (v := ?_) rfl (by kernel_rfl) (by kernel_rfl) (by kernel_rfl) (fun _ _ _ h => h) (Or.inl ⟨by rfl, ?_⟩) (by assumption) ?_
  rotate_left
  · intro w' hSw
    (try dsimp only at hSw)
    go_simp
    try with_reducible rfl
  (try simp only [Act.put, List.setIfInBounds_toArray, List.set_cons_zero, List.set_cons_succ])
  refine wpAnyH_take (i := 2) (oi := ⟨some 25, _, _, _, _, _⟩) (v := ?_) rfl (by kernel_rfl) (by kernel_rfl) (by kernel_rfl) (fun _ _ _ h => h) (Or.inl ⟨by rfl, ?_⟩) (by assumption) ?_
  rotate_left
  · intro w' hSw
    (try dsimp only at hSw)
    go_simp
    try with_reducible rfl
  (try simp only [Act.put, List.setIfInBounds_toArray, List.set_cons_zero, List.set_cons_succ])
  refine wpAnyH_take (i := 3) (oi := ⟨some 26, _, _, _, _, _⟩) (v := ?_) rfl (by kernel_rfl) (by kernel_rfl) (by kernel_rfl) (fun _ _ _ h => h) (Or.inl ⟨by rfl, ?_⟩) (by assumption) ?_
  rotate_left
  · intro w' hSw
    (try dsimp only at hSw)
    go_simp
    try with_reducible rfl
  (try simp only [Act.put, List.setIfInBounds_toArray, List.set_cons_zero, List.set_cons_succ])
  refine wpAnyH_take (i := 4) (oi := ⟨some 27, _, _, _, _, _⟩) (v := ?_) rfl (by kernel_rfl) (by kernel_rfl) (by kernel_rfl) (fun _ _ _ h => h) (Or.inl ⟨by rfl, ?_⟩) (by assumption) ?_
  rotate_left
  · intro w' hSw
    (try dsimp only at hSw)
    go_simp
    try with_reducible rfl
  (try simp only [Act.put, List.setIfInBounds_toArray, List.set_cons_zero, List.set_cons_succ])
  refine wpAnyH_take (i := 5) (oi := ⟨some 28, _, _, _, _, _⟩) (v := ?_) rfl (by kernel_rfl) (by kernel_rfl) (by kernel_rfl) (fun _ _ _ h => h) (Or.inl ⟨by rfl, ?_⟩) (by assumption) ?_
  rotate_left
  · intro w' hSw
    (try dsimp only at hSw)
    go_simp
    try with_reducible rfl
  (try simp only [Act.put, List.setIfInBounds_toArray, List.set_cons_zero, List.set_cons_succ])
  refine wpAnyH_take (i := 6) (oi := ⟨some 29, _, _, _, _, _⟩) (v := ?_) rfl (by kernel_rfl) (by kernel_rfl) (by kernel_rfl) (fun _ _ _ h => h) (Or.inl ⟨by rfl, ?_⟩) (by assumption) ?_
  rotate_left
  · intro w' hSw
    (try dsimp only at hSw)
    go_simp
    try with_reducible rfl
  (try simp only [Act.put, List.setIfInBounds_toArray, List.set_cons_zero, List.set_cons_succ])
  refine wpAnyH_ready (rs := [7, 8]) (by kernel_rfl) (by simp) ?_
  refine AllReadyH.cons (o := ⟨some 30, _, _, _, _, _⟩) rfl (fun K hK => ?_) (AllReadyH.cons (o := ⟨some 8, _, _, _, _, _⟩) rfl (fun K hK => ?_) AllReadyH.nil)
  · clear hHeld
    go_simp
    go_at_call 36
    refine (HX.out w3.drew).mono ?_
    rintro e w4 ⟨rfl, hb1⟩
    have HB1 := Lib.hid ((Below.refl w3.heap.size w3).drew.trans hb1)
    clear hb1
    refine hK.out _ _ (KP.out _ HB1.out) (fun hHeld => ?_)
    clear hK K
    (try simp only [Act.put, List.setIfInBounds_toArray, List.set_cons_zero, List.set_cons_succ])
    refine wpAnyH_ready (rs := [8]) (by kernel_rfl) (by simp) ?_
    refine AllReadyH.cons (o := ⟨some 8, _, _, _, _, _⟩) rfl (fun K hK => ?_) AllReadyH.nil
    clear hHeld
    go_simp
    refine hK.out _ _ (KP.out _ (below_more HB1.out (below_alloc1 _ _))) (fun hHeld => ?_)
    clear hK K
    (try simp only [Act.put, List.setIfInBounds_toArray, List.set_cons_zero, List.set_cons_succ])
    refine wpAnyH_ready (rs := [9]) (by kernel_rfl) (by simp) ?_
    refine AllReadyH.cons (o := ⟨none, _, _, _, _, _⟩) rfl (fun K hK => ?_) AllReadyH.nil
    clear hHeld
    go_simp
    refine hK.out _ _ (KP.out _ (below_more HB1.out (below_alloc1 _ _))) (fun hHeld => ?_)
    clear hK K
    (try simp only [Act.put, List.setIfInBounds_toArray, List.set_cons_zero, List.set_cons_succ])
    refine wpAnyH_done (by kernel_rfl) ?_ _
    clear hHeld
    
    have XX := Lib.hid (bx_new w4 46 #[.int .i64 k, .int .i64 to', .int .i64 f, .string d, .int .i64 xc])
    have HB2 := Lib.hid (below_more HB1.out (below_alloc1 w4 (.cells #[.int .i64 k, .int .i64 to', .int .i64 f, .string d, .int .i64 xc] 46)))
    clear HB1
    have Y4 := Lib.hid (Y3.out.next HB2.out)
    have XR4 := Lib.hid (XR3.out.next HB2.out)
    have B4 := Lib.hid (below_more B3.out HB2.out)
    clear KP Z0 BZ hz HB2 Y3 XR3 XU3 B3 k0 k1
    have k2 := XR4.out.t2
    obtain ⟨x0, x1, x2, x3, x4⟩ := XX.out.s0
    obtain ⟨y0, y1, y2, y3, y4⟩ := Y4.out.s0
    obtain ⟨f0, f1, f2, f3, f4⟩ := Y4.out.f5
    cases bad with
    | true =>
      have hr := CMP.out.trans (if_neg (fun h => by cases h.1))
      have HRR := Lib.hid hr
      clear hr CMP
      go_wp2_with fail
      refine bodyPost_ret (v := soV (noStp, 3)) (by simp [noStp, soV, results, Tryd.results47, go_sem, y0, y1, y2, y3, y4]) rfl ⟨by rw [HRR.out], ?_⟩
      exact set5 B4.out _ (Nat.le_refl _) _ _ _ _ _
    | false =>
    by_cases hxc : xc = 0
    rotate_left
    · have dx : (xc != 0) = true := by simpa using hxc
      have hr := CMP.out.trans (if_neg (fun h => hxc h.2.1))
      have HRR := Lib.hid hr
      clear hr CMP hxc
      go_wp2_with fail
      refine bodyPost_ret (v := soV (noStp, 3)) (by simp [noStp, soV, results, Tryd.results47, go_sem, y0, y1, y2, y3, y4]) rfl ⟨by rw [HRR.out], ?_⟩
      exact set5 B4.out _ (Nat.le_refl _) _ _ _ _ _
    subst hxc
    have MB := Lib.hid (fun w => specRecBs m k to' f d w)
    obtain ⟨M, hM⟩ : ∃ M, M = recBs m (k, to', f, d) := ⟨_, rfl⟩
    rw [← hM] at CMP MB
    clear hM y0 y1 y2 y3 y4 f0 f1 f2 f3 f4
    go_wp2_with fail
    refine (MB.out _).mono ?_
    rintro e w5 ⟨rfl, hb⟩
    obtain ⟨z0, z1, z2, z3, z4⟩ := (XX.out.next hb).s0
    obtain ⟨y0, y1, y2, y3, y4⟩ := (Y4.out.next hb).s0
    obtain ⟨f0, f1, f2, f3, f4⟩ := (Y4.out.next hb).f5
    have B5 := Lib.hid (below_more B4.out hb)
    clear hb MB x0 x1 x2 x3 x4 k2
    cases hm : (M.toList == s.toList) with
    | false =>
      have dm : (M.toList != s.toList) = true := by simp [bne, hm]
      have hr := CMP.out.trans (if_neg (fun h => by rw [hm] at h; cases h.2.2))
      have HRR := Lib.hid hr
      clear hr CMP
      go_wp2_with fail
      refine bodyPost_ret (v := soV (noStp, 3)) (by simp [noStp, soV, results, Tryd.results47, go_sem, y0, y1, y2, y3, y4]) rfl ⟨by rw [HRR.out], ?_⟩
      exact set5 B5.out _ (Nat.le_refl _) _ _ _ _ _
    | true =>
      have dm : (M.toList != s.toList) = false := by simp [bne, hm]
      have hr := CMP.out.trans (if_pos ⟨by first | rfl | trivial, by first | rfl | trivial, hm⟩)
      by_cases hmn : m = n
      · have dn : (m != n) = false := by simpa using hmn
        have HRR := Lib.hid (hr.trans (if_pos hmn))
        clear hr CMP hmn
        go_wp2_with fail
        refine bodyPost_ret (v := soV ((k, to', f, d), 0)) (by simp [soV, results, Tryd.results47, go_sem, y0, y1, y2, y3, y4]) rfl ⟨by rw [HRR.out], ?_⟩
        exact set5 B5.out _ (Nat.le_refl _) _ _ _ _ _
      · have dn : (m != n) = true := by simpa using hmn
        have HRR := Lib.hid (hr.trans (if_neg hmn))
        clear hr CMP hmn
        go_wp2_with fail
        refine bodyPost_ret (v := soV (noStp, 6)) (by simp [noStp, soV, results, Tryd.results47, go_sem, y0, y1, y2, y3, y4]) rfl ⟨by rw [HRR.out], ?_⟩
        exact set5 B5.out _ (Nat.le_refl _) _ _ _ _ _
  · clear hHeld
    go_simp
    refine hK.out _ _ (KP.out _ BZ.out.drew) (fun hHeld => ?_)
    clear hK K
    (try simp only [Act.put, List.setIfInBounds_toArray, List.set_cons_zero, List.set_cons_succ])
    refine wpAnyH_ready (rs := [7]) (by kernel_rfl) (by simp) ?_
    refine AllReadyH.cons (o := ⟨some 30, _, _, _, _, _⟩) rfl (fun K hK => ?_) AllReadyH.nil
    clear hHeld
    go_simp
    go_at_call 36
    refine (HX.out (w3.alloc (.cells #[.int .i64 0, .int .i64 0, .int .i64 0, .string { data := #[] }, .int .i64 0] 46)).drew).mono ?_
    rintro e w4 ⟨rfl, hb1⟩
    have hb2 := (Below.refl _ (w3.alloc (.cells #[.int .i64 0, .int .i64 0, .int .i64 0, .string { data := #[] }, .int .i64 0] 46))).drew.trans hb1
    have HB1 := Lib.hid (BZ.out.trans (hb2.mono hz))
    have y1 := Z0.out.next hb2
    obtain ⟨q0, q1, q2, q3, q4⟩ := y1.s0
    obtain ⟨g0, g1, g2, g3, g4⟩ := y1.f5
    have Y1 := Lib.hid y1
    clear y1 hb1 hb2
    refine hK.out _ _ (KP.out _ HB1.out) (fun hHeld => ?_)
    clear hK K
    (try simp only [Act.put, List.setIfInBounds_toArray, List.set_cons_zero, List.set_cons_succ])
    refine wpAnyH_ready (rs := [9]) (by kernel_rfl) (by simp) ?_
    refine AllReadyH.cons (o := ⟨none, _, _, _, _, _⟩) rfl (fun K hK => ?_) AllReadyH.nil
    clear hHeld
    go_simp
    refine hK.out _ _ (KP.out _ (set5 HB1.out w3.heap.size (Nat.le_refl _) (.int .i64 k) (.int .i64 to') (.int .i64 f) (.string d) (.int .i64 xc))) (fun hHeld => ?_)
    clear hK K
    (try simp only [Act.put, List.setIfInBounds_toArray, List.set_cons_zero, List.set_cons_succ])
    refine wpAnyH_done (by kernel_rfl) ?_ _
    clear hHeld
    
    have hb2 := set5 HB1.out w3.heap.size (Nat.le_refl _) (.int .i64 k) (.int .i64 to') (.int .i64 f) (.string d) (.int .i64 xc)
    have y3 : Bx _ w3.heap.size 46 #[.int .i64 k, .int .i64 to', .int .i64 f, .string d, .int .i64 xc] := ((((Y1.out.set (j := 0) (.int .i64 k)).set (j := 1) (.int .i64 to')).set (j := 2) (.int .i64 f)).set (j := 3) (.string d)).set (j := 4) (.int .i64 xc)
    have XX := Lib.hid y3
    have HB2 := Lib.hid hb2
    clear hb2 y3 Y1 q0 q1 q2 q3 q4 g0 g1 g2 g3 g4
    have Y4 := Lib.hid (Y3.out.next HB2.out)
    have XR4 := Lib.hid (XR3.out.next HB2.out)
    have B4 := Lib.hid (below_more B3.out HB2.out)
    clear KP Z0 BZ hz HB1 HB2 Y3 XR3 XU3 B3 k0 k1
    have k2 := XR4.out.t2
    obtain ⟨x0, x1, x2, x3, x4⟩ := XX.out.s0
    obtain ⟨y0, y1, y2, y3, y4⟩ := Y4.out.s0
    obtain ⟨f0, f1, f2, f3, f4⟩ := Y4.out.f5
    cases bad with
    | true =>
      have hr := CMP.out.trans (if_neg (fun h => by cases h.1))
      have HRR := Lib.hid hr
      clear hr CMP
      go_wp2_with fail
      refine bodyPost_ret (v := soV (noStp, 3)) (by simp [noStp, soV, results, Tryd.results47, go_sem, y0, y1, y2, y3, y4]) rfl ⟨by rw [HRR.out], ?_⟩
      exact set5 B4.out _ (Nat.le_refl _) _ _ _ _ _
    | false =>
    by_cases hxc : xc = 0
    rotate_left
    · have dx : (xc != 0) = true := by simpa using hxc
      have hr := CMP.out.trans (if_neg (fun h => hxc h.2.1))
      have HRR := Lib.hid hr
      clear hr CMP hxc
      go_wp2_with fail
      refine bodyPost_ret (v := soV (noStp, 3)) (by simp [noStp, soV, results, Tryd.results47, go_sem, y0, y1, y2, y3, y4]) rfl ⟨by rw [HRR.out], ?_⟩
      exact set5 B4.out _ (Nat.le_refl _) _ _ _ _ _
    subst hxc
    have MB := Lib.hid (fun w => specRecBs m k to' f d w)
    obtain ⟨M, hM⟩ : ∃ M, M = recBs m (k, to', f, d) := ⟨_, rfl⟩
    rw [← hM] at CMP MB
    clear hM y0 y1 y2 y3 y4 f0 f1 f2 f3 f4
    go_wp2_with fail
    refine (MB.out _).mono ?_
    rintro e w5 ⟨rfl, hb⟩
    obtain ⟨z0, z1, z2, z3, z4⟩ := (XX.out.next hb).s0
    obtain ⟨y0, y1, y2, y3, y4⟩ := (Y4.out.next hb).s0
    obtain ⟨f0, f1, f2, f3, f4⟩ := (Y4.out.next hb).f5
    have B5 := Lib.hid (below_more B4.out hb)
    clear hb MB x0 x1 x2 x3 x4 k2
    cases hm : (M.toList == s.toList) with
    | false =>
      have dm : (M.toList != s.toList) = true := by simp [bne, hm]
      have hr := CMP.out.trans (if_neg (fun h => by rw [hm] at h; cases h.2.2))
      have HRR := Lib.hid hr
      clear hr CMP
      go_wp2_with fail
      refine bodyPost_ret (v := soV (noStp, 3)) (by simp [noStp, soV, results, Tryd.results47, go_sem, y0, y1, y2, y3, y4]) rfl ⟨by rw [HRR.out], ?_⟩
      exact set5 B5.out _ (Nat.le_refl _) _ _ _ _ _
    | true =>
      have dm : (M.toList != s.toList) = false := by simp [bne, hm]
      have hr := CMP.out.trans (if_pos ⟨by first | rfl | trivial, by first | rfl | trivial, hm⟩)
      by_cases hmn : m = n
      · have dn : (m != n) = false := by simpa using hmn
        have HRR := Lib.hid (hr.trans (if_pos hmn))
        clear hr CMP hmn
        go_wp2_with fail
        refine bodyPost_ret (v := soV ((k, to', f, d), 0)) (by simp [soV, results, Tryd.results47, go_sem, y0, y1, y2, y3, y4]) rfl ⟨by rw [HRR.out], ?_⟩
        exact set5 B5.out _ (Nat.le_refl _) _ _ _ _ _
      · have dn : (m != n) = true := by simpa using hmn
        have HRR := Lib.hid (hr.trans (if_neg hmn))
        clear hr CMP hmn
        go_wp2_with fail
        refine bodyPost_ret (v := soV (noStp, 6)) (by simp [noStp, soV, results, Tryd.results47, go_sem, y0, y1, y2, y3, y4]) rfl ⟨by rw [HRR.out], ?_⟩
        exact set5 B5.out _ (Nat.le_refl _) _ _ _ _ _

theorem rec_impl {s : ByteArray} (h0 : (unsealT s).2 = 0) (n : Int) {q : Nat} (hq : (getR (unsealT s).1 0).2.1 = q) :
    recRd s n = if (getR (unsealT s).1 0).2.2 = 0 ∧ isT (getR (unsealT s).1 0).1 = true ∧ (rdR ((unsealT s).1.extract q (unsealT s).1.size)).2 = 0 then (if (getR (unsealT s).1 0).1 = n then ((rdR ((unsealT s).1.extract q (unsealT s).1.size)).1, 0) else (noStp, 6)) else (noStp, 3) := by
  by_cases hc : (getR (unsealT s).1 0).2.2 = 0
  · have e := rN_yes hc
    have e1 : (rN (unsealT s).1).1 = (getR (unsealT s).1 0).1 := by rw [e]
    have e2 : (rN (unsealT s).1).2.2 = false := by rw [e]
    have e3 : rX (unsealT s).1 = rdR ((unsealT s).1.extract q (unsealT s).1.size) := by
      unfold rX rT
      rw [e]
      simp only
      rw [hq, Int.toNat_natCast]
    by_cases hg : (rN (unsealT s).1).2.2 = false ∧ isT (rN (unsealT s).1).1 = true ∧ (rX (unsealT s).1).2 = 0
    · rw [recRd_good h0 hg, e1, e3]
      exact (if_pos ⟨hc, by rw [← e1]; exact hg.2.1, by rw [← e3]; exact hg.2.2⟩).symm
    · rw [recRd_odd h0 hg]
      exact (if_neg fun h => hg ⟨e2, by rw [e1]; exact h.2.1, by rw [e3]; exact h.2.2⟩).symm
  · have e := rN_no hc
    rw [recRd_odd h0 (fun h => by rw [e] at h; cases h.1)]
    exact (if_neg fun h => hc h.1).symm

set_option maxRecDepth 100000 in
set_option maxHeartbeats 4000000 in
theorem implRecRead (s : ByteArray) (n : Int) (a : Nat → Addr) (w : World) (hs : s.size ≤ maxLen) (hL : Laid w) (hE : Sent w sealG a) :
    Calls Tryd.prog 48 #[.string s, .int .i64 n] w fun e w' => e = .returned (soV (recRd s n)) ∧ Below w.heap.size w w' := by
  have HL := Lib.hid hL
  have HE := Lib.hid hE
  clear hL hE
  have husz := unsealT_szq s
  have HU := Lib.hid (fun w hE => implUnsealT s [] a w hs hE)
  have SE := Lib.hid (fun h => @recRd_seal s h n)
  have CMP := Lib.hid (fun h q hq => @rec_impl s h n q hq)
  obtain ⟨R, hR⟩ : ∃ R, R = recRd s n := ⟨_, rfl⟩
  rw [← hR] at SE CMP ⊢
  clear hR
  obtain ⟨U, hU⟩ : ∃ U, U = unsealT s := ⟨_, rfl⟩
  rw [← hU] at husz HU SE CMP
  clear hU
  obtain ⟨t, c⟩ := U
  dsimp only at husz HU SE CMP
  have Y := Lib.hid (bx_new w 46 #[.int .i64 0, .int .i64 0, .int .i64 0, .string { data := #[] }, .int .i64 0])
  have B := Lib.hid (below_alloc1 w (.cells #[.int .i64 0, .int .i64 0, .int .i64 0, .string { data := #[] }, .int .i64 0] 46))
  go_enter Tryd.func48, Tryd.ntmps48
  go_wp2_with fail
  generalize w.alloc (.cells #[.int .i64 0, .int .i64 0, .int .i64 0, .string { data := #[] }, .int .i64 0] 46) = W0 at *
  refine (HU.out W0 (HE.out.next B.out)).mono ?_
  clear HU
  rintro e w1 ⟨rfl, hb⟩
  have bz := below_alloc1 w1 (.cells #[.string t, .int .i64 0, .int .i64 c] 31)
  have hbb := below_more hb bz
  have XU := Lib.hid (bx_new w1 31 #[.string t, .int .i64 0, .int .i64 c])
  replace Y := Lib.hid (Y.out.next hbb)
  replace B := Lib.hid (below_more B.out hbb)
  clear hb bz hbb
  have u0 := XU.out.t0
  have u2 := XU.out.t2
  by_cases hc : c = 0
  rotate_left
  · have hr := SE.out hc
    have dc : (c != 0) = true := by simpa using hc
    have HRR := Lib.hid hr
    clear SE CMP hc hr
    obtain ⟨y0, y1, y2, y3, y4⟩ := Y.out.s0
    obtain ⟨f0, f1, f2, f3, f4⟩ := Y.out.f5
    go_wp2_with fail
    refine bodyPost_ret (v := soV (noStp, c)) (by simp [noStp, soV, results, Tryd.results48, go_sem, y0, y1, y2, y3, y4]) rfl ⟨by rw [HRR.out], ?_⟩
    exact set5 B.out _ (Nat.le_refl _) _ _ _ _ _
  subst hc
  obtain ⟨q, hq, hqs⟩ := getR_at0 t
  replace CMP := Lib.hid (CMP.out (by first | rfl | trivial) q hq)
  clear SE
  have ht : t.size ≤ maxLen := by unfold maxLen; omega
  have HG := Lib.hid (fun w hL => implGet_any t 0 w ht (by decide) hL)
  have HX := Lib.hid (fun w hL => implStepRead (t.extract q t.size) w (by unfold maxLen at *; simp; omega) hL)
  generalize rdR (t.extract q t.size) = X at *
  generalize getR t 0 = G at *
  obtain ⟨m, at', gc⟩ := G
  obtain ⟨⟨k, to', f, d⟩, xc⟩ := X
  unfold numV at HG
  unfold soV at HX
  dsimp only at hq CMP HG HX
  subst hq
  go_wp2_with fail
  clear u0 u2
  generalize w1.alloc (.cells #[.string t, .int .i64 0, .int .i64 0] 31) = W1 at *
  generalize w1.heap.size = nU at *
  refine (HG.out W1 (HL.out.below B.out)).mono ?_
  rintro e w2 ⟨rfl, hb⟩
  have b1 := below_alloc1 w2 (.cells #[.int .i64 m, .int .i64 (q : Int), .int .i64 gc] 26)
  have hbb := below_more hb b1
  have N1 := Lib.hid (bx_new w2 26 #[.int .i64 m, .int .i64 (q : Int), .int .i64 gc])
  replace Y := Lib.hid (Y.out.next hbb)
  replace XU := Lib.hid (XU.out.next hbb)
  replace B := Lib.hid (below_more B.out hbb)
  clear hb hbb b1 HG
  have u0 := XU.out.t0
  have q1 := N1.out.t1
  have e0 : (0 : Int) ≤ (q : Int) := by omega
  have e1 : (q : Int) ≤ (t.size : Int) := by omega
  go_wp2_with fail
  clear u0 q1
  generalize w2.alloc (.cells #[.int .i64 m, .int .i64 (q : Int), .int .i64 gc] 26) = W2 at *
  generalize w2.heap.size = nN at *
  refine (HX.out W2 (HL.out.below B.out)).mono ?_
  rintro e w3 ⟨rfl, hb⟩
  have b1 := below_alloc1 w3 (.cells #[.int .i64 k, .int .i64 to', .int .i64 f, .string d, .int .i64 xc] 46)
  have hbb := below_more hb b1
  have XX := Lib.hid (bx_new w3 46 #[.int .i64 k, .int .i64 to', .int .i64 f, .string d, .int .i64 xc])
  replace Y := Lib.hid (Y.out.next hbb)
  replace N1 := Lib.hid (N1.out.next hbb)
  replace B := Lib.hid (below_more B.out hbb)
  clear hb hbb b1 HX XU
  obtain ⟨x0, x1, x2, x3, x4⟩ := XX.out.s0
  obtain ⟨y0, y1, y2, y3, y4⟩ := Y.out.s0
  obtain ⟨f0, f1, f2, f3, f4⟩ := Y.out.f5
  have g0 := N1.out.t0
  have g2 := N1.out.t2
  by_cases hgc : gc = 0
  rotate_left
  · have dx : (gc != 0) = true := by simpa using hgc
    have HRR := Lib.hid (CMP.out.trans (if_neg (fun h => hgc h.1)))
    clear CMP hgc
    go_wp2_with fail
    refine bodyPost_ret (v := soV (noStp, 3)) (by simp [noStp, soV, results, Tryd.results48, go_sem, y0, y1, y2, y3, y4]) rfl ⟨by rw [HRR.out], ?_⟩
    exact set5 B.out _ (Nat.le_refl _) _ _ _ _ _
  subst hgc
  cases htm : isT m with
  | false =>
    have HRR := Lib.hid (CMP.out.trans (if_neg (fun h => by rw [htm] at h; cases h.2.1)))
    have HT := Lib.hid htm
    clear CMP htm
    go_wp2_with fail
    refine (isTime_any m false _ HT.out).mono ?_
    rintro e w4 ⟨rfl, rfl⟩
    go_wp2_with fail
    refine bodyPost_ret (v := soV (noStp, 3)) (by simp [noStp, soV, results, Tryd.results48, go_sem, y0, y1, y2, y3, y4]) rfl ⟨by rw [HRR.out], ?_⟩
    exact set5 B.out _ (Nat.le_refl _) _ _ _ _ _
  | true =>
  have HT := Lib.hid htm
  by_cases hxc : xc = 0
  rotate_left
  · have dx : (xc != 0) = true := by simpa using hxc
    have HRR := Lib.hid (CMP.out.trans (if_neg (fun h => hxc h.2.2)))
    clear CMP hxc htm
    go_wp2_with fail
    refine (isTime_any m true _ HT.out).mono ?_
    rintro e w4 ⟨rfl, rfl⟩
    go_wp2_with fail
    refine bodyPost_ret (v := soV (noStp, 3)) (by simp [noStp, soV, results, Tryd.results48, go_sem, y0, y1, y2, y3, y4]) rfl ⟨by rw [HRR.out], ?_⟩
    exact set5 B.out _ (Nat.le_refl _) _ _ _ _ _
  subst hxc
  have hr := CMP.out.trans (if_pos ⟨by first | rfl | trivial, htm, by first | rfl | trivial⟩)
  by_cases hmn : m = n
  · have dn : (m != n) = false := by simpa using hmn
    have HRR := Lib.hid (hr.trans (if_pos hmn))
    clear hr CMP hmn htm
    go_wp2_with fail
    refine (isTime_any m true _ HT.out).mono ?_
    rintro e w4 ⟨rfl, rfl⟩
    go_wp2_with fail
    refine bodyPost_ret (v := soV ((k, to', f, d), 0)) (by simp [soV, results, Tryd.results48, go_sem, y0, y1, y2, y3, y4]) rfl ⟨by rw [HRR.out], ?_⟩
    exact set5 B.out _ (Nat.le_refl _) _ _ _ _ _
  · have dn : (m != n) = true := by simpa using hmn
    have HRR := Lib.hid (hr.trans (if_neg hmn))
    clear hr CMP hmn htm
    go_wp2_with fail
    refine (isTime_any m true _ HT.out).mono ?_
    rintro e w4 ⟨rfl, rfl⟩
    go_wp2_with fail
    refine bodyPost_ret (v := soV (noStp, 6)) (by simp [noStp, soV, results, Tryd.results48, go_sem, y0, y1, y2, y3, y4]) rfl ⟨by rw [HRR.out], ?_⟩
    exact set5 B.out _ (Nat.le_refl _) _ _ _ _ _
end Go.Proofs.YthkbllkhomjmbaaDoor
