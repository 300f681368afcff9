/- The law FnLog. -/
import Derived.Test.YthkbllkhomjmbaaGreatDoorM1
import Derived.Test.YthkbllkhomjmbaaGreatDoorM2
namespace Go.Proofs.YthkbllkhomjmbaaGreatDoor
open Go.RowKit

theorem wpList_append_copyQ {P : Program} (w : World) {ops : Array Oper} {rest : List Oper} {o : Oper} {a : Act} {Q : Exit → Act → World → Prop} (hg : o.guard = none) (s x : Operand) (t : TypeId)
    (hop : o.op = Op.call { callee := Callee.builtin Builtin.append, args := #[s, x], argTypes := #[t, t] })
    (e : TypeId) (i : TypeInfo) (z : Value) (sz bytes : Nat) (ht : P.underlying t = some (.slice e)) (hi : P.info? e = some i) (hz : i.zero = some z) (hsize : i.size = sz) (hby : i.bytes = bytes) (hzs : z.cells.size = sz) (hsz : 0 < sz)
    (g : Addr) (hs : a.eval s = .slice (some g) 0 0) (src : Value) (hx : a.eval x = src) (n : Nat) (xs : List Value) (hr : Rd w src n sz xs) (h63 : n ≤ maxLen) (hbytes : n * bytes ≤ 140737488355328)
    (hK : ∀ ad cap w', Own w' w.heap.size (.slice ad n cap) n sz xs → Grow w' w.heap.size e sz (.slice ad n cap) n xs → Below w.heap.size w w' → wpList P ops Q rest (a.put o.dst (.slice ad n cap)) w') :
    wpList P ops Q (o :: rest) a w := by
  refine wpList_plain hg fun K hK' => ?_
  obtain ⟨v', w', hrun, h1, h3, h2⟩ := run_append_copyA (P := P) w t o.type e i z sz bytes ht hi hz hsize hby hzs hsz g src n xs hr h63 hbytes
  obtain ⟨ad, cap, rfl, _⟩ := id h1.2
  unfold Oper.wp
  simp [execOp, hop, resolve, invoke, builtin, hs, hx, hrun, Result.andThen]
  exact hK' _ _ (hK ad cap w' h1 h3 ⟨h2.os, h2.tape, h2.output, h2.size, fun k hk => h2.block k hk (by simp)⟩)
theorem szStrsFit {ls : List ByteArray} {m : Nat} (h : ∀ s ∈ ls, s.size ≤ m) (hm : m ≤ maxLen) : FitZ ls := fun s hs => Nat.le_trans (h s hs) hm
def NeCut (T : ByteArray) (y : World) (c : Value) (wx : World) : Prop := c = .bool (!T.toList.isEmpty) ∧ wx = y
def M19 (y : World) (ls : List ByteArray) (cut : Nat) (S0 : ByteArray) (bm cm : Nat) (wx : World) : Prop := ∃ q, q < S0.size ∧ Gr wx y.heap.size 9 1 (.slice (some ⟨bm, 0, none⟩) ls.length cm) ls.length (strs (ls.set cut (S0.extract 0 q))) ∧ Below y.heap.size y wx
theorem m19 {y ym : World} {ls : List ByteArray} {cut q : Nat} {S0 : ByteArray} {bm cm : Nat} (hq : q < S0.size) (g : Gr ym y.heap.size 9 1 (.slice (some ⟨bm, 0, none⟩) ls.length cm) ls.length (strs ls)) (hb : Below y.heap.size y ym) (hlo : y.heap.size ≤ bm) (h0 : 0 < ls.length) : M19 y ls cut S0 bm cm (ym.drew.setCell ⟨bm, cut, none⟩ (.string (S0.extract 0 q))) := by
  refine ⟨q, hq, ?_, hb.drew.setCell (p := ⟨bm, cut, none⟩) hlo _⟩
  rw [strs_set]
  exact (g.below (Below.refl _ _).drew (Nat.le_refl _)).set h0 cut _

set_option maxRecDepth 100000 in
set_option maxHeartbeats 8000000 in
theorem logLaw_mid (a0 a1 : Option Addr) (len0 cap0 len1 cap1 : Nat) (aE : Nat → Addr) (w : World) (hB0 : Bytes w a0 len0) (hB1 : Bytes w a1 len1) (h0 : len0 ≤ 1048576) (h1 : len1 ≤ 1048576) (hL : Laid w) (hE : Sent w sealG aE) :
    Calls Tryz.prog 4 #[.slice a0 len0 cap0, .slice a1 len1 cap1] w fun e w' => e = .returned (.bool true) ∧ Below w.heap.size w w' := by
  have B0 := Lib.hid hB0
  have B1 := Lib.hid hB1
  have HL := Lib.hid hL
  have HE := Lib.hid hE
  clear hB0 hB1 hL hE
  have d0 : decide ((1048576 : Int) < (len0 : Int)) = false := decide_eq_false (by omega)
  have d1 : decide ((1048576 : Int) < (len1 : Int)) = false := decide_eq_false (by omega)
  go_enter Tryz.func4, Tryz.ntmps4
  go_wp2_with fail
  refine (drawRecBs_any a0 len0 cap0 w B0.out h0).mono ?_
  rintro e w1 ⟨n, x, hx, rfl, hb⟩
  obtain ⟨i0, hi, hz0, hz1, hz2⟩ := info_parts Tryz.info9
  clear d0 d1
  unfold stpV
  have bz := below_alloc1 w1 (.cells #[.int .i64 x.1, .int .i64 x.2.1, .int .i64 x.2.2.1, .string x.2.2.2] 48)
  have HB := Lib.hid (below_more hb bz)
  have XX := Lib.hid (bx_new w1 48 #[.int .i64 x.1, .int .i64 x.2.1, .int .i64 x.2.2.1, .string x.2.2.2])
  have RBI := Lib.hid (fun w => implRecBs n x.1 x.2.1 x.2.2.1 x.2.2.2 w)
  have RBS := Lib.hid (fun w => specRecBs n x.1 x.2.1 x.2.2.1 x.2.2.2 w)
  obtain ⟨T, hT⟩ : ∃ T, T = recBs n (x.1, x.2.1, x.2.2.1, x.2.2.2) := ⟨_, rfl⟩
  rw [← hT] at RBI RBS
  have HT := Lib.hid (show T = recBs n x from hT)
  clear hb bz hT
  obtain ⟨q0, q1, q2, q3⟩ := XX.out.cf4.1
  go_wp2_with fail
  clear q0 q1 q2 q3
  generalize w1.alloc (.cells #[.int .i64 x.1, .int .i64 x.2.1, .int .i64 x.2.2.1, .string x.2.2.2] 48) = W1 at *
  generalize w1.heap.size = nX at *
  refine (RBI.out W1).mono ?_
  rintro e w2 ⟨rfl, hb⟩
  replace HB := Lib.hid (below_more HB.out hb)
  replace XX := Lib.hid (XX.out.next hb)
  clear hb RBI
  go_wp2_with fail
  refine (drawRecRead_any a1 len1 cap1 w2 (B1.out.below HB.out) h1).mono ?_
  rintro e w3 ⟨u, k, hu, rfl, hb⟩
  replace HB := Lib.hid (below_more HB.out hb)
  replace XX := Lib.hid (XX.out.next hb)
  clear hb
  have RRI := Lib.hid (fun w hL hE => implRecRead u k aE w (by unfold maxLen; omega) hL hE)
  have RRS := Lib.hid (fun w => specRecRead u k w (by unfold maxLen; omega))
  obtain ⟨R, hR⟩ : ∃ R, R = recRd u k := ⟨_, rfl⟩
  rw [← hR] at RRI RRS
  clear hR
  obtain ⟨⟨rk, rt, rf, rd⟩, rc⟩ := R
  unfold soV at RRI RRS
  dsimp only at RRI RRS
  go_wp2_with fail
  refine (RRI.out w3 (HL.out.below HB.out) (HE.out.next HB.out)).mono ?_
  rintro e w4 ⟨rfl, hb⟩
  have bz := below_alloc1 w4 (.cells #[.int .i64 rk, .int .i64 rt, .int .i64 rf, .string rd, .int .i64 rc] 55)
  have hbb := below_more hb bz
  have XR := Lib.hid (bx_new w4 55 #[.int .i64 rk, .int .i64 rt, .int .i64 rf, .string rd, .int .i64 rc])
  replace HB := Lib.hid (below_more HB.out hbb)
  replace XX := Lib.hid (XX.out.next hbb)
  clear hb bz hbb RRI
  go_wp2_with fail
  generalize w4.alloc (.cells #[.int .i64 rk, .int .i64 rt, .int .i64 rf, .string rd, .int .i64 rc] 55) = W4 at *
  generalize w4.heap.size = nR at *
  refine (drawScan_any a1 len1 cap1 W4 (B1.out.below HB.out) h1).mono ?_
  rintro e w5 ⟨ls, v5, hls, hsm, rfl, hg, hb⟩
  obtain ⟨al, cl, rfl⟩ := gr_form hg
  replace HB := Lib.hid (below_more HB.out hb)
  replace XX := Lib.hid (XX.out.next hb)
  replace XR := Lib.hid (XR.out.next hb)
  have GL := Lib.hid hg.own.rd
  have HZ := Lib.hid (show FitZ ls from fun s hs => by have := hsm s hs; unfold maxLen; omega)
  have HSM := Lib.hid hsm
  clear hb hg hsm
  have SC := Lib.hid (fun v w h hL hE => implScan v ls aE w h (by omega) HZ.out hL hE)
  have SS := Lib.hid (fun v w h => specScanG v ls w h (by omega) HZ.out)
  have hFl := scanR_len ls
  obtain ⟨F, hF⟩ : ∃ F, F = scanR ls := ⟨_, rfl⟩
  rw [← hF] at hFl SC SS
  have HF := Lib.hid hF
  clear hF
  obtain ⟨F, K⟩ := F
  unfold MadeC at SC
  unfold MadeG at SS
  dsimp only at hFl SC SS
  go_wp2_with fail
  refine (SC.out _ w5 GL.out (HL.out.below HB.out) (HE.out.next HB.out)).mono ?_
  rintro e w6 ⟨v6, rfl, ho, hb⟩
  obtain ⟨a6, c6, rfl, -⟩ := id ho.2
  have G6 := Lib.hid ho.rd
  replace HB := Lib.hid (below_more HB.out hb)
  replace XX := Lib.hid (XX.out.next hb)
  replace XR := Lib.hid (XR.out.next hb)
  replace GL := Lib.hid (GL.out.below hb (Nat.le_refl _))
  clear hb ho SC
  go_wp2_with fail
  refine (SS.out _ w6 GL.out).mono ?_
  rintro e w7 ⟨v7, rfl, hg, hb⟩
  obtain ⟨a7, c7, rfl⟩ := gr_form hg
  have hcap := hg.cap
  have G7 := Lib.hid hg.own.rd
  replace HB := Lib.hid (below_more HB.out hb)
  replace XX := Lib.hid (XX.out.next hb)
  replace XR := Lib.hid (XR.out.next hb)
  replace GL := Lib.hid (GL.out.below hb (Nat.le_refl _))
  replace G6 := Lib.hid (G6.out.below hb (Nat.le_refl _))
  clear hb hg SS
  -- the two boxes
  have z7 := size_alloc1 w7 (.cells #[.slice none 0 0, .int .i64 0] 59)
  have bz := below_alloc1 w7 (.cells #[.slice none 0 0, .int .i64 0] 59)
  have bz2 := below_alloc1 (w7.alloc (.cells #[.slice none 0 0, .int .i64 0] 59)) (.cells #[.slice none 0 0, .int .i64 0] 59)
  have hbb := below_more bz bz2
  have p12 := (bx_new w7 59 #[.slice none 0 0, .int .i64 0]).next bz2
  have p13 := bx_new (w7.alloc (.cells #[.slice none 0 0, .int .i64 0] 59)) 59 #[.slice none 0 0, .int .i64 0]
  rw [z7] at p13
  have P12 := Lib.hid p12
  have P13 := Lib.hid p13
  have HBB := Lib.hid hbb
  obtain ⟨⟨t0, t1⟩, f0, f1⟩ := p12.c2
  have p13' := (p13.other ⟨w7.heap.size, 0, none⟩ (.slice a6 F.length c6) (by simp)).other ⟨w7.heap.size, 1, none⟩ (.int .i64 K) (by simp)
  obtain ⟨⟨u0, u1⟩, g0, g1⟩ := p13'.c2
  clear p12 p13 p13' bz bz2 hbb z7
  go_wp2_with fail
  clear t0 t1 f0 f1 u0 u1 g0 g1 P12 P13 HBB
  have bz := below_alloc1 w7 (.cells #[.slice a6 F.length c6, .int .i64 K] 59)
  have bz2 := below_alloc1 (w7.alloc (.cells #[.slice a6 F.length c6, .int .i64 K] 59)) (.cells #[.slice a7 F.length c7, .int .i64 K] 59)
  have z7 := size_alloc1 w7 (.cells #[.slice a6 F.length c6, .int .i64 K] 59)
  have hbb := below_more bz bz2
  have XA := Lib.hid ((bx_new w7 59 #[.slice a6 F.length c6, .int .i64 K]).next bz2)
  have xb := bx_new (w7.alloc (.cells #[.slice a6 F.length c6, .int .i64 K] 59)) 59 #[.slice a7 F.length c7, .int .i64 K]
  rw [z7] at xb
  have XB := Lib.hid xb
  replace HB := Lib.hid (below_more HB.out hbb)
  replace XX := Lib.hid (XX.out.next hbb)
  replace XR := Lib.hid (XR.out.next hbb)
  replace GL := Lib.hid (GL.out.below hbb (Nat.le_refl _))
  replace G6 := Lib.hid (G6.out.below hbb (Nat.le_refl _))
  replace G7 := Lib.hid (G7.out.below hbb (Nat.le_refl _))
  clear bz bz2 z7 hbb xb
  generalize (w7.alloc (.cells #[.slice a6 F.length c6, .int .i64 K] 59)).alloc (.cells #[.slice a7 F.length c7, .int .i64 K] 59) = w9 at *
  obtain ⟨nB, hnB⟩ : ∃ nB, nB = w7.heap.size + 1 := ⟨_, rfl⟩
  rw [← hnB] at XB ⊢
  clear hnB
  generalize w7.heap.size = nA at *
  have KP := Lib.hid (show ∀ w', Below w9.heap.size w9 w' → w'.cell? ⟨nX, 0, none⟩ = some (.int .i64 x.1) ∧ w'.cell? ⟨nX, 1, none⟩ = some (.int .i64 x.2.1) ∧ w'.cell? ⟨nX, 2, none⟩ = some (.int .i64 x.2.2.1) ∧ w'.cell? ⟨nX, 3, none⟩ = some (.string x.2.2.2) ∧ w'.cell? ⟨nR, 0, none⟩ = some (.int .i64 rk) ∧ w'.cell? ⟨nR, 1, none⟩ = some (.int .i64 rt) ∧ w'.cell? ⟨nR, 2, none⟩ = some (.int .i64 rf) ∧ w'.cell? ⟨nR, 3, none⟩ = some (.string rd) ∧ w'.cell? ⟨nR, 4, none⟩ = some (.int .i64 rc) ∧ w'.cell? ⟨nA, 0, none⟩ = some (.slice a6 F.length c6) ∧ w'.cell? ⟨nA, 1, none⟩ = some (.int .i64 K) ∧ w'.cell? ⟨nB, 0, none⟩ = some (.slice a7 F.length c7) ∧ w'.cell? ⟨nB, 1, none⟩ = some (.int .i64 K) from fun w' hb' => by
    obtain ⟨x0, x1, x2, x3⟩ := (XX.out.next hb').cf4.1
    obtain ⟨r0, r1, r2, r3, r4⟩ := (XR.out.next hb').s0
    obtain ⟨⟨m0, m1⟩, -⟩ := (XA.out.next hb').c2
    obtain ⟨⟨k0, k1⟩, -⟩ := (XB.out.next hb').c2
    exact ⟨x0, x1, x2, x3, r0, r1, r2, r3, r4, m0, m1, k0, k1⟩)
  refine wp_region_held_drew (S := (fun w' => w'.cell? ⟨nX, 0, none⟩ = some (.int .i64 x.1) ∧ w'.cell? ⟨nX, 1, none⟩ = some (.int .i64 x.2.1) ∧ w'.cell? ⟨nX, 2, none⟩ = some (.int .i64 x.2.2.1) ∧ w'.cell? ⟨nX, 3, none⟩ = some (.string x.2.2.2) ∧ w'.cell? ⟨nR, 0, none⟩ = some (.int .i64 rk) ∧ w'.cell? ⟨nR, 1, none⟩ = some (.int .i64 rt) ∧ w'.cell? ⟨nR, 2, none⟩ = some (.int .i64 rf) ∧ w'.cell? ⟨nR, 3, none⟩ = some (.string rd) ∧ w'.cell? ⟨nR, 4, none⟩ = some (.int .i64 rc) ∧ w'.cell? ⟨nA, 0, none⟩ = some (.slice a6 F.length c6) ∧ w'.cell? ⟨nA, 1, none⟩ = some (.int .i64 K) ∧ w'.cell? ⟨nB, 0, none⟩ = some (.slice a7 F.length c7) ∧ w'.cell? ⟨nB, 1, none⟩ = some (.int .i64 K))) (by kernel_rfl) (KP.out _ (Below.refl _ _).drew) (fun hHeld => ?_)
  refine wpAnyH_take (i := 0) (oi := ⟨some 48, _, _, _, _, _⟩) (v := ?_) rfl (by kernel_rfl) (by kernel_rfl) (by kernel_rfl) (fun _ _ _ h => h) (Or.inl ⟨by rfl, ?_⟩) (by assumption) ?_
  rotate_left
  · intro w' hSw
    (try dsimp only at hSw)
    go_simp
    try with_reducible rfl
  (try simp only [Act.put, List.setIfInBounds_toArray, List.set_cons_zero, List.set_cons_succ])
  refine wpAnyH_take (i := 1) (oi := ⟨some 49, _, _, _, _, _⟩) (v := ?_) rfl (by kernel_rfl) (by kernel_rfl) (by kernel_rfl) (fun _ _ _ h => h) (Or.inl ⟨by rfl, ?_⟩) (by assumption) ?_
  rotate_left
  · intro w' hSw
    (try dsimp only at hSw)
    go_simp
    try with_reducible rfl
  (try simp only [Act.put, List.setIfInBounds_toArray, List.set_cons_zero, List.set_cons_succ])
  refine wpAnyH_take (i := 2) (oi := ⟨some 50, _, _, _, _, _⟩) (v := ?_) rfl (by kernel_rfl) (by kernel_rfl) (by kernel_rfl) (fun _ _ _ h => h) (Or.inl ⟨by rfl, ?_⟩) (by assumption) ?_
  rotate_left
  · intro w' hSw
    (try dsimp only at hSw)
    go_simp
    try with_reducible rfl
  (try simp only [Act.put, List.setIfInBounds_toArray, List.set_cons_zero, List.set_cons_succ])
  refine wpAnyH_ready (rs := [3]) (by kernel_rfl) (by simp) ?_
  refine AllReadyH.cons (o := ⟨some 51, _, _, _, _, _⟩) rfl (fun K hK => ?_) AllReadyH.nil
  clear hHeld
  go_simp
  go_at_call 30
  refine (RBS.out _).mono ?_
  rintro e y1 ⟨rfl, hb⟩
  have By1 := Lib.hid ((Below.refl w9.heap.size w9).drew.trans (hb.mono (Below.refl w9.heap.size w9).drew.size))
  clear hb
  refine hK.out _ _ (KP.out _ By1.out) (fun hHeld => ?_)
  clear hK K
  (try simp only [Act.put, List.setIfInBounds_toArray, List.set_cons_zero, List.set_cons_succ])
  refine wpAnyH_take (i := 4) (oi := ⟨some 52, _, _, _, _, _⟩) (v := ?_) rfl (by kernel_rfl) (by kernel_rfl) (by kernel_rfl) (fun _ _ _ h => h) (Or.inl ⟨by rfl, ?_⟩) (by assumption) ?_
  rotate_left
  · intro w' hSw
    (try dsimp only at hSw)
    go_simp
    try with_reducible rfl
  (try simp only [Act.put, List.setIfInBounds_toArray, List.set_cons_zero, List.set_cons_succ])
  refine wpAnyH_take (i := 5) (oi := ⟨some 53, _, _, _, _, _⟩) (v := ?_) rfl (by kernel_rfl) (by kernel_rfl) (by kernel_rfl) (fun _ _ _ h => h) (Or.inl ⟨by rfl, ?_⟩) (by assumption) ?_
  rotate_left
  · intro w' hSw
    (try dsimp only at hSw)
    go_simp
    try with_reducible rfl
  (try simp only [Act.put, List.setIfInBounds_toArray, List.set_cons_zero, List.set_cons_succ])
  refine wpAnyH_take (i := 6) (oi := ⟨some 54, _, _, _, _, _⟩) (v := ?_) rfl (by kernel_rfl) (by kernel_rfl) (by kernel_rfl) (fun _ _ _ h => h) (Or.inl ⟨by rfl, ?_⟩) (by assumption) ?_
  rotate_left
  · intro w' hSw
    (try dsimp only at hSw)
    go_simp
    try with_reducible rfl
  (try simp only [Act.put, List.setIfInBounds_toArray, List.set_cons_zero, List.set_cons_succ])
  refine wpAnyH_take (i := 7) (oi := ⟨some 55, _, _, _, _, _⟩) (v := ?_) rfl (by kernel_rfl) (by kernel_rfl) (by kernel_rfl) (fun _ _ _ h => h) (Or.inl ⟨by rfl, ?_⟩) (by assumption) ?_
  rotate_left
  · intro w' hSw
    (try dsimp only at hSw)
    go_simp
    try with_reducible rfl
  (try simp only [Act.put, List.setIfInBounds_toArray, List.set_cons_zero, List.set_cons_succ])
  refine wpAnyH_take (i := 8) (oi := ⟨some 56, _, _, _, _, _⟩) (v := ?_) rfl (by kernel_rfl) (by kernel_rfl) (by kernel_rfl) (fun _ _ _ h => h) (Or.inl ⟨by rfl, ?_⟩) (by assumption) ?_
  rotate_left
  · intro w' hSw
    (try dsimp only at hSw)
    go_simp
    try with_reducible rfl
  (try simp only [Act.put, List.setIfInBounds_toArray, List.set_cons_zero, List.set_cons_succ])
  refine wpAnyH_ready (rs := [9]) (by kernel_rfl) (by simp) ?_
  refine AllReadyH.cons (o := ⟨some 57, _, _, _, _, _⟩) rfl (fun K hK => ?_) AllReadyH.nil
  clear hHeld
  go_simp
  go_at_call 31
  refine (RRS.out _).mono ?_
  rintro e y2 ⟨rfl, hb⟩
  have By2 := Lib.hid (By1.out.trans (hb.mono By1.out.size))
  clear hb
  refine hK.out _ _ (KP.out _ By2.out) (fun hHeld => ?_)
  clear hK K
  (try simp only [Act.put, List.setIfInBounds_toArray, List.set_cons_zero, List.set_cons_succ])
  refine wpAnyH_take (i := 10) (oi := ⟨some 58, _, _, _, _, _⟩) (v := ?_) rfl (by kernel_rfl) (by kernel_rfl) (by kernel_rfl) (fun _ _ _ h => h) (Or.inl ⟨by rfl, ?_⟩) (by assumption) ?_
  rotate_left
  · intro w' hSw
    (try dsimp only at hSw)
    go_simp
    try with_reducible rfl
  (try simp only [Act.put, List.setIfInBounds_toArray, List.set_cons_zero, List.set_cons_succ])
  refine wpAnyH_take (i := 11) (oi := ⟨some 59, _, _, _, _, _⟩) (v := ?_) rfl (by kernel_rfl) (by kernel_rfl) (by kernel_rfl) (fun _ _ _ h => h) (Or.inl ⟨by rfl, ?_⟩) (by assumption) ?_
  rotate_left
  · intro w' hSw
    (try dsimp only at hSw)
    go_simp
    try with_reducible rfl
  (try simp only [Act.put, List.setIfInBounds_toArray, List.set_cons_zero, List.set_cons_succ])
  refine wpAnyH_take (i := 12) (oi := ⟨some 60, _, _, _, _, _⟩) (v := ?_) rfl (by kernel_rfl) (by kernel_rfl) (by kernel_rfl) (fun _ _ _ h => h) (Or.inl ⟨by rfl, ?_⟩) (by assumption) ?_
  rotate_left
  · intro w' hSw
    (try dsimp only at hSw)
    go_simp
    try with_reducible rfl
  (try simp only [Act.put, List.setIfInBounds_toArray, List.set_cons_zero, List.set_cons_succ])
  refine wpAnyH_take (i := 13) (oi := ⟨some 61, _, _, _, _, _⟩) (v := ?_) rfl (by kernel_rfl) (by kernel_rfl) (by kernel_rfl) (fun _ _ _ h => h) (Or.inl ⟨by rfl, ?_⟩) (by assumption) ?_
  rotate_left
  · intro w' hSw
    (try dsimp only at hSw)
    go_simp
    try with_reducible rfl
  (try simp only [Act.put, List.setIfInBounds_toArray, List.set_cons_zero, List.set_cons_succ])
  refine wpAnyH_take (i := 14) (oi := ⟨some 62, _, _, _, _, _⟩) (v := ?_) rfl (by kernel_rfl) (by kernel_rfl) (by kernel_rfl) (fun _ _ _ h => h) (Or.inl ⟨by rfl, ?_⟩) (by assumption) ?_
  rotate_left
  · intro w' hSw
    (try dsimp only at hSw)
    go_simp
    try with_reducible rfl
  (try simp only [Act.put, List.setIfInBounds_toArray, List.set_cons_zero, List.set_cons_succ])
  refine wpAnyH_take (i := 15) (oi := ⟨some 63, _, _, _, _, _⟩) (v := ?_) rfl (by kernel_rfl) (by kernel_rfl) (by kernel_rfl) (fun _ _ _ h => h) (Or.inl ⟨by rfl, ?_⟩) (by assumption) ?_
  rotate_left
  · intro w' hSw
    (try dsimp only at hSw)
    go_simp
    try with_reducible rfl
  (try simp only [Act.put, List.setIfInBounds_toArray, List.set_cons_zero, List.set_cons_succ])
  refine wpAnyH_take (i := 16) (oi := ⟨some 64, _, _, _, _, _⟩) (v := ?_) rfl (by kernel_rfl) (by kernel_rfl) (by kernel_rfl) (fun _ _ _ h => h) (Or.inl ⟨by rfl, ?_⟩) (by assumption) ?_
  rotate_left
  · intro w' hSw
    (try dsimp only at hSw)
    go_simp
    try with_reducible rfl
  (try simp only [Act.put, List.setIfInBounds_toArray, List.set_cons_zero, List.set_cons_succ])
  refine wpAnyH_take (i := 17) (oi := ⟨some 65, _, _, _, _, _⟩) (v := ?_) rfl (by kernel_rfl) (by kernel_rfl) (by kernel_rfl) (fun _ _ _ h => h) (Or.inl ⟨by rfl, ?_⟩) (by assumption) ?_
  rotate_left
  · intro w' hSw
    (try dsimp only at hSw)
    go_simp
    try with_reducible rfl
  (try simp only [Act.put, List.setIfInBounds_toArray, List.set_cons_zero, List.set_cons_succ])
  refine wpAnyH_take (i := 18) (oi := ⟨some 66, _, _, _, _, _⟩) (v := ?_) rfl (by kernel_rfl) (by kernel_rfl) (by kernel_rfl) (fun _ _ _ h => h) (Or.inl ⟨by rfl, ?_⟩) (by assumption) ?_
  rotate_left
  · intro w' hSw
    (try dsimp only at hSw)
    go_simp
    try with_reducible rfl
  (try simp only [Act.put, List.setIfInBounds_toArray, List.set_cons_zero, List.set_cons_succ])
  refine wpAnyH_take (i := 19) (oi := ⟨some 67, _, _, _, _, _⟩) (v := ?_) rfl (by kernel_rfl) (by kernel_rfl) (by kernel_rfl) (fun _ _ _ h => h) (Or.inl ⟨by rfl, ?_⟩) (by assumption) ?_
  rotate_left
  · intro w' hSw
    (try dsimp only at hSw)
    go_simp
    try with_reducible rfl
  (try simp only [Act.put, List.setIfInBounds_toArray, List.set_cons_zero, List.set_cons_succ])
  refine wpAnyH_take (i := 20) (oi := ⟨some 68, _, _, _, _, _⟩) (v := ?_) rfl (by kernel_rfl) (by kernel_rfl) (by kernel_rfl) (fun _ _ _ h => h) (Or.inl ⟨by rfl, ?_⟩) (by assumption) ?_
  rotate_left
  · intro w' hSw
    (try dsimp only at hSw)
    go_simp
    try with_reducible rfl
  (try simp only [Act.put, List.setIfInBounds_toArray, List.set_cons_zero, List.set_cons_succ])
  refine wpAnyH_take (i := 21) (oi := ⟨some 69, _, _, _, _, _⟩) (v := ?_) rfl (by kernel_rfl) (by kernel_rfl) (by kernel_rfl) (fun _ _ _ h => h) (Or.inl ⟨by rfl, ?_⟩) (by assumption) ?_
  rotate_left
  · intro w' hSw
    (try dsimp only at hSw)
    go_simp
    try with_reducible rfl
  (try simp only [Act.put, List.setIfInBounds_toArray, List.set_cons_zero, List.set_cons_succ])
  refine wpAnyH_take (i := 22) (oi := ⟨some 70, _, _, _, _, _⟩) (v := ?_) rfl (by kernel_rfl) (by kernel_rfl) (by kernel_rfl) (fun _ _ _ h => h) (Or.inl ⟨by rfl, ?_⟩) (by assumption) ?_
  rotate_left
  · intro w' hSw
    (try dsimp only at hSw)
    go_simp
    try with_reducible rfl
  (try simp only [Act.put, List.setIfInBounds_toArray, List.set_cons_zero, List.set_cons_succ])
  refine wpAnyH_take (i := 23) (oi := ⟨some 71, _, _, _, _, _⟩) (v := ?_) rfl (by kernel_rfl) (by kernel_rfl) (by kernel_rfl) (fun _ _ _ h => h) (Or.inl ⟨by rfl, ?_⟩) (by assumption) ?_
  rotate_left
  · intro w' hSw
    (try dsimp only at hSw)
    go_simp
    try with_reducible rfl
  (try simp only [Act.put, List.setIfInBounds_toArray, List.set_cons_zero, List.set_cons_succ])
  refine wpAnyH_ready (rs := [24]) (by kernel_rfl) (by simp) ?_
  refine AllReadyH.cons (o := ⟨some 72, _, _, _, _, _⟩) rfl (fun K hK => ?_) AllReadyH.nil
  clear hHeld
  go_simp
  go_at_call 32
  refine (lwSteps_same _ _ F _ (G6.out.below By2.out (Nat.le_refl _)) (G7.out.below By2.out (Nat.le_refl _)) (by omega)).mono ?_
  rintro e y3 ⟨rfl, hb⟩
  have By3 := Lib.hid (By2.out.trans (hb.mono By2.out.size))
  clear hb
  refine hK.out _ _ (KP.out _ By3.out) (fun hHeld => ?_)
  clear hK K
  (try simp only [Act.put, List.setIfInBounds_toArray, List.set_cons_zero, List.set_cons_succ])
  refine wpAnyH_take (i := 25) (oi := ⟨some 73, _, _, _, _, _⟩) (v := ?_) rfl (by kernel_rfl) (by kernel_rfl) (by kernel_rfl) (fun _ _ _ h => h) (Or.inl ⟨by rfl, ?_⟩) (by assumption) ?_
  rotate_left
  · intro w' hSw
    (try dsimp only at hSw)
    go_simp
    try with_reducible rfl
  (try simp only [Act.put, List.setIfInBounds_toArray, List.set_cons_zero, List.set_cons_succ])
  refine wpAnyH_take (i := 26) (oi := ⟨some 74, _, _, _, _, _⟩) (v := ?_) rfl (by kernel_rfl) (by kernel_rfl) (by kernel_rfl) (fun _ _ _ h => h) (Or.inl ⟨by rfl, ?_⟩) (by assumption) ?_
  rotate_left
  · intro w' hSw
    (try dsimp only at hSw)
    go_simp
    try with_reducible rfl
  (try simp only [Act.put, List.setIfInBounds_toArray, List.set_cons_zero, List.set_cons_succ])
  refine wpAnyH_take (i := 27) (oi := ⟨some 75, _, _, _, _, _⟩) (v := ?_) rfl (by kernel_rfl) (by kernel_rfl) (by kernel_rfl) (fun _ _ _ h => h) (Or.inl ⟨by rfl, ?_⟩) (by assumption) ?_
  rotate_left
  · intro w' hSw
    (try dsimp only at hSw)
    go_simp
    try with_reducible rfl
  (try simp only [Act.put, List.setIfInBounds_toArray, List.set_cons_zero, List.set_cons_succ])
  refine wpAnyH_take (i := 28) (oi := ⟨some 76, _, _, _, _, _⟩) (v := ?_) rfl (by kernel_rfl) (by kernel_rfl) (by kernel_rfl) (fun _ _ _ h => h) (Or.inl ⟨by rfl, ?_⟩) (by assumption) ?_
  rotate_left
  · intro w' hSw
    (try dsimp only at hSw)
    go_simp
    try with_reducible rfl
  (try simp only [Act.put, List.setIfInBounds_toArray, List.set_cons_zero, List.set_cons_succ])
  refine wpAnyH_take (i := 29) (oi := ⟨some 77, _, _, _, _, _⟩) (v := ?_) rfl (by kernel_rfl) (by kernel_rfl) (by kernel_rfl) (fun _ _ _ h => h) (Or.inl ⟨by rfl, ?_⟩) (by assumption) ?_
  rotate_left
  · intro w' hSw
    (try dsimp only at hSw)
    go_simp
    try with_reducible rfl
  (try simp only [Act.put, List.setIfInBounds_toArray, List.set_cons_zero, List.set_cons_succ])
  refine wpAnyH_take (i := 31) (oi := ⟨some 79, _, _, _, _, _⟩) (v := ?_) rfl (by kernel_rfl) (by kernel_rfl) (by kernel_rfl) (fun _ _ _ h => h) (Or.inl ⟨by rfl, ?_⟩) (by assumption) ?_
  rotate_left
  · intro w' hSw
    (try dsimp only at hSw)
    go_simp
    try with_reducible rfl
  (try simp only [Act.put, List.setIfInBounds_toArray, List.set_cons_zero, List.set_cons_succ])
  refine wpAnyH_take (i := 32) (oi := ⟨some 80, _, _, _, _, _⟩) (v := ?_) rfl (by kernel_rfl) (by kernel_rfl) (by kernel_rfl) (fun _ _ _ h => h) (Or.inl ⟨by rfl, ?_⟩) (by assumption) ?_
  rotate_left
  · intro w' hSw
    (try dsimp only at hSw)
    go_simp
    try with_reducible rfl
  (try simp only [Act.put, List.setIfInBounds_toArray, List.set_cons_zero, List.set_cons_succ])
  refine wpAnyH_ready (rs := [30]) (by kernel_rfl) (by simp) ?_
  refine AllReadyH.cons (o := ⟨some 78, _, _, _, _, _⟩) rfl (fun K hK => ?_) AllReadyH.nil
  clear hHeld
  go_simp
  go_at_call 33
  refine (implKept _ F _ (G7.out.below By3.out (Nat.le_refl _)) (by omega)).mono ?_
  rintro e y4 ⟨rfl, hb⟩
  have By4 := Lib.hid (By3.out.trans (hb.mono By3.out.size))
  clear hb
  refine hK.out _ _ (KP.out _ By4.out) (fun hHeld => ?_)
  clear hK K
  (try simp only [Act.put, List.setIfInBounds_toArray, List.set_cons_zero, List.set_cons_succ])
  refine wpAnyH_ready (rs := [33]) (by kernel_rfl) (by simp) ?_
  refine AllReadyH.cons (o := ⟨some 81, _, _, _, _, _⟩) rfl (fun K hK => ?_) AllReadyH.nil
  clear hHeld
  go_simp
  go_at_call 34
  refine (specKept _ F _ (G7.out.below By4.out (Nat.le_refl _)) (by omega)).mono ?_
  rintro e y5 ⟨rfl, hb⟩
  have By5 := Lib.hid (By4.out.trans (hb.mono By4.out.size))
  clear hb
  refine hK.out _ _ (KP.out _ By5.out) (fun hHeld => ?_)
  clear hK K
  (try simp only [Act.put, List.setIfInBounds_toArray, List.set_cons_zero, List.set_cons_succ])
  refine wpAnyH_take (i := 34) (oi := ⟨some 82, _, _, _, _, _⟩) (v := ?_) rfl (by kernel_rfl) (by kernel_rfl) (by kernel_rfl) (fun _ _ _ h => h) (Or.inl ⟨by rfl, ?_⟩) (by assumption) ?_
  rotate_left
  · intro w' hSw
    (try dsimp only at hSw)
    go_simp
    try with_reducible rfl
  (try simp only [Act.put, List.setIfInBounds_toArray, List.set_cons_zero, List.set_cons_succ])
  refine wpAnyH_take (i := 35) (oi := ⟨some 83, _, _, _, _, _⟩) (v := ?_) rfl (by kernel_rfl) (by kernel_rfl) (by kernel_rfl) (fun _ _ _ h => h) (Or.inl ⟨by rfl, ?_⟩) (by assumption) ?_
  rotate_left
  · intro w' hSw
    (try dsimp only at hSw)
    go_simp
    try with_reducible rfl
  (try simp only [Act.put, List.setIfInBounds_toArray, List.set_cons_zero, List.set_cons_succ])
  refine wpAnyH_done (by kernel_rfl) ?_ _
  clear hHeld
  
  clear By1 By2 By3 By4 RBS RRS
  replace HB := Lib.hid (below_more HB.out By5.out)
  replace XX := Lib.hid (XX.out.next By5.out)
  replace XB := Lib.hid (XB.out.next By5.out)
  replace GL := Lib.hid (GL.out.below By5.out (Nat.le_refl _))
  replace G7 := Lib.hid (G7.out.below By5.out (Nat.le_refl _))
  clear By5 KP XA XR G6
  have HX := Lib.hid XX.out
  go_upto_region 11 with (fail)
  go_cut [85] (fun c wx => NeCut T y5 c wx)
  case first =>
    go_wp2_with fail
    go_meet
    case rel => exact ⟨rfl, rfl⟩
  case rest =>
    obtain ⟨rfl, rfl⟩ := hcut
    rename_i hK11
    refine hK11 _ _ ?_
    clear hK11
    go_cut [] (fun wx => Below wc.heap.size wc wx)
    case first =>
      cases hq : T.toList.isEmpty with
      | true =>
        go_wp2_with fail
        go_meet
        case rel => exact Below.refl _ _
      | false =>
        have hne : T.toList.isEmpty = false := hq
        have hrb := rec_full HT.out hq
        have hn := ((recB_iff _ _).1 hrb).1
        have hTs : T.size ≤ 104 := by rw [HT.out]; exact recBs_size n x
        have hTp : 1 ≤ T.size := by
          rw [HT.out, recBs_yes hrb]
          unfold sealS
          rw [ByteArray.size_append, fourS_size]; omega
        have q1 : recRd T n = (x, 0) := by rw [HT.out, rec_back hrb, if_pos rfl]
        have q2 : recRd T (n + 1) = (noStp, 6) := by rw [HT.out, rec_back hrb, if_neg (by omega)]
        have PR := Lib.hid (fun q hq => rec_prefix2 HT.out hrb q hq)
        have C1 := Lib.hid (fun w hL hE => implRecRead T n aE w (by unfold maxLen; omega) hL hE)
        have C2 := Lib.hid (fun w hL hE => implRecRead T (n + 1) aE w (by unfold maxLen; omega) hL hE)
        rw [q1] at C1
        rw [q2] at C2
        unfold noStp at C2
        unfold soV at C1 C2
        dsimp only at C1 C2
        have m1 : IntKind.i64.wrap (n + 1) = n + 1 := IntWalk.i64_in _ (by omega)
        have m2 : wrap64 (n + 1) = n + 1 := IntWalk.wrap64_in _ (by omega)
        clear q1 q2 hrb hn
        go_wp2_with fail
        refine (lwAt_gen a1 len1 cap1 0 (T.size : Int) wc (B1.out.below HB.out) h1 (by omega) (by omega) (by omega)).mono ?_
        rintro e y6 ⟨v, ⟨hv0, hv1⟩, rfl, rfl⟩
        obtain ⟨j, rfl⟩ := Int.eq_ofNat_of_zero_le hv0
        have hj : j < T.size := by omega
        have hj2 : (j : Int) ≤ (T.size : Int) := by omega
        have C3 := Lib.hid (fun w hL hE => implRecRead (T.extract 0 j) n aE w (by unfold maxLen; simp; omega) hL hE)
        have HP := PR.out j hj
        obtain ⟨R3, hR3⟩ : ∃ R3, R3 = recRd (T.extract 0 j) n := ⟨_, rfl⟩
        rw [← hR3] at C3 HP
        clear hR3 PR
        obtain ⟨⟨zk, zt, zf, zd⟩, zc⟩ := R3
        unfold soV at C3
        dsimp only at C3 HP
        have dz : (zc == 0) = false := by simpa using HP
        have fl2 : ∀ w : World, (Instr.field 55 (.agg #[.int .i64 0, .int .i64 0, .int .i64 0, .string { data := #[] }, .int .i64 6]) 1).run Tryz.prog w = .ok (.int .i64 6) w := fun w => by simp [Instr.field, go_sem, asAgg]
        have fl3 : ∀ w : World, (Instr.field 55 (.agg #[.int .i64 zk, .int .i64 zt, .int .i64 zf, .string zd, .int .i64 zc]) 1).run Tryz.prog w = .ok (.int .i64 zc) w := fun w => by simp [Instr.field, go_sem, asAgg]
        have KP := Lib.hid (show ∀ w', Below wc.heap.size wc w' → w'.cell? ⟨nX, 0, none⟩ = some (.int .i64 x.1) ∧ w'.cell? ⟨nX, 1, none⟩ = some (.int .i64 x.2.1) ∧ w'.cell? ⟨nX, 2, none⟩ = some (.int .i64 x.2.2.1) ∧ w'.cell? ⟨nX, 3, none⟩ = some (.string x.2.2.2) from fun w' hb' => (XX.out.next hb').cf4.1)
        clear hv0 hv1 HP
        go_wp2_with fail
        refine wp_region_held_drew (S := (fun w' => w'.cell? ⟨nX, 0, none⟩ = some (.int .i64 x.1) ∧ w'.cell? ⟨nX, 1, none⟩ = some (.int .i64 x.2.1) ∧ w'.cell? ⟨nX, 2, none⟩ = some (.int .i64 x.2.2.1) ∧ w'.cell? ⟨nX, 3, none⟩ = some (.string x.2.2.2))) (by kernel_rfl) (KP.out _ (Below.refl _ _).drew) (fun hHeld => ?_)
        refine wpAnyH_take (i := 0) (oi := ⟨some 90, _, _, _, _, _⟩) (v := ?_) rfl (by kernel_rfl) (by kernel_rfl) (by kernel_rfl) (fun _ _ _ h => h) (Or.inl ⟨by rfl, ?_⟩) (by assumption) ?_
        rotate_left
        · intro w' hSw
          (try dsimp only at hSw)
          go_simp
          try with_reducible rfl
        (try simp only [Act.put, List.setIfInBounds_toArray, List.set_cons_zero, List.set_cons_succ])
        refine wpAnyH_take (i := 1) (oi := ⟨some 91, _, _, _, _, _⟩) (v := ?_) rfl (by kernel_rfl) (by kernel_rfl) (by kernel_rfl) (fun _ _ _ h => h) (Or.inl ⟨by rfl, ?_⟩) (by assumption) ?_
        rotate_left
        · intro w' hSw
          (try dsimp only at hSw)
          go_simp
          try with_reducible rfl
        (try simp only [Act.put, List.setIfInBounds_toArray, List.set_cons_zero, List.set_cons_succ])
        refine wpAnyH_take (i := 3) (oi := ⟨some 93, _, _, _, _, _⟩) (v := ?_) rfl (by kernel_rfl) (by kernel_rfl) (by kernel_rfl) (fun _ _ _ h => h) (Or.inl ⟨by rfl, ?_⟩) (by assumption) ?_
        rotate_left
        · intro w' hSw
          (try dsimp only at hSw)
          go_simp
          try with_reducible rfl
        (try simp only [Act.put, List.setIfInBounds_toArray, List.set_cons_zero, List.set_cons_succ])
        refine wpAnyH_take (i := 4) (oi := ⟨some 94, _, _, _, _, _⟩) (v := ?_) rfl (by kernel_rfl) (by kernel_rfl) (by kernel_rfl) (fun _ _ _ h => h) (Or.inl ⟨by rfl, ?_⟩) (by assumption) ?_
        rotate_left
        · intro w' hSw
          (try dsimp only at hSw)
          go_simp
          try with_reducible rfl
        (try simp only [Act.put, List.setIfInBounds_toArray, List.set_cons_zero, List.set_cons_succ])
        refine wpAnyH_ready (rs := [2]) (by kernel_rfl) (by simp) ?_
        refine AllReadyH.cons (o := ⟨some 92, _, _, _, _, _⟩) rfl (fun K hK => ?_) AllReadyH.nil
        clear hHeld
        go_simp
        go_at_call 26
        refine (C1.out _ (HL.out.below (below_more HB.out (Below.refl wc.heap.size wc).drew)) (HE.out.next (below_more HB.out (Below.refl wc.heap.size wc).drew))).mono ?_
        rintro e y7 ⟨rfl, hb⟩
        have By7 := Lib.hid ((Below.refl wc.heap.size wc).drew.trans (hb.mono (Below.refl wc.heap.size wc).drew.size))
        clear hb
        refine hK.out _ _ (KP.out _ By7.out) (fun hHeld => ?_)
        clear hK K
        (try simp only [Act.put, List.setIfInBounds_toArray, List.set_cons_zero, List.set_cons_succ])
        refine wpAnyH_take (i := 5) (oi := ⟨some 95, _, _, _, _, _⟩) (v := ?_) rfl (by kernel_rfl) (by kernel_rfl) (by kernel_rfl) (fun _ _ _ h => h) (Or.inl ⟨by rfl, ?_⟩) (by assumption) ?_
        rotate_left
        · intro w' hSw
          (try dsimp only at hSw)
          go_simp
          try with_reducible rfl
        (try simp only [Act.put, List.setIfInBounds_toArray, List.set_cons_zero, List.set_cons_succ])
        refine wpAnyH_take (i := 6) (oi := ⟨some 96, _, _, _, _, _⟩) (v := ?_) rfl (by kernel_rfl) (by kernel_rfl) (by kernel_rfl) (fun _ _ _ h => h) (Or.inl ⟨by rfl, ?_⟩) (by assumption) ?_
        rotate_left
        · intro w' hSw
          (try dsimp only at hSw)
          go_simp
          try with_reducible rfl
        (try simp only [Act.put, List.setIfInBounds_toArray, List.set_cons_zero, List.set_cons_succ])
        refine wpAnyH_take (i := 7) (oi := ⟨some 97, _, _, _, _, _⟩) (v := ?_) rfl (by kernel_rfl) (by kernel_rfl) (by kernel_rfl) (fun _ _ _ h => h) (Or.inl ⟨by rfl, ?_⟩) (by assumption) ?_
        rotate_left
        · intro w' hSw
          (try dsimp only at hSw)
          go_simp
          try with_reducible rfl
        (try simp only [Act.put, List.setIfInBounds_toArray, List.set_cons_zero, List.set_cons_succ])
        refine wpAnyH_take (i := 8) (oi := ⟨some 98, _, _, _, _, _⟩) (v := ?_) rfl (by kernel_rfl) (by kernel_rfl) (by kernel_rfl) (fun _ _ _ h => h) (Or.inl ⟨by rfl, ?_⟩) (by assumption) ?_
        rotate_left
        · intro w' hSw
          (try dsimp only at hSw)
          go_simp
          try with_reducible rfl
        (try simp only [Act.put, List.setIfInBounds_toArray, List.set_cons_zero, List.set_cons_succ])
        refine wpAnyH_take (i := 9) (oi := ⟨some 99, _, _, _, _, _⟩) (v := ?_) rfl (by kernel_rfl) (by kernel_rfl) (by kernel_rfl) (fun _ _ _ h => h) (Or.inl ⟨by rfl, ?_⟩) (by assumption) ?_
        rotate_left
        · intro w' hSw
          (try dsimp only at hSw)
          go_simp
          try with_reducible rfl
        (try simp only [Act.put, List.setIfInBounds_toArray, List.set_cons_zero, List.set_cons_succ])
        refine wpAnyH_ready (rs := [10]) (by kernel_rfl) (by simp) ?_
        refine AllReadyH.cons (o := ⟨some 100, _, _, _, _, _⟩) rfl (fun K hK => ?_) AllReadyH.nil
        clear hHeld
        go_simp
        go_at_call 26
        refine (C2.out _ (HL.out.below (below_more HB.out By7.out)) (HE.out.next (below_more HB.out By7.out))).mono ?_
        rintro e y8 ⟨rfl, hb⟩
        have By8 := Lib.hid (By7.out.trans (hb.mono By7.out.size))
        clear hb
        refine hK.out _ _ (KP.out _ By8.out) (fun hHeld => ?_)
        clear hK K
        (try simp only [Act.put, List.setIfInBounds_toArray, List.set_cons_zero, List.set_cons_succ])
        refine wpAnyH_take (i := 11) (oi := ⟨some 101, _, _, _, _, _⟩) (v := ?_) rfl (by kernel_rfl) (by kernel_rfl) (by kernel_rfl) (fun _ _ _ h => h) (Or.inl ⟨by rfl, ?_⟩) (by assumption) ?_
        rotate_left
        · intro w' hSw
          (try dsimp only at hSw)
          go_simp
          try with_reducible rfl
        (try simp only [Act.put, List.setIfInBounds_toArray, List.set_cons_zero, List.set_cons_succ])
        refine wpAnyH_take (i := 12) (oi := ⟨some 102, _, _, _, _, _⟩) (v := ?_) rfl (by kernel_rfl) (by kernel_rfl) (by kernel_rfl) (fun _ _ _ h => h) (Or.inl ⟨by rfl, ?_⟩) (by assumption) ?_
        rotate_left
        · intro w' hSw
          (try dsimp only at hSw)
          go_simp
          try with_reducible rfl
        (try simp only [Act.put, List.setIfInBounds_toArray, List.set_cons_zero, List.set_cons_succ])
        refine wpAnyH_take (i := 13) (oi := ⟨some 103, _, _, _, _, _⟩) (v := ?_) rfl (by kernel_rfl) (by kernel_rfl) (by kernel_rfl) (fun _ _ _ h => h) (Or.inl ⟨by rfl, ?_⟩) (by assumption) ?_
        rotate_left
        · intro w' hSw
          (try dsimp only at hSw)
          go_simp
          try with_reducible rfl
        (try simp only [Act.put, List.setIfInBounds_toArray, List.set_cons_zero, List.set_cons_succ])
        refine wpAnyH_take (i := 14) (oi := ⟨some 104, _, _, _, _, _⟩) (v := ?_) rfl (by kernel_rfl) (by kernel_rfl) (by kernel_rfl) (fun _ _ _ h => h) (Or.inl ⟨by rfl, ?_⟩) (by assumption) ?_
        rotate_left
        · intro w' hSw
          (try dsimp only at hSw)
          go_simp
          try with_reducible rfl
        (try simp only [Act.put, List.setIfInBounds_toArray, List.set_cons_zero, List.set_cons_succ])
        refine wpAnyH_take (i := 15) (oi := ⟨some 105, _, _, _, _, _⟩) (v := ?_) rfl (by kernel_rfl) (by kernel_rfl) (by kernel_rfl) (fun _ _ _ h => h) (Or.inl ⟨by rfl, ?_⟩) (by assumption) ?_
        rotate_left
        · intro w' hSw
          (try dsimp only at hSw)
          go_simp
          try with_reducible rfl
        (try simp only [Act.put, List.setIfInBounds_toArray, List.set_cons_zero, List.set_cons_succ])
        refine wpAnyH_take (i := 16) (oi := ⟨some 106, _, _, _, _, _⟩) (v := ?_) rfl (by kernel_rfl) (by kernel_rfl) (by kernel_rfl) (fun _ _ _ h => h) (Or.inl ⟨by rfl, ?_⟩) (by assumption) ?_
        rotate_left
        · intro w' hSw
          (try dsimp only at hSw)
          go_simp
          try with_reducible rfl
        (try simp only [Act.put, List.setIfInBounds_toArray, List.set_cons_zero, List.set_cons_succ])
        refine wpAnyH_take (i := 17) (oi := ⟨some 107, _, _, _, _, _⟩) (v := ?_) rfl (by kernel_rfl) (by kernel_rfl) (by kernel_rfl) (fun _ _ _ h => h) (Or.inl ⟨by rfl, ?_⟩) (by assumption) ?_
        rotate_left
        · intro w' hSw
          (try dsimp only at hSw)
          go_simp
          try with_reducible rfl
        (try simp only [Act.put, List.setIfInBounds_toArray, List.set_cons_zero, List.set_cons_succ])
        refine wpAnyH_take (i := 18) (oi := ⟨some 108, _, _, _, _, _⟩) (v := ?_) rfl (by kernel_rfl) (by kernel_rfl) (by kernel_rfl) (fun _ _ _ h => h) (Or.inl ⟨by rfl, ?_⟩) (by assumption) ?_
        rotate_left
        · intro w' hSw
          (try dsimp only at hSw)
          go_simp
          try with_reducible rfl
        (try simp only [Act.put, List.setIfInBounds_toArray, List.set_cons_zero, List.set_cons_succ])
        refine wpAnyH_ready (rs := [19]) (by kernel_rfl) (by simp) ?_
        refine AllReadyH.cons (o := ⟨some 109, _, _, _, _, _⟩) rfl (fun K hK => ?_) AllReadyH.nil
        clear hHeld
        go_simp
        go_at_call 26
        refine (C3.out _ (HL.out.below (below_more HB.out By8.out)) (HE.out.next (below_more HB.out By8.out))).mono ?_
        rintro e y9 ⟨rfl, hb⟩
        have By9 := Lib.hid (By8.out.trans (hb.mono By8.out.size))
        clear hb
        refine hK.out _ _ (KP.out _ By9.out) (fun hHeld => ?_)
        clear hK K
        (try simp only [Act.put, List.setIfInBounds_toArray, List.set_cons_zero, List.set_cons_succ])
        refine wpAnyH_take (i := 20) (oi := ⟨some 110, _, _, _, _, _⟩) (v := ?_) rfl (by kernel_rfl) (by kernel_rfl) (by kernel_rfl) (fun _ _ _ h => h) (Or.inl ⟨by rfl, ?_⟩) (by assumption) ?_
        rotate_left
        · intro w' hSw
          (try dsimp only at hSw)
          go_simp
          try with_reducible rfl
        (try simp only [Act.put, List.setIfInBounds_toArray, List.set_cons_zero, List.set_cons_succ])
        refine wpAnyH_take (i := 21) (oi := ⟨some 111, _, _, _, _, _⟩) (v := ?_) rfl (by kernel_rfl) (by kernel_rfl) (by kernel_rfl) (fun _ _ _ h => h) (Or.inl ⟨by rfl, ?_⟩) (by assumption) ?_
        rotate_left
        · intro w' hSw
          (try dsimp only at hSw)
          go_simp
          try with_reducible rfl
        (try simp only [Act.put, List.setIfInBounds_toArray, List.set_cons_zero, List.set_cons_succ])
        refine wpAnyH_take (i := 22) (oi := ⟨some 112, _, _, _, _, _⟩) (v := ?_) rfl (by kernel_rfl) (by kernel_rfl) (by kernel_rfl) (fun _ _ _ h => h) (Or.inl ⟨by rfl, ?_⟩) (by assumption) ?_
        rotate_left
        · intro w' hSw
          (try dsimp only at hSw)
          go_simp
          try with_reducible rfl
        (try simp only [Act.put, List.setIfInBounds_toArray, List.set_cons_zero, List.set_cons_succ])
        refine wpAnyH_done (by kernel_rfl) ?_ _
        clear hHeld

        go_wp2_with fail
        go_meet
        case rel => exact By9.out
    case rest =>
      clear XX HX
      have HC := Lib.hid hcut
      clear hcut
      replace HB := Lib.hid (below_more HB.out HC.out)
      replace XB := Lib.hid (XB.out.next HC.out)
      replace GL := Lib.hid (GL.out.below HC.out (Nat.le_refl _))
      replace G7 := Lib.hid (G7.out.below HC.out (Nat.le_refl _))
      clear HC HT
      obtain ⟨⟨p0, p1⟩, -⟩ := XB.out.c2
      have hsm2 := HSM.out
      have XB0 := XB.out.lt
      by_cases hF0 : F.length = 0
      · have e0 : ((F.length : Int) == 0) = true := by simp [hF0]
        clear hF0
        go_wp2_with fail
        go_ret
        exact ⟨rfl, HB.out⟩
      have e0 : ((F.length : Int) == 0) = false := beq_eq_false_iff_ne.2 (by omega)
      obtain ⟨hl24, hFF⟩ := scanR_some HF.out (by omega)
      have d24 : decide ((24 : Int) < (ls.length : Int)) = false := decide_eq_false (by omega)
      have LOGP := Lib.hid (fun k hc hk => log_pos2 hFF k hc hk)
      have LOGT := Lib.hid (fun k q hc hk hq => scanR_torn2 hl24 hFF k q hc hk hq)
      have hFls := scanF_lenF hFF
      clear hFF
      have hFpos : 0 < F.length := by omega
      obtain ⟨b7, off7, hp7, hb7, hc7⟩ := G7.out.get hFpos
      subst hp7
      clear hb7 hc7 hF0
      go_wp2_with fail
      refine (lwAt_gen a1 len1 cap1 1 (F.length : Int) wc (B1.out.below HB.out) h1 (by omega) (by omega) (by omega)).mono ?_
      rintro e yc ⟨v, ⟨hv0, hv1⟩, rfl, rfl⟩
      obtain ⟨cut, rfl⟩ := Int.eq_ofNat_of_zero_le hv0
      have hcF : cut < F.length := by omega
      have hcl : cut < ls.length := by omega
      clear hv0 hv1 p0 p1 e0 d24
      have ba := below_alloc1 wc (.cells #[] 9)
      go_wp2_with ((with_reducible show wpList _ _ _ (⟨some 129, _, _, _, _, _⟩ :: _) _ _); refine wpList_append_copyQ _ rfl (.tmp 127) (.tmp 128) 23 rfl 9 i0 _ 1 16 Tryz.underlying23 hi hz0 hz1 hz2 rfl (by decide) _ rfl (.slice al ls.length cl) rfl ls.length (strs ls) (GL.out.below (B := wc.heap.size) ba (Nat.le_refl _)) (by unfold maxLen; omega) (by omega) ?_)
      intro am cm ym hom hgw hbm
      have gm := Gr.of_grow hgw (by rw [strs_length]; omega)
      have hbb := ba.trans (hbm.mono (show wc.heap.size ≤ _ by simp))
      obtain ⟨bm, offm, hpm, hlm, hbm2, hcm, hfm⟩ := gm.own.get (by omega)
      subst hpm
      obtain rfl := gm.at0 (by omega)
      have HBM := Lib.hid (below_more HB.out hbb)
      have GM := Lib.hid (gm.lower (lo' := wc.heap.size) (by simp))
      have HBB := Lib.hid hbb
      have hlo : wc.heap.size ≤ bm := by omega
      have v0 : ym.cell? ⟨bm, cut, none⟩ = some (.string ls[cut]) := by
        have := hcm cut (by omega)
        rw [strs_at ls cut hcl] at this
        simpa using this
      have v1 : ym.cell? ⟨bm, 0 + cut, none⟩ = some (.string ls[cut]) := by rw [Nat.zero_add]; exact v0
      have hf0 : ym.frozen? ⟨bm, cut, none⟩ = false := by have := hfm cut (by omega); simpa using this
      have hf1 : ym.frozen? ⟨bm, 0 + cut, none⟩ = false := by rw [Nat.zero_add]; exact hf0
      have hsp := LOGP.out cut hcF hcl
      have hss := hsm2 _ (List.getElem_mem hcl)
      have HLT := Lib.hid (fun q hq => LOGT.out cut q hcF hcl hq)
      have c0 : (0 : Int) ≤ (cut : Int) := by omega
      have c1 : (cut : Int) < (ls.length : Int) := by omega
      clear hom hgw hbm gm hbb ba hcm hfm hlm LOGP LOGT
      obtain ⟨S0, hS0⟩ : ∃ S0, S0 = ls[cut] := ⟨_, rfl⟩
      rw [← hS0] at v0 v1 hsp hss HLT
      clear hS0
      go_wp2_with fail
      go_cut [] (fun wx => M19 wc ls cut S0 bm cm wx)
      case first =>
        refine wp_region_held_drew (S := (fun _ => True)) (by kernel_rfl) trivial (fun hHeld => ?_)
        refine wpAnyH_take (i := 0) (oi := ⟨some 130, _, _, _, _, _⟩) (v := ?_) rfl (by kernel_rfl) (by kernel_rfl) (by kernel_rfl) (fun _ _ _ h => h) (Or.inl ⟨by rfl, ?_⟩) (by assumption) ?_
        rotate_left
        · intro w' hSw
          (try dsimp only at hSw)
          go_simp
          try with_reducible rfl
        (try simp only [Act.put, List.setIfInBounds_toArray, List.set_cons_zero, List.set_cons_succ])
        refine wpAnyH_take (i := 1) (oi := ⟨some 131, _, _, _, _, _⟩) (v := ?_) rfl (by kernel_rfl) (by kernel_rfl) (by kernel_rfl) (fun _ _ _ h => h) (Or.inl ⟨by rfl, ?_⟩) (by assumption) ?_
        rotate_left
        · intro w' hSw
          (try dsimp only at hSw)
          go_simp
          try with_reducible rfl
        (try simp only [Act.put, List.setIfInBounds_toArray, List.set_cons_zero, List.set_cons_succ])
        refine wpAnyH_take (i := 2) (oi := ⟨some 132, _, _, _, _, _⟩) (v := ?_) rfl (by kernel_rfl) (by kernel_rfl) (by kernel_rfl) (fun _ _ _ h => h) (Or.inl ⟨by rfl, ?_⟩) (by assumption) ?_
        rotate_left
        · intro w' hSw
          (try dsimp only at hSw)
          go_simp
          try with_reducible rfl
        (try simp only [Act.put, List.setIfInBounds_toArray, List.set_cons_zero, List.set_cons_succ])
        refine wpAnyH_take (i := 3) (oi := ⟨some 133, _, _, _, _, _⟩) (v := ?_) rfl (by kernel_rfl) (by kernel_rfl) (by kernel_rfl) (fun _ _ _ h => h) (Or.inl ⟨by rfl, ?_⟩) (by assumption) ?_
        rotate_left
        · intro w' hSw
          (try dsimp only at hSw)
          go_simp
          try with_reducible rfl
        (try simp only [Act.put, List.setIfInBounds_toArray, List.set_cons_zero, List.set_cons_succ])
        refine wpAnyH_take (i := 4) (oi := ⟨some 134, _, _, _, _, _⟩) (v := ?_) rfl (by kernel_rfl) (by kernel_rfl) (by kernel_rfl) (fun _ _ _ h => h) (Or.inl ⟨by rfl, ?_⟩) (by assumption) ?_
        rotate_left
        · intro w' hSw
          (try dsimp only at hSw)
          go_simp
          try with_reducible rfl
        (try simp only [Act.put, List.setIfInBounds_toArray, List.set_cons_zero, List.set_cons_succ])
        refine wpAnyH_take (i := 6) (oi := ⟨some 136, _, _, _, _, _⟩) (v := ?_) rfl (by kernel_rfl) (by kernel_rfl) (by kernel_rfl) (fun _ _ _ h => h) (Or.inl ⟨by rfl, ?_⟩) (by assumption) ?_
        rotate_left
        · intro w' hSw
          (try dsimp only at hSw)
          go_simp
          try with_reducible rfl
        (try simp only [Act.put, List.setIfInBounds_toArray, List.set_cons_zero, List.set_cons_succ])
        refine wpAnyH_take (i := 7) (oi := ⟨some 137, _, _, _, _, _⟩) (v := ?_) rfl (by kernel_rfl) (by kernel_rfl) (by kernel_rfl) (fun _ _ _ h => h) (Or.inl ⟨by rfl, ?_⟩) (by assumption) ?_
        rotate_left
        · intro w' hSw
          (try dsimp only at hSw)
          go_simp
          try with_reducible rfl
        (try simp only [Act.put, List.setIfInBounds_toArray, List.set_cons_zero, List.set_cons_succ])
        refine wpAnyH_take (i := 8) (oi := ⟨some 138, _, _, _, _, _⟩) (v := ?_) rfl (by kernel_rfl) (by kernel_rfl) (by kernel_rfl) (fun _ _ _ h => h) (Or.inl ⟨by rfl, ?_⟩) (by assumption) ?_
        rotate_left
        · intro w' hSw
          (try dsimp only at hSw)
          go_simp
          try with_reducible rfl
        (try simp only [Act.put, List.setIfInBounds_toArray, List.set_cons_zero, List.set_cons_succ])
        refine wpAnyH_take (i := 9) (oi := ⟨some 139, _, _, _, _, _⟩) (v := ?_) rfl (by kernel_rfl) (by kernel_rfl) (by kernel_rfl) (fun _ _ _ h => h) (Or.inl ⟨by rfl, ?_⟩) (by assumption) ?_
        rotate_left
        · intro w' hSw
          (try dsimp only at hSw)
          go_simp
          try with_reducible rfl
        (try simp only [Act.put, List.setIfInBounds_toArray, List.set_cons_zero, List.set_cons_succ])
        refine wpAnyH_ready (rs := [5, 10]) (by kernel_rfl) (by simp) ?_
        refine AllReadyH.cons (o := ⟨some 135, _, _, _, _, _⟩) rfl (fun K hK => ?_) (AllReadyH.cons (o := ⟨some 140, _, _, _, _, _⟩) rfl (fun K hK => ?_) AllReadyH.nil)
        · clear hHeld
          go_simp
          refine hK.out _ _ trivial (fun hHeld => ?_)
          clear hK K
          (try simp only [Act.put, List.setIfInBounds_toArray, List.set_cons_zero, List.set_cons_succ])
          refine wpAnyH_ready (rs := [10]) (by kernel_rfl) (by simp) ?_
          refine AllReadyH.cons (o := ⟨some 140, _, _, _, _, _⟩) rfl (fun K hK => ?_) AllReadyH.nil
          clear hHeld
          go_simp
          refine hK.out _ _ trivial (fun hHeld => ?_)
          clear hK K
          (try simp only [Act.put, List.setIfInBounds_toArray, List.set_cons_zero, List.set_cons_succ])
          refine wpAnyH_take (i := 11) (oi := ⟨some 141, _, _, _, _, _⟩) (v := ?_) rfl (by kernel_rfl) (by kernel_rfl) (by kernel_rfl) (fun _ _ _ h => h) (Or.inl ⟨by rfl, ?_⟩) (by assumption) ?_
          rotate_left
          · intro w' hSw
            (try dsimp only at hSw)
            go_simp
            try with_reducible rfl
          (try simp only [Act.put, List.setIfInBounds_toArray, List.set_cons_zero, List.set_cons_succ])
          refine wpAnyH_ready (rs := [12]) (by kernel_rfl) (by simp) ?_
          refine AllReadyH.cons (o := ⟨some 142, _, _, _, _, _⟩) rfl (fun K hK => ?_) AllReadyH.nil
          clear hHeld
          go_simp
          go_at_call 20
          refine (lwAt_gen a1 len1 cap1 2 (S0.size : Int) _ (B1.out.below HBM.out.drew) h1 (by omega) (by omega) (by omega)).mono ?_
          rintro e yd ⟨v, ⟨hv0, hv1⟩, rfl, rfl⟩
          obtain ⟨q, rfl⟩ := Int.eq_ofNat_of_zero_le hv0
          have hq : q < S0.size := by omega
          have hq2 : (q : Int) ≤ (S0.size : Int) := by omega
          clear hv0 hv1
          refine hK.out _ _ trivial (fun hHeld => ?_)
          clear hK K
          (try simp only [Act.put, List.setIfInBounds_toArray, List.set_cons_zero, List.set_cons_succ])
          refine wpAnyH_take (i := 13) (oi := ⟨some 143, _, _, _, _, _⟩) (v := ?_) rfl (by kernel_rfl) (by kernel_rfl) (by kernel_rfl) (fun _ _ _ h => h) (Or.inl ⟨by rfl, ?_⟩) (by assumption) ?_
          rotate_left
          · intro w' hSw
            (try dsimp only at hSw)
            go_simp
            try with_reducible rfl
          (try simp only [Act.put, List.setIfInBounds_toArray, List.set_cons_zero, List.set_cons_succ])
          refine wpAnyH_take (i := 14) (oi := ⟨some 144, _, _, _, _, _⟩) (v := ?_) rfl (by kernel_rfl) (by kernel_rfl) (by kernel_rfl) (fun _ _ _ h => h) (Or.inl ⟨by rfl, ?_⟩) (by assumption) ?_
          rotate_left
          · intro w' hSw
            (try dsimp only at hSw)
            go_simp
            try with_reducible rfl
          (try simp only [Act.put, List.setIfInBounds_toArray, List.set_cons_zero, List.set_cons_succ])
          refine wpAnyH_ready (rs := [15]) (by kernel_rfl) (by simp) ?_
          refine AllReadyH.cons (o := ⟨none, _, _, _, _, _⟩) rfl (fun K hK => ?_) AllReadyH.nil
          clear hHeld
          go_simp
          refine hK.out _ _ trivial (fun hHeld => ?_)
          clear hK K
          (try simp only [Act.put, List.setIfInBounds_toArray, List.set_cons_zero, List.set_cons_succ])
          refine wpAnyH_done (by kernel_rfl) ?_ _
          clear hHeld
          
          go_wp2_with fail
          go_meet
          case rel => exact m19 hq GM.out HBB.out hlo (by omega)
        · clear hHeld
          go_simp
          refine hK.out _ _ trivial (fun hHeld => ?_)
          clear hK K
          (try simp only [Act.put, List.setIfInBounds_toArray, List.set_cons_zero, List.set_cons_succ])
          refine wpAnyH_take (i := 11) (oi := ⟨some 141, _, _, _, _, _⟩) (v := ?_) rfl (by kernel_rfl) (by kernel_rfl) (by kernel_rfl) (fun _ _ _ h => h) (Or.inl ⟨by rfl, ?_⟩) (by assumption) ?_
          rotate_left
          · intro w' hSw
            (try dsimp only at hSw)
            go_simp
            try with_reducible rfl
          (try simp only [Act.put, List.setIfInBounds_toArray, List.set_cons_zero, List.set_cons_succ])
          refine wpAnyH_ready (rs := [5, 12]) (by kernel_rfl) (by simp) ?_
          refine AllReadyH.cons (o := ⟨some 135, _, _, _, _, _⟩) rfl (fun K hK => ?_) (AllReadyH.cons (o := ⟨some 142, _, _, _, _, _⟩) rfl (fun K hK => ?_) AllReadyH.nil)
          · clear hHeld
            go_simp
            refine hK.out _ _ trivial (fun hHeld => ?_)
            clear hK K
            (try simp only [Act.put, List.setIfInBounds_toArray, List.set_cons_zero, List.set_cons_succ])
            refine wpAnyH_ready (rs := [12]) (by kernel_rfl) (by simp) ?_
            refine AllReadyH.cons (o := ⟨some 142, _, _, _, _, _⟩) rfl (fun K hK => ?_) AllReadyH.nil
            clear hHeld
            go_simp
            go_at_call 20
            refine (lwAt_gen a1 len1 cap1 2 (S0.size : Int) _ (B1.out.below HBM.out.drew) h1 (by omega) (by omega) (by omega)).mono ?_
            rintro e yd ⟨v, ⟨hv0, hv1⟩, rfl, rfl⟩
            obtain ⟨q, rfl⟩ := Int.eq_ofNat_of_zero_le hv0
            have hq : q < S0.size := by omega
            have hq2 : (q : Int) ≤ (S0.size : Int) := by omega
            clear hv0 hv1
            refine hK.out _ _ trivial (fun hHeld => ?_)
            clear hK K
            (try simp only [Act.put, List.setIfInBounds_toArray, List.set_cons_zero, List.set_cons_succ])
            refine wpAnyH_take (i := 13) (oi := ⟨some 143, _, _, _, _, _⟩) (v := ?_) rfl (by kernel_rfl) (by kernel_rfl) (by kernel_rfl) (fun _ _ _ h => h) (Or.inl ⟨by rfl, ?_⟩) (by assumption) ?_
            rotate_left
            · intro w' hSw
              (try dsimp only at hSw)
              go_simp
              try with_reducible rfl
            (try simp only [Act.put, List.setIfInBounds_toArray, List.set_cons_zero, List.set_cons_succ])
            refine wpAnyH_take (i := 14) (oi := ⟨some 144, _, _, _, _, _⟩) (v := ?_) rfl (by kernel_rfl) (by kernel_rfl) (by kernel_rfl) (fun _ _ _ h => h) (Or.inl ⟨by rfl, ?_⟩) (by assumption) ?_
            rotate_left
            · intro w' hSw
              (try dsimp only at hSw)
              go_simp
              try with_reducible rfl
            (try simp only [Act.put, List.setIfInBounds_toArray, List.set_cons_zero, List.set_cons_succ])
            refine wpAnyH_ready (rs := [15]) (by kernel_rfl) (by simp) ?_
            refine AllReadyH.cons (o := ⟨none, _, _, _, _, _⟩) rfl (fun K hK => ?_) AllReadyH.nil
            clear hHeld
            go_simp
            refine hK.out _ _ trivial (fun hHeld => ?_)
            clear hK K
            (try simp only [Act.put, List.setIfInBounds_toArray, List.set_cons_zero, List.set_cons_succ])
            refine wpAnyH_done (by kernel_rfl) ?_ _
            clear hHeld
            
            go_wp2_with fail
            go_meet
            case rel => exact m19 hq GM.out HBB.out hlo (by omega)
          · clear hHeld
            go_simp
            go_at_call 20
            refine (lwAt_gen a1 len1 cap1 2 (S0.size : Int) _ (B1.out.below HBM.out.drew) h1 (by omega) (by omega) (by omega)).mono ?_
            rintro e yd ⟨v, ⟨hv0, hv1⟩, rfl, rfl⟩
            obtain ⟨q, rfl⟩ := Int.eq_ofNat_of_zero_le hv0
            have hq : q < S0.size := by omega
            have hq2 : (q : Int) ≤ (S0.size : Int) := by omega
            clear hv0 hv1
            refine hK.out _ _ trivial (fun hHeld => ?_)
            clear hK K
            (try simp only [Act.put, List.setIfInBounds_toArray, List.set_cons_zero, List.set_cons_succ])
            refine wpAnyH_ready (rs := [5]) (by kernel_rfl) (by simp) ?_
            refine AllReadyH.cons (o := ⟨some 135, _, _, _, _, _⟩) rfl (fun K hK => ?_) AllReadyH.nil
            clear hHeld
            go_simp
            refine hK.out _ _ trivial (fun hHeld => ?_)
            clear hK K
            (try simp only [Act.put, List.setIfInBounds_toArray, List.set_cons_zero, List.set_cons_succ])
            refine wpAnyH_take (i := 13) (oi := ⟨some 143, _, _, _, _, _⟩) (v := ?_) rfl (by kernel_rfl) (by kernel_rfl) (by kernel_rfl) (fun _ _ _ h => h) (Or.inl ⟨by rfl, ?_⟩) (by assumption) ?_
            rotate_left
            · intro w' hSw
              (try dsimp only at hSw)
              go_simp
              try with_reducible rfl
            (try simp only [Act.put, List.setIfInBounds_toArray, List.set_cons_zero, List.set_cons_succ])
            refine wpAnyH_take (i := 14) (oi := ⟨some 144, _, _, _, _, _⟩) (v := ?_) rfl (by kernel_rfl) (by kernel_rfl) (by kernel_rfl) (fun _ _ _ h => h) (Or.inl ⟨by rfl, ?_⟩) (by assumption) ?_
            rotate_left
            · intro w' hSw
              (try dsimp only at hSw)
              go_simp
              try with_reducible rfl
            (try simp only [Act.put, List.setIfInBounds_toArray, List.set_cons_zero, List.set_cons_succ])
            refine wpAnyH_ready (rs := [15]) (by kernel_rfl) (by simp) ?_
            refine AllReadyH.cons (o := ⟨none, _, _, _, _, _⟩) rfl (fun K hK => ?_) AllReadyH.nil
            clear hHeld
            go_simp
            refine hK.out _ _ trivial (fun hHeld => ?_)
            clear hK K
            (try simp only [Act.put, List.setIfInBounds_toArray, List.set_cons_zero, List.set_cons_succ])
            refine wpAnyH_done (by kernel_rfl) ?_ _
            clear hHeld
            
            go_wp2_with fail
            go_meet
            case rel => exact m19 hq GM.out HBB.out hlo (by omega)
      case rest =>
        obtain ⟨q, hq, hgm, hby⟩ := hcut
        have hsr := HLT.out q hq
        obtain ⟨M2, hM2⟩ : ∃ M2, M2 = ls.set cut (S0.extract 0 q) := ⟨_, rfl⟩
        have hl2 : ls.length = M2.length := by rw [hM2, List.length_set]
        have hfz : FitZ M2 := by
          intro s hs
          rw [hM2] at hs
          rcases List.mem_or_eq_of_mem_set hs with h' | h'
          · have := hsm2 s h'; unfold maxLen; omega
          · rw [h']; unfold maxLen; simp; omega
        rw [← hM2] at hgm hsr
        clear hM2
        have HLM := Lib.hid hl2
        replace HB := Lib.hid (below_more HB.out hby)
        replace XB := Lib.hid (XB.out.next hby)
        replace G7 := Lib.hid (G7.out.below hby (Nat.le_refl _))
        have GM2 := Lib.hid hgm.own.rd
        obtain ⟨Z, hZ⟩ : ∃ Z, Z = F.take cut := ⟨_, rfl⟩
        have hZl : Z.length = cut := by rw [hZ]; simp; omega
        have RT := Lib.hid (show ∀ w, Rd w (.slice (some ⟨b7, off7, none⟩) F.length c7) F.length 4 (stpCs F) → Rd w (.slice (some ⟨b7, off7, none⟩) cut c7) Z.length 4 (stpCs Z) from fun w h => by rw [hZ]; exact rd_take h rfl (by omega))
        rw [← hZ] at hsr
        have kz1 := keptS_le Z
        have kz2 := keptS_label Z
        clear hZ
        obtain ⟨kn, hkn⟩ : ∃ kn, kn = keptS Z := ⟨_, rfl⟩
        rw [← hkn] at hsr kz1 kz2
        clear hkn
        have SC2 := Lib.hid (fun v w h hL hE => implScan v M2 aE w h (by omega) hfz hL hE)
        rw [hsr] at SC2
        unfold MadeC at SC2
        dsimp only at SC2
        clear hfz hsr hgm hby HLT GM HBB HBM v0 v1 hf0 hf1 hsp hss
        subst hZl
        go_wp2_with fail
        refine (SC2.out _ _ (HLM.out ▸ GM2.out) (HL.out.below HB.out) (HE.out.next HB.out)).mono ?_
        rintro e yz ⟨vz, rfl, ho, hb⟩
        obtain ⟨az, cz, rfl, -⟩ := id ho.2
        obtain ⟨Kz, hKz⟩ : ∃ Kz : Int, Kz = (kn : Int) := ⟨_, rfl⟩
        rw [← hKz]
        have bz9 := below_alloc1 yz (.cells #[.slice az Z.length cz, .int .i64 Kz] 59)
        have hbb := below_more hb bz9
        have GZ := Lib.hid (ho.rd.below bz9 (Nat.le_refl _))
        have XZ := Lib.hid (bx_new yz 59 #[.slice az Z.length cz, .int .i64 Kz])
        replace HB := Lib.hid (below_more HB.out hbb)
        replace XB := Lib.hid (XB.out.next hbb)
        replace G7 := Lib.hid (G7.out.below hbb (Nat.le_refl _))
        clear hb ho bz9 hbb SC2 GM2
        have HKZ := Lib.hid hKz
        have le1 : decide (Kz ≤ (Z.length : Int)) = true := decide_eq_true (by omega)
        have e7 : (Z.length : Int) ≤ (c7 : Int) := by omega
        have e8 : Z.length ≤ c7 := by omega
        clear hKz
        go_wp2_with fail
        generalize yz.alloc (.cells #[.slice az Z.length cz, .int .i64 Kz] 59) = wz at *
        generalize yz.heap.size = nZ at *
        by_cases hk0 : kn = 0
        · have dk : (Kz == 0) = true := by rw [HKZ.out, hk0]; rfl
          clear kz1 kz2 hk0
          have KP := Lib.hid (show ∀ w', Below wz.heap.size wz w' → w'.cell? ⟨nZ, 0, none⟩ = some (.slice az Z.length cz) ∧ w'.cell? ⟨nZ, 1, none⟩ = some (.int .i64 Kz) ∧ w'.cell? ⟨nB, 0, none⟩ = some (.slice (some ⟨b7, off7, none⟩) F.length c7) ∧ w'.cell? ⟨nB, 1, none⟩ = some (.int .i64 K) from fun w' hb' => by
            obtain ⟨⟨m0, m1⟩, -⟩ := (XZ.out.next hb').c2
            obtain ⟨⟨k0, k1⟩, -⟩ := (XB.out.next hb').c2
            exact ⟨m0, m1, k0, k1⟩)
          refine wp_region_held_drew (S := (fun w' => w'.cell? ⟨nZ, 0, none⟩ = some (.slice az Z.length cz) ∧ w'.cell? ⟨nZ, 1, none⟩ = some (.int .i64 Kz) ∧ w'.cell? ⟨nB, 0, none⟩ = some (.slice (some ⟨b7, off7, none⟩) F.length c7) ∧ w'.cell? ⟨nB, 1, none⟩ = some (.int .i64 K))) (by kernel_rfl) (KP.out _ (Below.refl _ _).drew) (fun hHeld => ?_)
          refine wpAnyH_take (i := 0) (oi := ⟨some 147, _, _, _, _, _⟩) (v := ?_) rfl (by kernel_rfl) (by kernel_rfl) (by kernel_rfl) (fun _ _ _ h => h) (Or.inl ⟨by rfl, ?_⟩) (by assumption) ?_
          rotate_left
          · intro w' hSw
            (try dsimp only at hSw)
            go_simp
            try with_reducible rfl
          (try simp only [Act.put, List.setIfInBounds_toArray, List.set_cons_zero, List.set_cons_succ])
          refine wpAnyH_take (i := 1) (oi := ⟨some 148, _, _, _, _, _⟩) (v := ?_) rfl (by kernel_rfl) (by kernel_rfl) (by kernel_rfl) (fun _ _ _ h => h) (Or.inl ⟨by rfl, ?_⟩) (by assumption) ?_
          rotate_left
          · intro w' hSw
            (try dsimp only at hSw)
            go_simp
            try with_reducible rfl
          (try simp only [Act.put, List.setIfInBounds_toArray, List.set_cons_zero, List.set_cons_succ])
          refine wpAnyH_take (i := 2) (oi := ⟨some 149, _, _, _, _, _⟩) (v := ?_) rfl (by kernel_rfl) (by kernel_rfl) (by kernel_rfl) (fun _ _ _ h => h) (Or.inl ⟨by rfl, ?_⟩) (by assumption) ?_
          rotate_left
          · intro w' hSw
            (try dsimp only at hSw)
            go_simp
            try with_reducible rfl
          (try simp only [Act.put, List.setIfInBounds_toArray, List.set_cons_zero, List.set_cons_succ])
          refine wpAnyH_take (i := 3) (oi := ⟨some 150, _, _, _, _, _⟩) (v := ?_) rfl (by kernel_rfl) (by kernel_rfl) (by kernel_rfl) (fun _ _ _ h => h) (Or.inl ⟨by rfl, ?_⟩) (by assumption) ?_
          rotate_left
          · intro w' hSw
            (try dsimp only at hSw)
            go_simp
            try with_reducible rfl
          (try simp only [Act.put, List.setIfInBounds_toArray, List.set_cons_zero, List.set_cons_succ])
          refine wpAnyH_take (i := 4) (oi := ⟨some 151, _, _, _, _, _⟩) (v := ?_) rfl (by kernel_rfl) (by kernel_rfl) (by kernel_rfl) (fun _ _ _ h => h) (Or.inl ⟨by rfl, ?_⟩) (by assumption) ?_
          rotate_left
          · intro w' hSw
            (try dsimp only at hSw)
            go_simp
            try with_reducible rfl
          (try simp only [Act.put, List.setIfInBounds_toArray, List.set_cons_zero, List.set_cons_succ])
          refine wpAnyH_take (i := 5) (oi := ⟨some 152, _, _, _, _, _⟩) (v := ?_) rfl (by kernel_rfl) (by kernel_rfl) (by kernel_rfl) (fun _ _ _ h => h) (Or.inl ⟨by rfl, ?_⟩) (by assumption) ?_
          rotate_left
          · intro w' hSw
            (try dsimp only at hSw)
            go_simp
            try with_reducible rfl
          (try simp only [Act.put, List.setIfInBounds_toArray, List.set_cons_zero, List.set_cons_succ])
          refine wpAnyH_ready (rs := [6]) (by kernel_rfl) (by simp) ?_
          refine AllReadyH.cons (o := ⟨some 153, _, _, _, _, _⟩) rfl (fun K hK => ?_) AllReadyH.nil
          clear hHeld
          go_simp
          go_at_call 32
          refine (lwSteps_same _ _ Z _ (GZ.out.below (Below.refl wz.heap.size wz).drew (Nat.le_refl _)) (RT.out _ (G7.out.below (Below.refl wz.heap.size wz).drew (Nat.le_refl _))) (by omega)).mono ?_
          rintro e y9e ⟨rfl, hb⟩
          have BE := Lib.hid ((Below.refl wz.heap.size wz).drew.trans (hb.mono (Below.refl wz.heap.size wz).drew.size))
          clear hb
          refine hK.out _ _ (KP.out _ BE.out) (fun hHeld => ?_)
          clear hK K
          (try simp only [Act.put, List.setIfInBounds_toArray, List.set_cons_zero, List.set_cons_succ])
          refine wpAnyH_take (i := 7) (oi := ⟨some 154, _, _, _, _, _⟩) (v := ?_) rfl (by kernel_rfl) (by kernel_rfl) (by kernel_rfl) (fun _ _ _ h => h) (Or.inl ⟨by rfl, ?_⟩) (by assumption) ?_
          rotate_left
          · intro w' hSw
            (try dsimp only at hSw)
            go_simp
            try with_reducible rfl
          (try simp only [Act.put, List.setIfInBounds_toArray, List.set_cons_zero, List.set_cons_succ])
          refine wpAnyH_take (i := 8) (oi := ⟨some 155, _, _, _, _, _⟩) (v := ?_) rfl (by kernel_rfl) (by kernel_rfl) (by kernel_rfl) (fun _ _ _ h => h) (Or.inl ⟨by rfl, ?_⟩) (by assumption) ?_
          rotate_left
          · intro w' hSw
            (try dsimp only at hSw)
            go_simp
            try with_reducible rfl
          (try simp only [Act.put, List.setIfInBounds_toArray, List.set_cons_zero, List.set_cons_succ])
          refine wpAnyH_take (i := 9) (oi := ⟨some 156, _, _, _, _, _⟩) (v := ?_) rfl (by kernel_rfl) (by kernel_rfl) (by kernel_rfl) (fun _ _ _ h => h) (Or.inl ⟨by rfl, ?_⟩) (by assumption) ?_
          rotate_left
          · intro w' hSw
            (try dsimp only at hSw)
            go_simp
            try with_reducible rfl
          (try simp only [Act.put, List.setIfInBounds_toArray, List.set_cons_zero, List.set_cons_succ])
          refine wpAnyH_take (i := 10) (oi := ⟨some 157, _, _, _, _, _⟩) (v := ?_) rfl (by kernel_rfl) (by kernel_rfl) (by kernel_rfl) (fun _ _ _ h => h) (Or.inl ⟨by rfl, ?_⟩) (by assumption) ?_
          rotate_left
          · intro w' hSw
            (try dsimp only at hSw)
            go_simp
            try with_reducible rfl
          (try simp only [Act.put, List.setIfInBounds_toArray, List.set_cons_zero, List.set_cons_succ])
          refine wpAnyH_take (i := 11) (oi := ⟨some 158, _, _, _, _, _⟩) (v := ?_) rfl (by kernel_rfl) (by kernel_rfl) (by kernel_rfl) (fun _ _ _ h => h) (Or.inl ⟨by rfl, ?_⟩) (by assumption) ?_
          rotate_left
          · intro w' hSw
            (try dsimp only at hSw)
            go_simp
            try with_reducible rfl
          (try simp only [Act.put, List.setIfInBounds_toArray, List.set_cons_zero, List.set_cons_succ])
          refine wpAnyH_take (i := 12) (oi := ⟨some 159, _, _, _, _, _⟩) (v := ?_) rfl (by kernel_rfl) (by kernel_rfl) (by kernel_rfl) (fun _ _ _ h => h) (Or.inl ⟨by rfl, ?_⟩) (by assumption) ?_
          rotate_left
          · intro w' hSw
            (try dsimp only at hSw)
            go_simp
            try with_reducible rfl
          (try simp only [Act.put, List.setIfInBounds_toArray, List.set_cons_zero, List.set_cons_succ])
          refine wpAnyH_take (i := 13) (oi := ⟨some 160, _, _, _, _, _⟩) (v := ?_) rfl (by kernel_rfl) (by kernel_rfl) (by kernel_rfl) (fun _ _ _ h => h) (Or.inl ⟨by rfl, ?_⟩) (by assumption) ?_
          rotate_left
          · intro w' hSw
            (try dsimp only at hSw)
            go_simp
            try with_reducible rfl
          (try simp only [Act.put, List.setIfInBounds_toArray, List.set_cons_zero, List.set_cons_succ])
          refine wpAnyH_take (i := 14) (oi := ⟨some 161, _, _, _, _, _⟩) (v := ?_) rfl (by kernel_rfl) (by kernel_rfl) (by kernel_rfl) (fun _ _ _ h => h) (Or.inl ⟨by rfl, ?_⟩) (by assumption) ?_
          rotate_left
          · intro w' hSw
            (try dsimp only at hSw)
            go_simp
            try with_reducible rfl
          (try simp only [Act.put, List.setIfInBounds_toArray, List.set_cons_zero, List.set_cons_succ])
          refine wpAnyH_take (i := 15) (oi := ⟨some 162, _, _, _, _, _⟩) (v := ?_) rfl (by kernel_rfl) (by kernel_rfl) (by kernel_rfl) (fun _ _ _ h => h) (Or.inl ⟨by rfl, ?_⟩) (by assumption) ?_
          rotate_left
          · intro w' hSw
            (try dsimp only at hSw)
            go_simp
            try with_reducible rfl
          (try simp only [Act.put, List.setIfInBounds_toArray, List.set_cons_zero, List.set_cons_succ])
          refine wpAnyH_take (i := 16) (oi := ⟨some 163, _, _, _, _, _⟩) (v := ?_) rfl (by kernel_rfl) (by kernel_rfl) (by kernel_rfl) (fun _ _ _ h => h) (Or.inl ⟨by rfl, ?_⟩) (by assumption) ?_
          rotate_left
          · intro w' hSw
            (try dsimp only at hSw)
            go_simp
            try with_reducible rfl
          (try simp only [Act.put, List.setIfInBounds_toArray, List.set_cons_zero, List.set_cons_succ])
          refine wpAnyH_take (i := 17) (oi := ⟨some 164, _, _, _, _, _⟩) (v := ?_) rfl (by kernel_rfl) (by kernel_rfl) (by kernel_rfl) (fun _ _ _ h => h) (Or.inl ⟨by rfl, ?_⟩) (by assumption) ?_
          rotate_left
          · intro w' hSw
            (try dsimp only at hSw)
            go_simp
            try with_reducible rfl
          (try simp only [Act.put, List.setIfInBounds_toArray, List.set_cons_zero, List.set_cons_succ])
          refine wpAnyH_take (i := 18) (oi := ⟨some 165, _, _, _, _, _⟩) (v := undef) rfl (by kernel_rfl) (by kernel_rfl) (by kernel_rfl) (fun _ _ _ h => h) (Or.inr ⟨by rfl, rfl⟩) (by assumption) ?_
          (try simp only [Act.put, List.setIfInBounds_toArray, List.set_cons_zero, List.set_cons_succ])
          refine wpAnyH_take (i := 19) (oi := ⟨some 166, _, _, _, _, _⟩) (v := undef) rfl (by kernel_rfl) (by kernel_rfl) (by kernel_rfl) (fun _ _ _ h => h) (Or.inr ⟨by rfl, rfl⟩) (by assumption) ?_
          (try simp only [Act.put, List.setIfInBounds_toArray, List.set_cons_zero, List.set_cons_succ])
          refine wpAnyH_take (i := 20) (oi := ⟨some 167, _, _, _, _, _⟩) (v := undef) rfl (by kernel_rfl) (by kernel_rfl) (by kernel_rfl) (fun _ _ _ h => h) (Or.inr ⟨by rfl, rfl⟩) (by assumption) ?_
          (try simp only [Act.put, List.setIfInBounds_toArray, List.set_cons_zero, List.set_cons_succ])
          refine wpAnyH_take (i := 21) (oi := ⟨some 168, _, _, _, _, _⟩) (v := undef) rfl (by kernel_rfl) (by kernel_rfl) (by kernel_rfl) (fun _ _ _ h => h) (Or.inr ⟨by rfl, rfl⟩) (by assumption) ?_
          (try simp only [Act.put, List.setIfInBounds_toArray, List.set_cons_zero, List.set_cons_succ])
          refine wpAnyH_take (i := 22) (oi := ⟨some 169, _, _, _, _, _⟩) (v := undef) rfl (by kernel_rfl) (by kernel_rfl) (by kernel_rfl) (fun _ _ _ h => h) (Or.inr ⟨by rfl, rfl⟩) (by assumption) ?_
          (try simp only [Act.put, List.setIfInBounds_toArray, List.set_cons_zero, List.set_cons_succ])
          refine wpAnyH_take (i := 23) (oi := ⟨some 170, _, _, _, _, _⟩) (v := undef) rfl (by kernel_rfl) (by kernel_rfl) (by kernel_rfl) (fun _ _ _ h => h) (Or.inr ⟨by rfl, rfl⟩) (by assumption) ?_
          (try simp only [Act.put, List.setIfInBounds_toArray, List.set_cons_zero, List.set_cons_succ])
          refine wpAnyH_take (i := 24) (oi := ⟨some 171, _, _, _, _, _⟩) (v := undef) rfl (by kernel_rfl) (by kernel_rfl) (by kernel_rfl) (fun _ _ _ h => h) (Or.inr ⟨by rfl, rfl⟩) (by assumption) ?_
          (try simp only [Act.put, List.setIfInBounds_toArray, List.set_cons_zero, List.set_cons_succ])
          refine wpAnyH_take (i := 25) (oi := ⟨some 172, _, _, _, _, _⟩) (v := undef) rfl (by kernel_rfl) (by kernel_rfl) (by kernel_rfl) (fun _ _ _ h => h) (Or.inr ⟨by rfl, rfl⟩) (by assumption) ?_
          (try simp only [Act.put, List.setIfInBounds_toArray, List.set_cons_zero, List.set_cons_succ])
          refine wpAnyH_take (i := 26) (oi := ⟨some 173, _, _, _, _, _⟩) (v := undef) rfl (by kernel_rfl) (by kernel_rfl) (by kernel_rfl) (fun _ _ _ h => h) (Or.inr ⟨by rfl, rfl⟩) (by assumption) ?_
          (try simp only [Act.put, List.setIfInBounds_toArray, List.set_cons_zero, List.set_cons_succ])
          refine wpAnyH_take (i := 27) (oi := ⟨some 174, _, _, _, _, _⟩) (v := ?_) rfl (by kernel_rfl) (by kernel_rfl) (by kernel_rfl) (fun _ _ _ h => h) (Or.inl ⟨by rfl, ?_⟩) (by assumption) ?_
          rotate_left
          · intro w' hSw
            (try dsimp only at hSw)
            go_simp
            try with_reducible rfl
          (try simp only [Act.put, List.setIfInBounds_toArray, List.set_cons_zero, List.set_cons_succ])
          refine wpAnyH_take (i := 28) (oi := ⟨some 175, _, _, _, _, _⟩) (v := ?_) rfl (by kernel_rfl) (by kernel_rfl) (by kernel_rfl) (fun _ _ _ h => h) (Or.inl ⟨by rfl, ?_⟩) (by assumption) ?_
          rotate_left
          · intro w' hSw
            (try dsimp only at hSw)
            go_simp
            try with_reducible rfl
          (try simp only [Act.put, List.setIfInBounds_toArray, List.set_cons_zero, List.set_cons_succ])
          refine wpAnyH_take (i := 29) (oi := ⟨some 4, _, _, _, _, _⟩) (v := ?_) rfl (by kernel_rfl) (by kernel_rfl) (by kernel_rfl) (fun _ _ _ h => h) (Or.inl ⟨by rfl, ?_⟩) (by assumption) ?_
          rotate_left
          · intro w' hSw
            (try dsimp only at hSw)
            go_simp
            try with_reducible rfl
          (try simp only [Act.put, List.setIfInBounds_toArray, List.set_cons_zero, List.set_cons_succ])
          refine wpAnyH_done (by kernel_rfl) ?_ _
          clear hHeld

          go_wp2_with fail
          go_ret
          exact ⟨rfl, below_more HB.out BE.out⟩
        · have dk : (Kz == 0) = false := by rw [HKZ.out]; simp; omega
          obtain ⟨kz, hkz⟩ : ∃ kz, kn = kz + 1 := ⟨kn - 1, by omega⟩
          have hlab : Z[kz]'(by omega) = Z[kz]'(by omega) := rfl
          have h5 : (Z[kz]'(by omega)).1 = 5 := by
            have := kz2.resolve_left hk0
            rw [hkz, Nat.add_sub_cancel, List.getD_eq_getElem?_getD, List.getElem?_eq_getElem (by omega)] at this
            exact this
          obtain ⟨bz, offz, hpz, hbz, hcz⟩ := GZ.out.get (by omega)
          subst hpz
          have v5 : wz.cell? ⟨bz, offz + kz * 4, none⟩ = some (.int .i64 5) := by rw [hcz (kz * 4) (by omega), stpCs_0 Z kz (by omega), h5]
          have mk1 : IntKind.i64.wrap (Kz - 1) = (kz : Int) := by rw [HKZ.out, IntWalk.i64_in _ (by omega)]; omega
          have mk2 : wrap64 (Kz - 1) = (kz : Int) := by rw [HKZ.out, IntWalk.wrap64_in _ (by omega)]; omega
          have k0 : (0 : Int) ≤ (kz : Int) := by omega
          have k1 : (kz : Int) < (Z.length : Int) := by omega
          clear hlab h5 hcz hkz kz1 kz2 hk0
          have KP := Lib.hid (show ∀ w', Below wz.heap.size wz w' → w'.cell? ⟨nZ, 0, none⟩ = some (.slice (some ⟨bz, offz, none⟩) Z.length cz) ∧ w'.cell? ⟨nZ, 1, none⟩ = some (.int .i64 Kz) ∧ w'.cell? ⟨nB, 0, none⟩ = some (.slice (some ⟨b7, off7, none⟩) F.length c7) ∧ w'.cell? ⟨nB, 1, none⟩ = some (.int .i64 K) ∧ w'.cell? ⟨bz, offz + kz * 4, none⟩ = some (.int .i64 5) from fun w' hb' => by
            obtain ⟨⟨m0, m1⟩, -⟩ := (XZ.out.next hb').c2
            obtain ⟨⟨k0, k1⟩, -⟩ := (XB.out.next hb').c2
            exact ⟨m0, m1, k0, k1, (hb'.cell (p := ⟨bz, offz + kz * 4, none⟩) hbz).trans v5⟩)
          refine wp_region_held_drew (S := (fun w' => w'.cell? ⟨nZ, 0, none⟩ = some (.slice (some ⟨bz, offz, none⟩) Z.length cz) ∧ w'.cell? ⟨nZ, 1, none⟩ = some (.int .i64 Kz) ∧ w'.cell? ⟨nB, 0, none⟩ = some (.slice (some ⟨b7, off7, none⟩) F.length c7) ∧ w'.cell? ⟨nB, 1, none⟩ = some (.int .i64 K) ∧ w'.cell? ⟨bz, offz + kz * 4, none⟩ = some (.int .i64 5))) (by kernel_rfl) (KP.out _ (Below.refl _ _).drew) (fun hHeld => ?_)
          refine wpAnyH_take (i := 0) (oi := ⟨some 147, _, _, _, _, _⟩) (v := ?_) rfl (by kernel_rfl) (by kernel_rfl) (by kernel_rfl) (fun _ _ _ h => h) (Or.inl ⟨by rfl, ?_⟩) (by assumption) ?_
          rotate_left
          · intro w' hSw
            (try dsimp only at hSw)
            go_simp
            try with_reducible rfl
          (try simp only [Act.put, List.setIfInBounds_toArray, List.set_cons_zero, List.set_cons_succ])
          refine wpAnyH_take (i := 1) (oi := ⟨some 148, _, _, _, _, _⟩) (v := ?_) rfl (by kernel_rfl) (by kernel_rfl) (by kernel_rfl) (fun _ _ _ h => h) (Or.inl ⟨by rfl, ?_⟩) (by assumption) ?_
          rotate_left
          · intro w' hSw
            (try dsimp only at hSw)
            go_simp
            try with_reducible rfl
          (try simp only [Act.put, List.setIfInBounds_toArray, List.set_cons_zero, List.set_cons_succ])
          refine wpAnyH_take (i := 2) (oi := ⟨some 149, _, _, _, _, _⟩) (v := ?_) rfl (by kernel_rfl) (by kernel_rfl) (by kernel_rfl) (fun _ _ _ h => h) (Or.inl ⟨by rfl, ?_⟩) (by assumption) ?_
          rotate_left
          · intro w' hSw
            (try dsimp only at hSw)
            go_simp
            try with_reducible rfl
          (try simp only [Act.put, List.setIfInBounds_toArray, List.set_cons_zero, List.set_cons_succ])
          refine wpAnyH_take (i := 3) (oi := ⟨some 150, _, _, _, _, _⟩) (v := ?_) rfl (by kernel_rfl) (by kernel_rfl) (by kernel_rfl) (fun _ _ _ h => h) (Or.inl ⟨by rfl, ?_⟩) (by assumption) ?_
          rotate_left
          · intro w' hSw
            (try dsimp only at hSw)
            go_simp
            try with_reducible rfl
          (try simp only [Act.put, List.setIfInBounds_toArray, List.set_cons_zero, List.set_cons_succ])
          refine wpAnyH_take (i := 4) (oi := ⟨some 151, _, _, _, _, _⟩) (v := ?_) rfl (by kernel_rfl) (by kernel_rfl) (by kernel_rfl) (fun _ _ _ h => h) (Or.inl ⟨by rfl, ?_⟩) (by assumption) ?_
          rotate_left
          · intro w' hSw
            (try dsimp only at hSw)
            go_simp
            try with_reducible rfl
          (try simp only [Act.put, List.setIfInBounds_toArray, List.set_cons_zero, List.set_cons_succ])
          refine wpAnyH_take (i := 5) (oi := ⟨some 152, _, _, _, _, _⟩) (v := ?_) rfl (by kernel_rfl) (by kernel_rfl) (by kernel_rfl) (fun _ _ _ h => h) (Or.inl ⟨by rfl, ?_⟩) (by assumption) ?_
          rotate_left
          · intro w' hSw
            (try dsimp only at hSw)
            go_simp
            try with_reducible rfl
          (try simp only [Act.put, List.setIfInBounds_toArray, List.set_cons_zero, List.set_cons_succ])
          refine wpAnyH_ready (rs := [6]) (by kernel_rfl) (by simp) ?_
          refine AllReadyH.cons (o := ⟨some 153, _, _, _, _, _⟩) rfl (fun K hK => ?_) AllReadyH.nil
          clear hHeld
          go_simp
          go_at_call 32
          refine (lwSteps_same _ _ Z _ (GZ.out.below (Below.refl wz.heap.size wz).drew (Nat.le_refl _)) (RT.out _ (G7.out.below (Below.refl wz.heap.size wz).drew (Nat.le_refl _))) (by omega)).mono ?_
          rintro e y9e ⟨rfl, hb⟩
          have BE := Lib.hid ((Below.refl wz.heap.size wz).drew.trans (hb.mono (Below.refl wz.heap.size wz).drew.size))
          clear hb
          refine hK.out _ _ (KP.out _ BE.out) (fun hHeld => ?_)
          clear hK K
          (try simp only [Act.put, List.setIfInBounds_toArray, List.set_cons_zero, List.set_cons_succ])
          refine wpAnyH_take (i := 7) (oi := ⟨some 154, _, _, _, _, _⟩) (v := ?_) rfl (by kernel_rfl) (by kernel_rfl) (by kernel_rfl) (fun _ _ _ h => h) (Or.inl ⟨by rfl, ?_⟩) (by assumption) ?_
          rotate_left
          · intro w' hSw
            (try dsimp only at hSw)
            go_simp
            try with_reducible rfl
          (try simp only [Act.put, List.setIfInBounds_toArray, List.set_cons_zero, List.set_cons_succ])
          refine wpAnyH_take (i := 8) (oi := ⟨some 155, _, _, _, _, _⟩) (v := ?_) rfl (by kernel_rfl) (by kernel_rfl) (by kernel_rfl) (fun _ _ _ h => h) (Or.inl ⟨by rfl, ?_⟩) (by assumption) ?_
          rotate_left
          · intro w' hSw
            (try dsimp only at hSw)
            go_simp
            try with_reducible rfl
          (try simp only [Act.put, List.setIfInBounds_toArray, List.set_cons_zero, List.set_cons_succ])
          refine wpAnyH_take (i := 9) (oi := ⟨some 156, _, _, _, _, _⟩) (v := ?_) rfl (by kernel_rfl) (by kernel_rfl) (by kernel_rfl) (fun _ _ _ h => h) (Or.inl ⟨by rfl, ?_⟩) (by assumption) ?_
          rotate_left
          · intro w' hSw
            (try dsimp only at hSw)
            go_simp
            try with_reducible rfl
          (try simp only [Act.put, List.setIfInBounds_toArray, List.set_cons_zero, List.set_cons_succ])
          refine wpAnyH_take (i := 10) (oi := ⟨some 157, _, _, _, _, _⟩) (v := ?_) rfl (by kernel_rfl) (by kernel_rfl) (by kernel_rfl) (fun _ _ _ h => h) (Or.inl ⟨by rfl, ?_⟩) (by assumption) ?_
          rotate_left
          · intro w' hSw
            (try dsimp only at hSw)
            go_simp
            try with_reducible rfl
          (try simp only [Act.put, List.setIfInBounds_toArray, List.set_cons_zero, List.set_cons_succ])
          refine wpAnyH_take (i := 11) (oi := ⟨some 158, _, _, _, _, _⟩) (v := ?_) rfl (by kernel_rfl) (by kernel_rfl) (by kernel_rfl) (fun _ _ _ h => h) (Or.inl ⟨by rfl, ?_⟩) (by assumption) ?_
          rotate_left
          · intro w' hSw
            (try dsimp only at hSw)
            go_simp
            try with_reducible rfl
          (try simp only [Act.put, List.setIfInBounds_toArray, List.set_cons_zero, List.set_cons_succ])
          refine wpAnyH_take (i := 12) (oi := ⟨some 159, _, _, _, _, _⟩) (v := ?_) rfl (by kernel_rfl) (by kernel_rfl) (by kernel_rfl) (fun _ _ _ h => h) (Or.inl ⟨by rfl, ?_⟩) (by assumption) ?_
          rotate_left
          · intro w' hSw
            (try dsimp only at hSw)
            go_simp
            try with_reducible rfl
          (try simp only [Act.put, List.setIfInBounds_toArray, List.set_cons_zero, List.set_cons_succ])
          refine wpAnyH_take (i := 13) (oi := ⟨some 160, _, _, _, _, _⟩) (v := ?_) rfl (by kernel_rfl) (by kernel_rfl) (by kernel_rfl) (fun _ _ _ h => h) (Or.inl ⟨by rfl, ?_⟩) (by assumption) ?_
          rotate_left
          · intro w' hSw
            (try dsimp only at hSw)
            go_simp
            try with_reducible rfl
          (try simp only [Act.put, List.setIfInBounds_toArray, List.set_cons_zero, List.set_cons_succ])
          refine wpAnyH_take (i := 14) (oi := ⟨some 161, _, _, _, _, _⟩) (v := ?_) rfl (by kernel_rfl) (by kernel_rfl) (by kernel_rfl) (fun _ _ _ h => h) (Or.inl ⟨by rfl, ?_⟩) (by assumption) ?_
          rotate_left
          · intro w' hSw
            (try dsimp only at hSw)
            go_simp
            try with_reducible rfl
          (try simp only [Act.put, List.setIfInBounds_toArray, List.set_cons_zero, List.set_cons_succ])
          refine wpAnyH_take (i := 15) (oi := ⟨some 162, _, _, _, _, _⟩) (v := ?_) rfl (by kernel_rfl) (by kernel_rfl) (by kernel_rfl) (fun _ _ _ h => h) (Or.inl ⟨by rfl, ?_⟩) (by assumption) ?_
          rotate_left
          · intro w' hSw
            (try dsimp only at hSw)
            go_simp
            try with_reducible rfl
          (try simp only [Act.put, List.setIfInBounds_toArray, List.set_cons_zero, List.set_cons_succ])
          refine wpAnyH_take (i := 16) (oi := ⟨some 163, _, _, _, _, _⟩) (v := ?_) rfl (by kernel_rfl) (by kernel_rfl) (by kernel_rfl) (fun _ _ _ h => h) (Or.inl ⟨by rfl, ?_⟩) (by assumption) ?_
          rotate_left
          · intro w' hSw
            (try dsimp only at hSw)
            go_simp
            try with_reducible rfl
          (try simp only [Act.put, List.setIfInBounds_toArray, List.set_cons_zero, List.set_cons_succ])
          refine wpAnyH_take (i := 17) (oi := ⟨some 164, _, _, _, _, _⟩) (v := ?_) rfl (by kernel_rfl) (by kernel_rfl) (by kernel_rfl) (fun _ _ _ h => h) (Or.inl ⟨by rfl, ?_⟩) (by assumption) ?_
          rotate_left
          · intro w' hSw
            (try dsimp only at hSw)
            go_simp
            try with_reducible rfl
          (try simp only [Act.put, List.setIfInBounds_toArray, List.set_cons_zero, List.set_cons_succ])
          refine wpAnyH_take (i := 18) (oi := ⟨some 165, _, _, _, _, _⟩) (v := ?_) rfl (by kernel_rfl) (by kernel_rfl) (by kernel_rfl) (fun _ _ _ h => h) (Or.inl ⟨by rfl, ?_⟩) (by assumption) ?_
          rotate_left
          · intro w' hSw
            (try dsimp only at hSw)
            go_simp
            try with_reducible rfl
          (try simp only [Act.put, List.setIfInBounds_toArray, List.set_cons_zero, List.set_cons_succ])
          refine wpAnyH_take (i := 19) (oi := ⟨some 166, _, _, _, _, _⟩) (v := ?_) rfl (by kernel_rfl) (by kernel_rfl) (by kernel_rfl) (fun _ _ _ h => h) (Or.inl ⟨by rfl, ?_⟩) (by assumption) ?_
          rotate_left
          · intro w' hSw
            (try dsimp only at hSw)
            go_simp
            try with_reducible rfl
          (try simp only [Act.put, List.setIfInBounds_toArray, List.set_cons_zero, List.set_cons_succ])
          refine wpAnyH_take (i := 20) (oi := ⟨some 167, _, _, _, _, _⟩) (v := ?_) rfl (by kernel_rfl) (by kernel_rfl) (by kernel_rfl) (fun _ _ _ h => h) (Or.inl ⟨by rfl, ?_⟩) (by assumption) ?_
          rotate_left
          · intro w' hSw
            (try dsimp only at hSw)
            go_simp
            try with_reducible rfl
          (try simp only [Act.put, List.setIfInBounds_toArray, List.set_cons_zero, List.set_cons_succ])
          refine wpAnyH_take (i := 21) (oi := ⟨some 168, _, _, _, _, _⟩) (v := ?_) rfl (by kernel_rfl) (by kernel_rfl) (by kernel_rfl) (fun _ _ _ h => h) (Or.inl ⟨by rfl, ?_⟩) (by assumption) ?_
          rotate_left
          · intro w' hSw
            (try dsimp only at hSw)
            go_simp
            try with_reducible rfl
          (try simp only [Act.put, List.setIfInBounds_toArray, List.set_cons_zero, List.set_cons_succ])
          refine wpAnyH_take (i := 22) (oi := ⟨some 169, _, _, _, _, _⟩) (v := ?_) rfl (by kernel_rfl) (by kernel_rfl) (by kernel_rfl) (fun _ _ _ h => h) (Or.inl ⟨by rfl, ?_⟩) (by assumption) ?_
          rotate_left
          · intro w' hSw
            (try dsimp only at hSw)
            go_simp
            try with_reducible rfl
          (try simp only [Act.put, List.setIfInBounds_toArray, List.set_cons_zero, List.set_cons_succ])
          refine wpAnyH_take (i := 23) (oi := ⟨some 170, _, _, _, _, _⟩) (v := ?_) rfl (by kernel_rfl) (by kernel_rfl) (by kernel_rfl) (fun _ _ _ h => h) (Or.inl ⟨by rfl, ?_⟩) (by assumption) ?_
          rotate_left
          · intro w' hSw
            (try dsimp only at hSw)
            go_simp
            try with_reducible rfl
          (try simp only [Act.put, List.setIfInBounds_toArray, List.set_cons_zero, List.set_cons_succ])
          refine wpAnyH_take (i := 24) (oi := ⟨some 171, _, _, _, _, _⟩) (v := ?_) rfl (by kernel_rfl) (by kernel_rfl) (by kernel_rfl) (fun _ _ _ h => h) (Or.inl ⟨by rfl, ?_⟩) (by assumption) ?_
          rotate_left
          · intro w' hSw
            (try dsimp only at hSw)
            go_simp
            try with_reducible rfl
          (try simp only [Act.put, List.setIfInBounds_toArray, List.set_cons_zero, List.set_cons_succ])
          refine wpAnyH_take (i := 25) (oi := ⟨some 172, _, _, _, _, _⟩) (v := ?_) rfl (by kernel_rfl) (by kernel_rfl) (by kernel_rfl) (fun _ _ _ h => h) (Or.inl ⟨by rfl, ?_⟩) (by assumption) ?_
          rotate_left
          · intro w' hSw
            (try dsimp only at hSw)
            go_simp
            try with_reducible rfl
          (try simp only [Act.put, List.setIfInBounds_toArray, List.set_cons_zero, List.set_cons_succ])
          refine wpAnyH_take (i := 26) (oi := ⟨some 173, _, _, _, _, _⟩) (v := ?_) rfl (by kernel_rfl) (by kernel_rfl) (by kernel_rfl) (fun _ _ _ h => h) (Or.inl ⟨by rfl, ?_⟩) (by assumption) ?_
          rotate_left
          · intro w' hSw
            (try dsimp only at hSw)
            go_simp
            try with_reducible rfl
          (try simp only [Act.put, List.setIfInBounds_toArray, List.set_cons_zero, List.set_cons_succ])
          refine wpAnyH_take (i := 27) (oi := ⟨some 174, _, _, _, _, _⟩) (v := ?_) rfl (by kernel_rfl) (by kernel_rfl) (by kernel_rfl) (fun _ _ _ h => h) (Or.inl ⟨by rfl, ?_⟩) (by assumption) ?_
          rotate_left
          · intro w' hSw
            (try dsimp only at hSw)
            go_simp
            try with_reducible rfl
          (try simp only [Act.put, List.setIfInBounds_toArray, List.set_cons_zero, List.set_cons_succ])
          refine wpAnyH_take (i := 28) (oi := ⟨some 175, _, _, _, _, _⟩) (v := ?_) rfl (by kernel_rfl) (by kernel_rfl) (by kernel_rfl) (fun _ _ _ h => h) (Or.inl ⟨by rfl, ?_⟩) (by assumption) ?_
          rotate_left
          · intro w' hSw
            (try dsimp only at hSw)
            go_simp
            try with_reducible rfl
          (try simp only [Act.put, List.setIfInBounds_toArray, List.set_cons_zero, List.set_cons_succ])
          refine wpAnyH_take (i := 29) (oi := ⟨some 4, _, _, _, _, _⟩) (v := ?_) rfl (by kernel_rfl) (by kernel_rfl) (by kernel_rfl) (fun _ _ _ h => h) (Or.inl ⟨by rfl, ?_⟩) (by assumption) ?_
          rotate_left
          · intro w' hSw
            (try dsimp only at hSw)
            go_simp
            try with_reducible rfl
          (try simp only [Act.put, List.setIfInBounds_toArray, List.set_cons_zero, List.set_cons_succ])
          refine wpAnyH_done (by kernel_rfl) ?_ _
          clear hHeld

          go_wp2_with fail
          go_ret
          exact ⟨rfl, below_more HB.out BE.out⟩
