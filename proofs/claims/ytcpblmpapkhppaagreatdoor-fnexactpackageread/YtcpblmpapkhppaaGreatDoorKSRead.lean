/- The specification's PackageRead. -/
import Derived.Test.YtcpblmpapkhppaaGreatDoorKRead
import Derived.Test.YtcpblmpapkhppaaGreatDoorKB
import Derived.Test.YtcpblmpapkhppaaGreatDoorBSRead
namespace Go.Proofs.YtcpblmpapkhppaaGreatDoor
open Go.RowKit

set_option maxHeartbeats 1000000 in
theorem specIll8 (x : Int) (w : World) :
    Calls Tryz.prog 27 #[.int .i64 x] w fun e w' => e = .returned (.agg #[.int .i64 0, .string { data := #[] }, .slice none 0 0, .int .i64 x]) ∧ Below w.heap.size w w' := by
  go_enter Tryz.func27, Tryz.ntmps27
  go_wp2_with fail
  refine bodyPost_ret (v := .agg #[.int .i64 0, .string { data := #[] }, .slice none 0 0, .int .i64 x]) (by simp [results, Tryz.results27, go_sem]) rfl ⟨rfl, ?_⟩
  exact below_alloc1 w _
theorem nat1 (k : Nat) : (k : Int) + 1 = ((k + 1 : Nat) : Int) := by omega
theorem lt20 {k : Nat} (h : (k : Int) < 20) : k + 1 ≤ 20 := by omega
theorem ltn {k : Nat} {n : Int} (h : (k : Int) < n) : ((k + 1 : Nat) : Int) ≤ n := by omega
theorem meas20 {k : Nat} (h : (k : Int) < 20) : 20 - (intOf (.int .i64 ((k : Int) + 1))).toNat < 20 - (intOf (.int .i64 (k : Int))).toNat := by simp [intOf]; omega
theorem txtS_lim (s : ByteArray) (x : Int) (bad : Bool) (hs : s.size ≤ maxLen) (hx : x ≤ 9223372036854775807) : (txtS s x bad).2.1 ≤ 9223372036854775807 := by
  unfold txtS
  split
  · exact textR_at s x hs
  · exact hx
theorem kS_next {t : ByteArray} {k : Nat} (h : (kS t k).2.2 = false) : kS t (k + 1) = ((kS t k).1 ++ [(rdR (txtS t (kS t k).2.1 false).1).1], (txtS t (kS t k).2.1 false).2.1, (txtS t (kS t k).2.1 false).2.2 || decide ((rdR (txtS t (kS t k).2.1 false).1).2 ≠ 0)) := by
  unfold kS at *
  simp only [stR]
  rw [h]
theorem txtS_size (s : ByteArray) (x : Int) (bad : Bool) : (txtS s x bad).1.size ≤ s.size := by
  unfold txtS
  split
  · exact textR_size s x
  · exact Nat.zero_le _
def SpRel (t : ByteArray) (w WL : World) (p nP : Nat) (b : Int) (d : ByteArray) (i : Value) (wr : World) : Prop :=
  ∃ (k : Nat) (v : Value), k ≤ 20 ∧ ((k : Int) ≤ (k3 t).1 ∨ k = 0) ∧ i = .int .i64 (k : Int) ∧ Bx wr p 55 #[.string t, .int .i64 (kS t k).2.1, .bool ((k3 t).2.2 || (kS t k).2.2)] ∧ (kS t k).2.1 ≤ 9223372036854775807 ∧
    Bx wr nP 24 #[.int .i64 b, .string d, v] ∧ Gr wr WL.heap.size 59 4 v (kS t k).1.length (stpCs (kS t k).1) ∧ Bx wr w.heap.size 26 #[.int .i64 0, .string { data := #[] }, .slice none 0 0, .int .i64 0] ∧ Below w.heap.size w wr ∧ WL.heap.size ≤ wr.heap.size
set_option maxRecDepth 100000 in
set_option maxHeartbeats 4000000 in
theorem specPkRead (s : ByteArray) (w : World) (hs : s.size ≤ maxLen) :
    Calls Tryz.prog 5 #[.string s] w (MadePk (pkR s) w) := by
  obtain ⟨i0, hi, hz0, hz1, hz2⟩ := info_parts Tryz.infostp
  have husz := unsealT_size s
  have HU := Lib.hid (fun w => specUnsealT s w hs)
  have SE := Lib.hid (@pkR_seal s)
  have CMP := Lib.hid (@pkR_cmp s)
  obtain ⟨R, hR⟩ : ∃ R, R = pkR s := ⟨_, rfl⟩
  rw [← hR] at SE CMP ⊢
  clear hR
  obtain ⟨U, hU⟩ : ∃ U, U = unsealT s := ⟨_, rfl⟩
  rw [← hU] at husz HU SE CMP
  clear hU
  obtain ⟨t, c⟩ := U
  dsimp only at husz HU SE CMP
  have Y := Lib.hid (bx_new w 26 #[.int .i64 0, .string { data := #[] }, .slice none 0 0, .int .i64 0])
  have B := Lib.hid (below_alloc1 w (.cells #[.int .i64 0, .string { data := #[] }, .slice none 0 0, .int .i64 0] 26))
  have z0 := size_alloc1 w (.cells #[.int .i64 0, .string { data := #[] }, .slice none 0 0, .int .i64 0] 26)
  go_enter Tryz.func5, Tryz.ntmps5
  go_wp2_with fail
  generalize w.alloc (.cells #[.int .i64 0, .string { data := #[] }, .slice none 0 0, .int .i64 0] 26) = W0 at *
  refine (HU.out W0).mono ?_
  clear HU
  rintro e w1 ⟨rfl, hb⟩
  have bz := below_alloc1 w1 (.cells #[.string t, .int .i64 0, .int .i64 c] 50)
  have hbb := below_more hb bz
  have s1 := size_alloc1 w1 (.cells #[.string t, .int .i64 0, .int .i64 c] 50)
  have g1 := hb.size
  have XU := Lib.hid (bx_new w1 50 #[.string t, .int .i64 0, .int .i64 c])
  replace Y := Lib.hid (Y.out.next hbb)
  replace B := Lib.hid (below_more B.out hbb)
  clear hb bz hbb
  have u0 := XU.out.t0
  have u2 := XU.out.t2
  by_cases hc : c = 0
  rotate_left
  · have hr := SE.out hc
    have dc : (c != 0) = true := by simpa using hc
    clear SE CMP hc
    go_wp2_with fail
    refine (specIll8 c _).mono ?_
    rintro e w2 ⟨rfl, hb⟩
    replace Y := Lib.hid (Y.out.next hb)
    replace B := Lib.hid (below_more B.out hb)
    clear hb
    obtain ⟨⟨y0, y1, y2, y3⟩, f0, f1, f2, f3⟩ := Y.out.k4
    go_wp2_with fail
    refine bodyPost_ret (v := .agg #[.int .i64 0, .string { data := #[] }, .slice none 0 0, .int .i64 c]) (by simp [results, Tryz.results5, go_sem, y0, y1, y2, y3]) rfl ⟨.slice none 0 0, by rw [hr]; rfl, by rw [hr]; exact Gr.nil _ _ _ _, ?_⟩
    exact four_setK B.out _ _ _ _
  subst hc
  replace CMP := Lib.hid (fun k bad => CMP.out (by first | rfl | trivial) k bad)
  clear SE
  have ht : t.size ≤ maxLen := by unfold maxLen; omega
  have l1 : (k1 t).2.1 ≤ 9223372036854775807 := numS_lim t 0 false ht (by decide)
  have l2 : (k2 t).2.1 ≤ 9223372036854775807 := txtS_lim t _ _ ht l1
  have l3 : (k3 t).2.1 ≤ 9223372036854775807 := numS_lim t _ _ ht l2
  have HN1 := Lib.hid (fun w p hB => num_any t 0 false p w ht (by decide) hB)
  have HN2 := Lib.hid (fun w p hB => txt_any t (k1 t).2.1 (k1 t).2.2 p w ht l1 hB)
  have HN3 := Lib.hid (fun w p hB => num_any t (k2 t).2.1 (k2 t).2.2 p w ht l2 hB)
  rw [show numS t 0 false = k1 t from rfl] at HN1
  rw [show txtS t (k1 t).2.1 (k1 t).2.2 = k2 t from rfl] at HN2
  rw [show numS t (k2 t).2.1 (k2 t).2.2 = k3 t from rfl] at HN3
  have RD := Lib.hid (show ∀ k, pkRd t k = ((k1 t).1, (k2 t).1, (kS t k).1) from fun k => rfl)
  have bz := below_alloc1 (w1.alloc (.cells #[.string t, .int .i64 0, .int .i64 0] 50)) (.cells #[.string t, .int .i64 0, .bool false] 55)
  have X1 := bx_new (w1.alloc (.cells #[.string t, .int .i64 0, .int .i64 0] 50)) 55 #[.string t, .int .i64 0, .bool false]
  have s2 := size_alloc1 (w1.alloc (.cells #[.string t, .int .i64 0, .int .i64 0] 50)) (.cells #[.string t, .int .i64 0, .bool false] 55)
  rw [s1] at X1
  replace Y := Lib.hid (Y.out.next bz)
  replace B := Lib.hid (below_more B.out bz)
  have XR := Lib.hid X1
  clear bz X1 XU
  go_wp2_with fail
  clear u0 u2
  generalize (w1.alloc (.cells #[.string t, .int .i64 0, .int .i64 0] 50)).alloc (.cells #[.string t, .int .i64 0, .bool false] 55) = W2 at *
  obtain ⟨p, hp⟩ : ∃ p, p = w1.heap.size + 1 := ⟨_, rfl⟩
  have hpw : w.heap.size < p := by omega
  have hpW : p < W2.heap.size := by omega
  rw [← hp] at XR ⊢
  clear hp s1 s2 g1 z0
  refine (HN1.out W2 p XR.out).mono ?_
  rintro e w3 ⟨rfl, hx, hg⟩
  have g3 := hg.size
  have Y3 := Lib.hid (Y.out.grown hg (by simp; omega))
  have B3 := Lib.hid (below_gr B.out hg B.out.size (by omega))
  have XR3 := Lib.hid hx
  clear hx hg XR Y B HN1
  generalize k1 t = K1 at *
  have bz := below_alloc1 w3 (.cells #[.int .i64 K1.1, .string { data := #[] }, .slice none 0 0] 24)
  have XP := Lib.hid (bx_new w3 24 #[.int .i64 K1.1, .string { data := #[] }, .slice none 0 0])
  have s3 := size_alloc1 w3 (.cells #[.int .i64 K1.1, .string { data := #[] }, .slice none 0 0] 24)
  replace XR3 := Lib.hid (XR3.out.next bz)
  replace Y3 := Lib.hid (Y3.out.next bz)
  replace B3 := Lib.hid (below_more B3.out bz)
  clear bz
  go_wp2_with fail
  generalize w3.alloc (.cells #[.int .i64 K1.1, .string { data := #[] }, .slice none 0 0] 24) = W3 at *
  have hnp : p < w3.heap.size := by omega
  have hnW : w3.heap.size < W3.heap.size := by omega
  clear s3 g3 hpW
  generalize w3.heap.size = nP at *
  refine (HN2.out W3 p XR3.out).mono ?_
  rintro e w4 ⟨rfl, hx, hg⟩
  have g4 := hg.size
  have xp := XP.out.grown hg (by simp; omega)
  obtain ⟨⟨p0, p1, p2⟩, f0, f1, f2⟩ := xp.k3
  have XP4 := Lib.hid (show Bx (w4.setCell ⟨nP, 1, none⟩ (.string (k2 t).1)) nP 24 #[.int .i64 K1.1, .string (k2 t).1, .slice none 0 0] by simpa using xp.set (j := 1) (.string (k2 t).1))
  have XR4 := Lib.hid (hx.other ⟨nP, 1, none⟩ (.string (k2 t).1) (by simp; omega))
  have Y4 := Lib.hid ((Y3.out.grown hg (by simp; omega)).other ⟨nP, 1, none⟩ (.string (k2 t).1) (by simp; omega))
  have B4 := Lib.hid ((below_gr B3.out hg B3.out.size (by omega)).setCell (p := ⟨nP, 1, none⟩) (by simp; omega) (.string (k2 t).1))
  clear hx hg xp XP XR3 Y3 B3 HN2
  generalize k2 t = K2 at *
  go_wp2_with fail
  clear p0 p1 p2 f0 f1 f2
  have h4 : (w4.setCell ⟨nP, 1, none⟩ (.string K2.1)).heap.size = w4.heap.size := by simp
  generalize w4.setCell ⟨nP, 1, none⟩ (.string K2.1) = W4 at *
  refine (HN3.out W4 p XR4.out).mono ?_
  rintro e WL ⟨rfl, hx, hg⟩
  have g5 := hg.size
  have XP := Lib.hid (XP4.out.grown hg (by simp; omega))
  have XR := Lib.hid hx
  have Y := Lib.hid (Y4.out.grown hg (by simp; omega))
  have B := Lib.hid (below_gr B4.out hg B4.out.size (by omega))
  have hnL : nP < WL.heap.size := by omega
  clear hx hg XP4 XR4 Y4 B4 HN3 h4 g4 g5
  go_wp2_with fail
  go_loopw [7] (fun i wr => SpRel t w WL p nP K1.1 K2.1 i wr) (fun i _ => 20 - (intOf i).toNat)
  case atStart =>
    refine ⟨0, .slice none 0 0, by omega, .inr rfl, rfl, ?_, l3, XP.out, Gr.nil _ _ _ _, Y.out, B.out, Nat.le_refl _⟩
    have h9 := XR.out
    show Bx WL p _ #[.string t, .int .i64 (k3 t).2.1, .bool ((k3 t).2.2 || false)]
    rw [Bool.or_false]
    exact h9
  case round =>
    clear XP XR Y B
    obtain ⟨k, v, hk, hkn, rfl, xr, hlim, xp, hg, yy, bb, hwl⟩ := hrel
    obtain ⟨a3', c3', rfl⟩ := gr_form hg
    have XP := Lib.hid xp
    have XR := Lib.hid xr
    have Y := Lib.hid yy
    have B := Lib.hid bb
    have G := Lib.hid hg
    have LEN := Lib.hid (show (kS t k).1.length = k from stR_len t _ k)
    clear xp xr yy bb hg
    have xr2 := XR.out.t2
    obtain ⟨bad, hbe⟩ : ∃ bad, bad = ((k3 t).2.2 || (kS t k).2.2) := ⟨_, rfl⟩
    rw [← hbe] at xr2 XR
    have HBE := Lib.hid hbe
    obtain ⟨n, hne⟩ : ∃ n, n = (k3 t).1 := ⟨_, rfl⟩
    rw [← hne] at hkn ⊢
    have HNE := Lib.hid hne
    clear hbe hne
    by_cases hrun : (k : Int) < n ∧ (k : Int) < 20 ∧ bad = false
    · obtain ⟨e0, e1, rfl⟩ := hrun
      have hsb : (kS t k).2.2 = false := by
        have := HBE.out
        cases h9 : (kS t k).2.2 with
        | false => rfl
        | true => rw [h9] at this; simp at this
      have h3b : (k3 t).2.2 = false := by
        have := HBE.out
        rw [hsb, Bool.or_false] at this
        exact this.symm
      have NX := Lib.hid (kS_next hsb)
      have H3B := Lib.hid h3b
      have tl := txtS_lim t (kS t k).2.1 false ht hlim
      have HTX := Lib.hid (fun w hB => txt_any t (kS t k).2.1 false p w ht hlim hB)
      have tsz := txtS_size t (kS t k).2.1 false
      obtain ⟨S, hS⟩ : ∃ S, S = kS t k := ⟨_, rfl⟩
      rw [← hS] at NX tl HTX tsz XR XP G LEN
      clear hS hsb h3b hlim HBE
      obtain ⟨l, at', bd⟩ := S
      dsimp only at NX tl HTX tsz XR XP G LEN
      obtain ⟨T, hT⟩ : ∃ T, T = txtS t at' false := ⟨_, rfl⟩
      rw [← hT] at NX tl HTX tsz
      clear hT
      obtain ⟨td, tq, tb⟩ := T
      dsimp only at NX tl HTX tsz
      have HSR := Lib.hid (fun w => specStepRead td w (by omega))
      obtain ⟨RR, hRR⟩ : ∃ RR, RR = rdR td := ⟨_, rfl⟩
      rw [← hRR] at NX HSR
      clear hRR
      obtain ⟨⟨sk, st, sf, sd⟩, rc⟩ := RR
      unfold soV at HSR
      dsimp only at NX HSR
      go_wp2_with fail
      refine (HTX.out wr XR.out).mono ?_
      clear HTX
      rintro e w5 ⟨rfl, hx, hg⟩
      have g5 := hg.size
      have hbl : ∀ kk, blk (.slice a3' l.length c3') l.length = some kk → WL.heap.size ≤ kk := fun kk h => (G.out.own.blk kk h).1
      have HBL := Lib.hid hbl
      replace XR := Lib.hid hx
      replace XP := Lib.hid (XP.out.grown hg (by simp; omega))
      replace Y := Lib.hid (Y.out.grown hg (by simp; omega))
      replace B := Lib.hid (below_gr B.out hg B.out.size (by omega))
      replace G := Lib.hid (G.out.two (two_left (d := none) hg) (fun kk hkk => ⟨fun e => by have := HBL.out kk hkk; have := Option.some.inj e; omega, by simp⟩))
      clear hx hg hbl
      go_wp2_with fail
      refine (HSR.out w5).mono ?_
      clear HSR
      rintro e w6 ⟨rfl, hb⟩
      have g6 := hb.size
      have bz := below_alloc1 w6 (.cells #[.int .i64 sk, .int .i64 st, .int .i64 sf, .string sd, .int .i64 rc] 61)
      have hbb := below_more hb bz
      have XS := Lib.hid (bx_new w6 61 #[.int .i64 sk, .int .i64 st, .int .i64 sf, .string sd, .int .i64 rc])
      have s6 := size_alloc1 w6 (.cells #[.int .i64 sk, .int .i64 st, .int .i64 sf, .string sd, .int .i64 rc] 61)
      replace XR := Lib.hid (XR.out.next hbb)
      replace XP := Lib.hid (XP.out.next hbb)
      replace Y := Lib.hid (Y.out.next hbb)
      replace B := Lib.hid (below_more B.out hbb)
      replace G := Lib.hid (G.out.below hbb (Nat.le_refl _))
      clear hb bz hbb
      have r2 := XR.out.t2
      have rf := XR.out.frozen 2
      obtain ⟨v0, v1, v2, v3, v4⟩ := XS.out.s0
      have hpw6 : p ≠ w6.heap.size := by omega
      cases tb with
      | true =>
        have g56 := g5
        have XS' := Lib.hid (XS.out.other ⟨p, 2, none⟩ (.bool true) (by simp; omega))
        obtain ⟨x0, x1, x2, x3, -⟩ := XS'.out.s0
        replace XR := Lib.hid (show Bx ((w6.alloc (.cells #[.int .i64 sk, .int .i64 st, .int .i64 sf, .string sd, .int .i64 rc] 61)).setCell ⟨p, 2, none⟩ (.bool true)) p 55 #[.string t, .int .i64 tq, .bool true] by simpa using XR.out.set (j := 2) (.bool true))
        replace XP := Lib.hid (XP.out.other ⟨p, 2, none⟩ (.bool true) (by simp; omega))
        replace Y := Lib.hid (Y.out.other ⟨p, 2, none⟩ (.bool true) (by simp; omega))
        replace B := Lib.hid (B.out.setCell (p := ⟨p, 2, none⟩) (by simp; omega) (.bool true))
        replace G := Lib.hid (G.out.low ⟨p, 2, none⟩ (.bool true) (by simp; omega))
        have q2 := XP.out.t2
        have hll : l.length ≤ 20 := by have := LEN.out; omega
        have hW : ((w6.alloc (.cells #[.int .i64 sk, .int .i64 st, .int .i64 sf, .string sd, .int .i64 rc] 61)).setCell ⟨p, 2, none⟩ (.bool true)).heap.size = w6.heap.size + 1 := by rw [← s6]; simp
        have HW := Lib.hid hW
        clear hW
        go_wp2_with ((with_reducible show wpList _ _ _ (⟨some 65, _, _, _, _, _⟩ :: _) _ _); refine wpList_append_gr (lo := WL.heap.size) (e := 59) (sz := 4) (v := .slice a3' l.length c3') (n := l.length) (xs := stpCs l) rfl (.tmp 61) (.tmp 64) 22 rfl i0 _ 40 Tryz.underlying22 hi hz0 hz1 hz2 rfl (by decide) rfl (by rw [stpCs_length]) ?_ ⟨w6.heap.size + 1, 0, none⟩ 1 1 rfl [.int .i64 sk, .int .i64 st, .int .i64 sf, .string sd] (by decide) rfl ?_ ?_ (by unfold maxLen; omega) (by omega) (by simp; omega) ?_)
        · exact G.out.below (below_alloc1 _ _) (Nat.le_refl _)
        · have h9 := four_new ((w6.alloc (.cells #[.int .i64 sk, .int .i64 st, .int .i64 sf, .string sd, .int .i64 rc] 61)).setCell ⟨p, 2, none⟩ (.bool true)) (.int .i64 sk) (.int .i64 st) (.int .i64 sf) (.string sd) 59
          rw [HW.out] at h9
          exact h9
        · intro u hu; simp at hu; rcases hu with rfl | rfl | rfl | rfl <;> rfl
        · intro gg cc w8 hgn hgr hloc
          clear x0 x1 x2 x3 q2 v0 v1 v2 v3 v4 r2 rf
          have b7 := below_alloc1 ((w6.alloc (.cells #[.int .i64 sk, .int .i64 st, .int .i64 sf, .string sd, .int .i64 rc] 61)).setCell ⟨p, 2, none⟩ (.bool true)) (.cells #[.int .i64 sk, .int .i64 st, .int .i64 sf, .string sd] 59)
          have s7 := b7.size
          have neP : some nP ≠ blk (.slice a3' l.length c3') l.length := fun e => by have := HBL.out nP e.symm; omega
          have neR : some p ≠ blk (.slice a3' l.length c3') l.length := fun e => by have := HBL.out p e.symm; omega
          have neY : some w.heap.size ≠ blk (.slice a3' l.length c3') l.length := fun e => by have := HBL.out _ e.symm; omega
          have xp8 := (XP.out.next b7).grown hgr neP
          have R8 := Lib.hid (((XR.out.next b7).grown hgr neR).other ⟨nP, 2, none⟩ (.slice (some ⟨gg, 0, none⟩) (l.length + 1) cc) (by simp; omega))
          have Y8 := Lib.hid (((Y.out.next b7).grown hgr neY).other ⟨nP, 2, none⟩ (.slice (some ⟨gg, 0, none⟩) (l.length + 1) cc) (by simp; omega))
          have B8 := Lib.hid (((B.out.trans (b7.mono B.out.size)).grown hgr (by have := HW.out; omega) (fun kk hkk => by have := HBL.out kk hkk; omega)).setCell (p := ⟨nP, 2, none⟩) (by simp; omega) (.slice (some ⟨gg, 0, none⟩) (l.length + 1) cc))
          have G8 := Lib.hid (hgn.low ⟨nP, 2, none⟩ (.slice (some ⟨gg, 0, none⟩) (l.length + 1) cc) (by first | exact hnL | (simp; done) | (simp; omega)))
          have hsz8 := hgr.size
          obtain ⟨⟨u0, u1, u2⟩, f0, f1, f2⟩ := xp8.k3
          have X8 := Lib.hid (show Bx (w8.setCell ⟨nP, 2, none⟩ (.slice (some ⟨gg, 0, none⟩) (l.length + 1) cc)) nP 24 #[.int .i64 K1.1, .string K2.1, .slice (some ⟨gg, 0, none⟩) (l.length + 1) cc] by simpa using xp8.set (j := 2) (.slice (some ⟨gg, 0, none⟩) (l.length + 1) cc))
          have m1 : IntKind.i64.wrap ((k : Int) + 1) = (k : Int) + 1 := IntWalk.i64_in _ (by omega)
          have m2 : wrap64 ((k : Int) + 1) = (k : Int) + 1 := IntWalk.wrap64_in _ (by omega)
          have hsz9 : WL.heap.size ≤ w8.heap.size := by have := HW.out; omega
          clear hgn hgr hloc b7 xp8
          go_wp2_with fail
          go_roundw
          case rel =>
            have nx : kS t (k + 1) = (l ++ [(sk, st, sf, sd)], tq, true) := by rw [NX.out]; by_cases h : rc = 0 <;> simp [h]
            have fin : SpRel t w WL p nP K1.1 K2.1 (.int .i64 ((k : Int) + 1)) (w8.setCell ⟨nP, 2, none⟩ (.slice (some ⟨gg, 0, none⟩) (l.length + 1) cc)) := by
              refine ⟨k + 1, .slice (some ⟨gg, 0, none⟩) (l.length + 1) cc, lt20 e1, .inl ?_, congrArg (Value.int .i64) (nat1 k), ?_, (by rw [nx]; dsimp only; exact tl), X8.out, ?_, Y8.out, B8.out, (Nat.le_trans hsz9 (Nat.le_of_eq (by simp)))⟩
              · rw [← HNE.out]; exact ltn e0
              · rw [nx, H3B.out]
                dsimp only
                rw [Bool.false_or]
                exact R8.out
              · rw [nx]
                dsimp only
                rw [stpCs_snoc, List.length_append]
                exact G8.out
            first | exact fin | ((repeat apply Exists.intro); exact ⟨fin, rfl⟩)
          case measure => exact meas20 e1
      | false =>
        have g56 := g5
        have XS' := Lib.hid (XS.out.other ⟨p, 2, none⟩ (.bool (rc != 0)) (by simp; omega))
        obtain ⟨x0, x1, x2, x3, -⟩ := XS'.out.s0
        replace XR := Lib.hid (show Bx ((w6.alloc (.cells #[.int .i64 sk, .int .i64 st, .int .i64 sf, .string sd, .int .i64 rc] 61)).setCell ⟨p, 2, none⟩ (.bool (rc != 0))) p 55 #[.string t, .int .i64 tq, .bool (rc != 0)] by simpa using XR.out.set (j := 2) (.bool (rc != 0)))
        replace XP := Lib.hid (XP.out.other ⟨p, 2, none⟩ (.bool (rc != 0)) (by simp; omega))
        replace Y := Lib.hid (Y.out.other ⟨p, 2, none⟩ (.bool (rc != 0)) (by simp; omega))
        replace B := Lib.hid (B.out.setCell (p := ⟨p, 2, none⟩) (by simp; omega) (.bool (rc != 0)))
        replace G := Lib.hid (G.out.low ⟨p, 2, none⟩ (.bool (rc != 0)) (by simp; omega))
        have q2 := XP.out.t2
        have hll : l.length ≤ 20 := by have := LEN.out; omega
        have hW : ((w6.alloc (.cells #[.int .i64 sk, .int .i64 st, .int .i64 sf, .string sd, .int .i64 rc] 61)).setCell ⟨p, 2, none⟩ (.bool (rc != 0))).heap.size = w6.heap.size + 1 := by rw [← s6]; simp
        have HW := Lib.hid hW
        clear hW
        go_wp2_with ((with_reducible show wpList _ _ _ (⟨some 65, _, _, _, _, _⟩ :: _) _ _); refine wpList_append_gr (lo := WL.heap.size) (e := 59) (sz := 4) (v := .slice a3' l.length c3') (n := l.length) (xs := stpCs l) rfl (.tmp 61) (.tmp 64) 22 rfl i0 _ 40 Tryz.underlying22 hi hz0 hz1 hz2 rfl (by decide) rfl (by rw [stpCs_length]) ?_ ⟨w6.heap.size + 1, 0, none⟩ 1 1 rfl [.int .i64 sk, .int .i64 st, .int .i64 sf, .string sd] (by decide) rfl ?_ ?_ (by unfold maxLen; omega) (by omega) (by simp; omega) ?_)
        · exact G.out.below (below_alloc1 _ _) (Nat.le_refl _)
        · have h9 := four_new ((w6.alloc (.cells #[.int .i64 sk, .int .i64 st, .int .i64 sf, .string sd, .int .i64 rc] 61)).setCell ⟨p, 2, none⟩ (.bool (rc != 0))) (.int .i64 sk) (.int .i64 st) (.int .i64 sf) (.string sd) 59
          rw [HW.out] at h9
          exact h9
        · intro u hu; simp at hu; rcases hu with rfl | rfl | rfl | rfl <;> rfl
        · intro gg cc w8 hgn hgr hloc
          clear x0 x1 x2 x3 q2 v0 v1 v2 v3 v4 r2 rf
          have b7 := below_alloc1 ((w6.alloc (.cells #[.int .i64 sk, .int .i64 st, .int .i64 sf, .string sd, .int .i64 rc] 61)).setCell ⟨p, 2, none⟩ (.bool (rc != 0))) (.cells #[.int .i64 sk, .int .i64 st, .int .i64 sf, .string sd] 59)
          have s7 := b7.size
          have neP : some nP ≠ blk (.slice a3' l.length c3') l.length := fun e => by have := HBL.out nP e.symm; omega
          have neR : some p ≠ blk (.slice a3' l.length c3') l.length := fun e => by have := HBL.out p e.symm; omega
          have neY : some w.heap.size ≠ blk (.slice a3' l.length c3') l.length := fun e => by have := HBL.out _ e.symm; omega
          have xp8 := (XP.out.next b7).grown hgr neP
          have R8 := Lib.hid (((XR.out.next b7).grown hgr neR).other ⟨nP, 2, none⟩ (.slice (some ⟨gg, 0, none⟩) (l.length + 1) cc) (by simp; omega))
          have Y8 := Lib.hid (((Y.out.next b7).grown hgr neY).other ⟨nP, 2, none⟩ (.slice (some ⟨gg, 0, none⟩) (l.length + 1) cc) (by simp; omega))
          have B8 := Lib.hid (((B.out.trans (b7.mono B.out.size)).grown hgr (by have := HW.out; omega) (fun kk hkk => by have := HBL.out kk hkk; omega)).setCell (p := ⟨nP, 2, none⟩) (by simp; omega) (.slice (some ⟨gg, 0, none⟩) (l.length + 1) cc))
          have G8 := Lib.hid (hgn.low ⟨nP, 2, none⟩ (.slice (some ⟨gg, 0, none⟩) (l.length + 1) cc) (by first | exact hnL | (simp; done) | (simp; omega)))
          have hsz8 := hgr.size
          obtain ⟨⟨u0, u1, u2⟩, f0, f1, f2⟩ := xp8.k3
          have X8 := Lib.hid (show Bx (w8.setCell ⟨nP, 2, none⟩ (.slice (some ⟨gg, 0, none⟩) (l.length + 1) cc)) nP 24 #[.int .i64 K1.1, .string K2.1, .slice (some ⟨gg, 0, none⟩) (l.length + 1) cc] by simpa using xp8.set (j := 2) (.slice (some ⟨gg, 0, none⟩) (l.length + 1) cc))
          have m1 : IntKind.i64.wrap ((k : Int) + 1) = (k : Int) + 1 := IntWalk.i64_in _ (by omega)
          have m2 : wrap64 ((k : Int) + 1) = (k : Int) + 1 := IntWalk.wrap64_in _ (by omega)
          have hsz9 : WL.heap.size ≤ w8.heap.size := by have := HW.out; omega
          clear hgn hgr hloc b7 xp8
          go_wp2_with fail
          go_roundw
          case rel =>
            have nx : kS t (k + 1) = (l ++ [(sk, st, sf, sd)], tq, (rc != 0)) := by rw [NX.out]; by_cases h : rc = 0 <;> simp [h]
            have fin : SpRel t w WL p nP K1.1 K2.1 (.int .i64 ((k : Int) + 1)) (w8.setCell ⟨nP, 2, none⟩ (.slice (some ⟨gg, 0, none⟩) (l.length + 1) cc)) := by
              refine ⟨k + 1, .slice (some ⟨gg, 0, none⟩) (l.length + 1) cc, lt20 e1, .inl ?_, congrArg (Value.int .i64) (nat1 k), ?_, (by rw [nx]; dsimp only; exact tl), X8.out, ?_, Y8.out, B8.out, (Nat.le_trans hsz9 (Nat.le_of_eq (by simp)))⟩
              · rw [← HNE.out]; exact ltn e0
              · rw [nx, H3B.out]
                dsimp only
                rw [Bool.false_or]
                exact R8.out
              · rw [nx]
                dsimp only
                rw [stpCs_snoc, List.length_append]
                exact G8.out
            first | exact fin | ((repeat apply Exists.intro); exact ⟨fin, rfl⟩)
          case measure => exact meas20 e1
    · have hend : bad = true ∨ ¬ ((k : Int) < n ∧ (k : Int) < 20) := by
        cases bad with
        | true => exact .inl rfl
        | false => exact .inr (fun h => hrun ⟨h.1, h.2, rfl⟩)
      have END := CMP.out k bad HBE.out (by rw [← HNE.out]; exact hkn) hk (by rw [← HNE.out]; exact hend)
      rw [RD.out k] at END
      have LEN2 := LEN.out
      obtain ⟨S, hS⟩ : ∃ S, S = kS t k := ⟨_, rfl⟩
      rw [← hS] at XP G LEN2 END XR
      clear hS CMP LEN
      obtain ⟨l, at', bd⟩ := S
      dsimp only at XP G LEN2 END XR
      have MB := Lib.hid (fun w h => specPkBytes (K1.1, K2.1, l) (.slice a3' l.length c3') w h (by show l.length ≤ _; omega))
      obtain ⟨M, hM⟩ : ∃ M, M = pkBytes (K1.1, K2.1, l) := ⟨_, rfl⟩
      rw [← hM] at END MB
      unfold pkV at MB
      dsimp only at MB
      replace END := Lib.hid END
      clear hM LEN2
      obtain ⟨⟨p0, p1, p2⟩, -⟩ := XP.out.k3
      by_cases hkn2 : (k : Int) < n
      · have e0 : decide ((k : Int) < n) = true := decide_eq_true hkn2
        by_cases hk2 : (k : Int) < 20
        · obtain rfl : bad = true := hend.resolve_right (fun h => h ⟨hkn2, hk2⟩)
          clear hrun hend
          have hr := END.out.trans (if_neg (fun h => by cases h.1))
          have HRR := Lib.hid hr
          clear END hr
          go_wp2_with fail
          refine (specIll8 3 _).mono ?_
          rintro e w5 ⟨rfl, hb⟩
          replace Y := Lib.hid (Y.out.next hb)
          replace B := Lib.hid (below_more B.out hb)
          clear hb
          obtain ⟨⟨y0, y1, y2, y3⟩, f0, f1, f2, f3⟩ := Y.out.k4
          go_wp2_with fail
          refine bodyPost_ret (v := .agg #[.int .i64 0, .string { data := #[] }, .slice none 0 0, .int .i64 3]) (by simp [results, Tryz.results5, go_sem, y0, y1, y2, y3]) rfl ⟨.slice none 0 0, by rw [HRR.out]; rfl, by rw [HRR.out]; exact Gr.nil _ _ _ _, ?_⟩
          exact four_setK B.out _ _ _ _
        · have e1 : decide ((k : Int) < 20) = false := decide_eq_false hk2
          clear hrun hend
          cases bad with
          | true =>
            have hr := END.out.trans (if_neg (fun h => by cases h.1))
            have HRR := Lib.hid hr
            clear END hr
            go_wp2_with fail
            refine (specIll8 3 _).mono ?_
            rintro e w5 ⟨rfl, hb⟩
            replace Y := Lib.hid (Y.out.next hb)
            replace B := Lib.hid (below_more B.out hb)
            clear hb
            obtain ⟨⟨y0, y1, y2, y3⟩, f0, f1, f2, f3⟩ := Y.out.k4
            go_wp2_with fail
            refine bodyPost_ret (v := .agg #[.int .i64 0, .string { data := #[] }, .slice none 0 0, .int .i64 3]) (by simp [results, Tryz.results5, go_sem, y0, y1, y2, y3]) rfl ⟨.slice none 0 0, by rw [HRR.out]; rfl, by rw [HRR.out]; exact Gr.nil _ _ _ _, ?_⟩
            exact four_setK B.out _ _ _ _
          | false =>
            go_wp2_with fail
            refine (MB.out wr G.out.own.rd).mono ?_
            rintro e w5 ⟨rfl, hb⟩
            replace Y := Lib.hid (Y.out.next hb)
            replace B := Lib.hid (below_more B.out hb)
            replace XP := Lib.hid (XP.out.next hb)
            replace G := Lib.hid (G.out.below hb (Nat.le_refl _))
            clear hb p0 p1 p2
            cases hm : (M.toList == s.toList) with
            | true =>
              have dm : (M.toList != s.toList) = false := by simp [bne, hm]
              have hr := END.out.trans (if_pos (by first | exact ⟨rfl, hm⟩ | exact ⟨trivial, hm⟩ | exact hm))
              have HRR := Lib.hid hr
              clear END hr
              obtain ⟨⟨y0, y1, y2, y3⟩, f0, f1, f2, f3⟩ := Y.out.k4
              obtain ⟨⟨p0, p1, p2⟩, -⟩ := XP.out.k3
              go_wp2_with fail
              refine bodyPost_ret (v := .agg #[.int .i64 K1.1, .string K2.1, .slice a3' l.length c3', .int .i64 0]) (by simp [results, Tryz.results5, go_sem, y0, y1, y2, y3]) rfl ⟨.slice a3' l.length c3', by rw [HRR.out]; rfl, ?_, ?_⟩
              · rw [HRR.out]
                exact ((((G.out.low ⟨w.heap.size, 0, none⟩ _ (by simp; omega)).low ⟨w.heap.size, 1, none⟩ _ (by simp; omega)).low ⟨w.heap.size, 2, none⟩ _ (by simp; omega)).low ⟨w.heap.size, 3, none⟩ _ (by simp; omega)).lower (by omega)
              · exact four_setK B.out _ _ _ _
            | false =>
              have dm : (M.toList != s.toList) = true := by simp [bne, hm]
              have hr := END.out.trans (if_neg (fun h => by rw [hm] at h; cases h.2))
              have HRR := Lib.hid hr
              clear END hr
              go_wp2_with fail
              refine (specIll8 3 _).mono ?_
              rintro e w6 ⟨rfl, hb⟩
              replace Y := Lib.hid (Y.out.next hb)
              replace B := Lib.hid (below_more B.out hb)
              clear hb
              obtain ⟨⟨y0, y1, y2, y3⟩, f0, f1, f2, f3⟩ := Y.out.k4
              go_wp2_with fail
              refine bodyPost_ret (v := .agg #[.int .i64 0, .string { data := #[] }, .slice none 0 0, .int .i64 3]) (by simp [results, Tryz.results5, go_sem, y0, y1, y2, y3]) rfl ⟨.slice none 0 0, by rw [HRR.out]; rfl, by rw [HRR.out]; exact Gr.nil _ _ _ _, ?_⟩
              exact four_setK B.out _ _ _ _
      · have e0 : decide ((k : Int) < n) = false := decide_eq_false hkn2
        clear hrun hend
        cases bad with
        | true =>
          have hr := END.out.trans (if_neg (fun h => by cases h.1))
          have HRR := Lib.hid hr
          clear END hr
          go_wp2_with fail
          refine (specIll8 3 _).mono ?_
          rintro e w5 ⟨rfl, hb⟩
          replace Y := Lib.hid (Y.out.next hb)
          replace B := Lib.hid (below_more B.out hb)
          clear hb
          obtain ⟨⟨y0, y1, y2, y3⟩, f0, f1, f2, f3⟩ := Y.out.k4
          go_wp2_with fail
          refine bodyPost_ret (v := .agg #[.int .i64 0, .string { data := #[] }, .slice none 0 0, .int .i64 3]) (by simp [results, Tryz.results5, go_sem, y0, y1, y2, y3]) rfl ⟨.slice none 0 0, by rw [HRR.out]; rfl, by rw [HRR.out]; exact Gr.nil _ _ _ _, ?_⟩
          exact four_setK B.out _ _ _ _
        | false =>
          go_wp2_with fail
          refine (MB.out wr G.out.own.rd).mono ?_
          rintro e w5 ⟨rfl, hb⟩
          replace Y := Lib.hid (Y.out.next hb)
          replace B := Lib.hid (below_more B.out hb)
          replace XP := Lib.hid (XP.out.next hb)
          replace G := Lib.hid (G.out.below hb (Nat.le_refl _))
          clear hb p0 p1 p2
          cases hm : (M.toList == s.toList) with
          | true =>
            have dm : (M.toList != s.toList) = false := by simp [bne, hm]
            have hr := END.out.trans (if_pos (by first | exact ⟨rfl, hm⟩ | exact ⟨trivial, hm⟩ | exact hm))
            have HRR := Lib.hid hr
            clear END hr
            obtain ⟨⟨y0, y1, y2, y3⟩, f0, f1, f2, f3⟩ := Y.out.k4
            obtain ⟨⟨p0, p1, p2⟩, -⟩ := XP.out.k3
            go_wp2_with fail
            refine bodyPost_ret (v := .agg #[.int .i64 K1.1, .string K2.1, .slice a3' l.length c3', .int .i64 0]) (by simp [results, Tryz.results5, go_sem, y0, y1, y2, y3]) rfl ⟨.slice a3' l.length c3', by rw [HRR.out]; rfl, ?_, ?_⟩
            · rw [HRR.out]
              exact ((((G.out.low ⟨w.heap.size, 0, none⟩ _ (by simp; omega)).low ⟨w.heap.size, 1, none⟩ _ (by simp; omega)).low ⟨w.heap.size, 2, none⟩ _ (by simp; omega)).low ⟨w.heap.size, 3, none⟩ _ (by simp; omega)).lower (by omega)
            · exact four_setK B.out _ _ _ _
          | false =>
            have dm : (M.toList != s.toList) = true := by simp [bne, hm]
            have hr := END.out.trans (if_neg (fun h => by rw [hm] at h; cases h.2))
            have HRR := Lib.hid hr
            clear END hr
            go_wp2_with fail
            refine (specIll8 3 _).mono ?_
            rintro e w6 ⟨rfl, hb⟩
            replace Y := Lib.hid (Y.out.next hb)
            replace B := Lib.hid (below_more B.out hb)
            clear hb
            obtain ⟨⟨y0, y1, y2, y3⟩, f0, f1, f2, f3⟩ := Y.out.k4
            go_wp2_with fail
            refine bodyPost_ret (v := .agg #[.int .i64 0, .string { data := #[] }, .slice none 0 0, .int .i64 3]) (by simp [results, Tryz.results5, go_sem, y0, y1, y2, y3]) rfl ⟨.slice none 0 0, by rw [HRR.out]; rfl, by rw [HRR.out]; exact Gr.nil _ _ _ _, ?_⟩
            exact four_setK B.out _ _ _ _
end Go.Proofs.YtcpblmpapkhppaaGreatDoor
