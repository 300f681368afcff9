/- The program's packageIn. -/
import Derived.Test.YtcpblmpapkhppaaGreatDoorKIn0
namespace Go.Proofs.YtcpblmpapkhppaaGreatDoor
open Go.RowKit

set_option maxRecDepth 100000 in
set_option maxHeartbeats 8000000 in
theorem packageIn_any (t : ByteArray) (a : Nat → Addr) (w : World) (hs : t.size ≤ maxLen) (hL : Laid w) (hE : Sent w pkG a) :
    Calls Tryz.prog 75 #[.string t] w (PkIn a t w) := by
  obtain ⟨i0, hi, hz0, hz1, hz2⟩ := info_parts Tryz.infostp
  have HG1 := Lib.hid (fun w hL => implGet_any t 0 w hs (by decide) hL)
  have a1 := getR_at t 0 hs
  have HT := Lib.hid (fun w hL => implTextR t (getR t 0).2.1 w hs (by omega) hL)
  have a2 := textR_at t (getR t 0).2.1 hs
  have HG3 := Lib.hid (fun w hL => implGet_any t (textR t (getR t 0).2.1).2.1 w hs (by omega) hL)
  have a3 := getR_at t (textR t (getR t 0).2.1).2.1 hs
  have OKH := Lib.hid (@hdr_ok t)
  have BADH := Lib.hid (@hdr_bad t)
  obtain ⟨N1, hN1⟩ : ∃ N1, N1 = getR t 0 := ⟨_, rfl⟩
  rw [← hN1] at HG1 HT HG3 OKH BADH a2 a3
  obtain ⟨TT, hTT⟩ : ∃ TT, TT = textR t N1.2.1 := ⟨_, rfl⟩
  rw [← hTT] at HT HG3 OKH BADH a2 a3
  obtain ⟨N3, hN3⟩ : ∃ N3, N3 = getR t TT.2.1 := ⟨_, rfl⟩
  rw [← hN3] at HG3 OKH BADH a3
  clear hN1 hTT hN3 a1 a2
  obtain ⟨n1, q1, c1⟩ := N1
  obtain ⟨d, q2, c2⟩ := TT
  obtain ⟨n3, q3, c3⟩ := N3
  unfold numV at HG1 HG3
  unfold textV at HT
  dsimp only at HG1 HT HG3 OKH BADH a3
  have HL := Lib.hid hL
  have HE := Lib.hid hE
  have HS := Lib.hid hs
  clear hL hE hs
  have Y := Lib.hid (bx_new w 24 #[.int .i64 0, .string { data := #[] }, .slice none 0 0])
  have B := Lib.hid (below_alloc1 w (.cells #[.int .i64 0, .string { data := #[] }, .slice none 0 0] 24))
  have z0 := size_alloc1 w (.cells #[.int .i64 0, .string { data := #[] }, .slice none 0 0] 24)
  go_enter Tryz.func75, Tryz.ntmps75
  go_wp2_with fail
  generalize w.alloc (.cells #[.int .i64 0, .string { data := #[] }, .slice none 0 0] 24) = W0 at *
  refine (HG1.out W0 (HL.out.below B.out)).mono ?_
  rintro e w1 ⟨rfl, hb⟩
  have bz := below_alloc1 w1 (.cells #[.int .i64 n1, .int .i64 q1, .int .i64 c1] 94)
  have hbb := below_more hb bz
  have g1 := hb.size
  have X1 := Lib.hid (bx_new w1 94 #[.int .i64 n1, .int .i64 q1, .int .i64 c1])
  have s1 := size_alloc1 w1 (.cells #[.int .i64 n1, .int .i64 q1, .int .i64 c1] 94)
  replace Y := Lib.hid (Y.out.next hbb)
  replace B := Lib.hid (below_more B.out hbb)
  clear hb bz hbb HG1
  have r1 := X1.out.t1
  go_wp2_with fail
  clear r1
  generalize w1.alloc (.cells #[.int .i64 n1, .int .i64 q1, .int .i64 c1] 94) = W1 at *
  refine (HT.out W1 (HL.out.below B.out)).mono ?_
  rintro e w2 ⟨rfl, hb⟩
  have bz := below_alloc1 w2 (.cells #[.string d, .int .i64 q2, .int .i64 c2] 50)
  have hbb := below_more hb bz
  have g2 := hb.size
  have X2 := Lib.hid (bx_new w2 50 #[.string d, .int .i64 q2, .int .i64 c2])
  have s2 := size_alloc1 w2 (.cells #[.string d, .int .i64 q2, .int .i64 c2] 50)
  replace Y := Lib.hid (Y.out.next hbb)
  replace X1 := Lib.hid (X1.out.next hbb)
  replace B := Lib.hid (below_more B.out hbb)
  clear hb bz hbb HT
  have r1 := X2.out.t1
  go_wp2_with fail
  clear r1
  generalize w2.alloc (.cells #[.string d, .int .i64 q2, .int .i64 c2] 50) = W2 at *
  refine (HG3.out W2 (HL.out.below B.out)).mono ?_
  rintro e w3 ⟨rfl, hb⟩
  have bz := below_alloc1 w3 (.cells #[.int .i64 n3, .int .i64 q3, .int .i64 c3] 94)
  have hbb := below_more hb bz
  have g3 := hb.size
  have X3 := Lib.hid (bx_new w3 94 #[.int .i64 n3, .int .i64 q3, .int .i64 c3])
  have s3 := size_alloc1 w3 (.cells #[.int .i64 n3, .int .i64 q3, .int .i64 c3] 94)
  replace Y := Lib.hid (Y.out.next hbb)
  replace X1 := Lib.hid (X1.out.next hbb)
  replace X2 := Lib.hid (X2.out.next hbb)
  replace B := Lib.hid (below_more B.out hbb)
  clear hb bz hbb HG3
  have r1 := X1.out.t2
  have r2 := X2.out.t2
  have r3 := X3.out.t2
  go_wp2_with fail
  clear r1 r2 r3
  generalize w3.alloc (.cells #[.int .i64 n3, .int .i64 q3, .int .i64 c3] 94) = W3 at *
  have hco := cmpOr3 c1 c2 c3 W3
  rw [s3] at hco
  refine hco.mono ?_
  clear hco
  rintro e w4 ⟨rfl, hw4⟩
  have hbb : Below W3.heap.size W3 w4 := hw4 ▸ below_alloc1 W3 _
  have g4 := hbb.size
  replace Y := Lib.hid (Y.out.next hbb)
  replace X1 := Lib.hid (X1.out.next hbb)
  replace X2 := Lib.hid (X2.out.next hbb)
  replace X3 := Lib.hid (X3.out.next hbb)
  replace B := Lib.hid (below_more B.out hbb)
  clear hbb hw4
  have m1 : w1.heap.size ≠ w.heap.size := by omega
  have m2 : w2.heap.size ≠ w.heap.size := by omega
  have m3 : w3.heap.size ≠ w.heap.size := by omega
  have m4 : w.heap.size + 1 ≤ w4.heap.size := by omega
  generalize w1.heap.size = b1 at *
  generalize w2.heap.size = b2 at *
  generalize w3.heap.size = b3 at *
  clear g1 g2 g3 g4 s1 s2 s3 z0
  obtain ⟨⟨y0, y1, y2⟩, f0, f1, f2⟩ := Y.out.k3
  obtain ⟨C, hC⟩ : ∃ C, C = or3 c1 c2 c3 := ⟨_, rfl⟩
  rw [← hC]
  by_cases hc : C = 0
  rotate_left
  · have hno := BADH.out (or3_no (by rw [← hC]; exact hc))
    have d1 : (C != 0) = true := by simpa using hc
    clear hC BADH OKH
    go_wp2_with fail
    refine bodyPost_ret (v := .tuple #[.agg #[.int .i64 0, .string { data := #[] }, .slice none 0 0], .iface 130 (.agg #[.int .i64 C])]) (by simp [results, Tryz.results75, go_sem, y0, y1, y2]) rfl (.inr ⟨hno, _, _, .inl ⟨C, rfl⟩, rfl, ?_⟩)
    exact three_setK B.out (Nat.le_refl _) _ _ _
  obtain ⟨hc1, hc2, hc3⟩ := or3_zero (by rw [← hC]; exact hc)
  obtain ⟨e1, e2, e3⟩ := OKH.out hc1 hc2 hc3
  subst hc
  have E1 := Lib.hid e1
  have E2 := Lib.hid e2
  have E3 := Lib.hid e3
  clear hC BADH OKH e1 e2 e3 hc1 hc2 hc3
  have x30 := X3.out.t0
  by_cases hn : n3 < 0 ∨ 20 < n3
  · have hno : ¬ pkGood t := fun h => by
      have := h.2.1
      rw [E3.out] at this
      dsimp only at this
      omega
    have p3 := (HE.out.next B.out).s3
    have p3' : (((w4.setCell ⟨w.heap.size, 0, none⟩ (.int .i64 0)).setCell ⟨w.heap.size, 1, none⟩ (.string { data := #[] })).setCell ⟨w.heap.size, 2, none⟩ (.slice none 0 0)).cell? ⟨3, 0, none⟩ = some (.iface 221 (.pointer (some (a 3)))) := by
      have hgl : 3 < w.heap.size := cell_lt HE.out.s3
      rw [World.cell?_setCell_other (h := by first | (simp; done) | (simp; omega)), World.cell?_setCell_other (h := by first | (simp; done) | (simp; omega)), World.cell?_setCell_other (h := by first | (simp; done) | (simp; omega))]; exact p3
    have OD := Lib.hid (show OddE a (.iface 221 (.pointer (some (a 3)))) from .inr (.inl ⟨3, by omega, by omega, rfl⟩))
    rcases hn with hn | hn
    · have d2 : decide (n3 < 0) = true := decide_eq_true hn
      go_wp2_with fail
      go_region
      all_goals (
        go_wp2_with fail
        refine bodyPost_ret (v := .tuple #[.agg #[.int .i64 0, .string { data := #[] }, .slice none 0 0], .iface 221 (.pointer (some (a 3)))]) (by simp [results, Tryz.results75, go_sem, y0, y1, y2]) rfl (.inr ⟨hno, _, _, OD.out, rfl, ?_⟩)
        first | exact three_setK B.out (Nat.le_refl _) _ _ _ | exact three_setK B.out.drew (Nat.le_refl _) _ _ _ | exact (three_setK B.out (Nat.le_refl _) _ _ _).drew)
    · have d2 : decide (n3 < 0) = false := decide_eq_false (by omega)
      have d3 : decide (20 < n3) = true := decide_eq_true hn
      go_wp2_with fail
      go_region
      all_goals (
        go_wp2_with fail
        refine bodyPost_ret (v := .tuple #[.agg #[.int .i64 0, .string { data := #[] }, .slice none 0 0], .iface 221 (.pointer (some (a 3)))]) (by simp [results, Tryz.results75, go_sem, y0, y1, y2]) rfl (.inr ⟨hno, _, _, OD.out, rfl, ?_⟩)
        first | exact three_setK B.out (Nat.le_refl _) _ _ _ | exact three_setK B.out.drew (Nat.le_refl _) _ _ _ | exact (three_setK B.out (Nat.le_refl _) _ _ _).drew)
  have d2 : decide (n3 < 0) = false := decide_eq_false (by omega)
  have d3 : decide (20 < n3) = false := decide_eq_false (by omega)
  obtain ⟨n, rfl⟩ : ∃ n : Nat, n3 = (n : Int) := ⟨n3.toNat, by omega⟩
  have hn20 : n ≤ 20 := by omega
  clear hn y0 y1 y2 f0 f1 f2
  have bz := below_alloc1 w4 (.cells #[.int .i64 n1, .string d, .slice none 0 0] 24)
  have XP := Lib.hid (bx_new w4 24 #[.int .i64 n1, .string d, .slice none 0 0])
  have x10 := X1.out.t0
  have x20 := X2.out.t0
  have x31 := (X3.out.next bz).t1
  have x30' := (X3.out.next bz).t0
  replace Y := Lib.hid (Y.out.next bz)
  replace B := Lib.hid (below_more B.out bz)
  have sz := size_alloc1 w4 (.cells #[.int .i64 n1, .string d, .slice none 0 0] 24)
  clear bz
  go_wp2_with fail
  clear x10 x20 x31 x30 x30' d2 d3 X1 X2 X3
  generalize hWL : w4.alloc (.cells #[.int .i64 n1, .string d, .slice none 0 0] 24) = WL at *
  clear hWL
  have mP : w4.heap.size ≠ w.heap.size := by omega
  have mP2 : w4.heap.size < WL.heap.size := by omega
  have mY : w.heap.size < WL.heap.size := by omega
  clear sz
  generalize w4.heap.size = nP at *
  go_loopw [9, 56] (fun x i wr => InRel t w WL nP n1 d n x i wr) (fun _ i _ => n - (intOf i).toNat)
  case atStart =>
    refine ⟨0, .slice none 0 0, by omega, rfl, ?_, rfl, ?_, XP.out, Gr.nil _ _ _ _, Y.out, B.out, Nat.le_refl _⟩
    · show _ = Value.int .i64 (k3 t).2.1
      rw [E3.out]
    · show (k3 t).2.1 ≤ _
      rw [E3.out]; show q3 ≤ _; omega
  case round =>
    clear XP Y B
    obtain ⟨k, v, hk, rfl, rfl, hbad, hlim, xp, hg, yy, bb, hwl⟩ := hrel
    obtain ⟨a3', c3', rfl⟩ := gr_form hg
    have XP := Lib.hid xp
    have Y := Lib.hid yy
    have B := Lib.hid bb
    have G := Lib.hid hg
    have BAD := Lib.hid hbad
    clear xp yy bb hg hbad
    by_cases hlt : k < n
    · have e0 : (k : Int) < (n : Int) := by omega
      have HK := Lib.hid (show (k : Int) < (k3 t).1 by rw [E3.out]; exact e0)
      have SA := Lib.hid (fun w hL hE => stepAt_any t (kS t k).2.1 a w HS.out hlim hL hE)
      have ST := Lib.hid (@kS_step t k BAD.out)
      have BT := Lib.hid (@kS_badT t k)
      have BR := Lib.hid (@kS_badR t k)
      have ta := textR_at t (kS t k).2.1 HS.out
      unfold stepAtV at SA
      have slen := stR_len t (k3 t).2.1 k
      rw [show stR t (k3 t).2.1 k = kS t k from rfl] at slen
      obtain ⟨S, hS⟩ : ∃ S, S = kS t k := ⟨_, rfl⟩
      rw [← hS] at SA ST BT BR ta G BAD slen XP ⊢
      have HSK := Lib.hid hS
      clear hS
      obtain ⟨l, at', bd⟩ := S
      dsimp only at SA ST BT BR ta G BAD slen XP
      have HLl := Lib.hid slen
      clear slen
      obtain ⟨T, hT⟩ : ∃ T, T = textR t at' := ⟨_, rfl⟩
      rw [← hT] at SA ST BT BR ta
      clear hT
      obtain ⟨td, tq, tc⟩ := T
      dsimp only at SA ST BT BR ta
      obtain ⟨R, hR⟩ : ∃ R, R = rdR td := ⟨_, rfl⟩
      rw [← hR] at SA ST BR
      clear hR
      obtain ⟨⟨sk, st, sf, sd⟩, rc⟩ := R
      dsimp only at SA ST BR
      go_wp2_with fail
      refine (SA.out wr (HL.out.below B.out) (HE.out.next B.out)).mono ?_
      clear SA
      by_cases htc : tc = 0
      · by_cases hrc : rc = 0
        · rw [if_pos htc, if_pos hrc]
          rintro e w6 ⟨rfl, hb⟩
          have HST := Lib.hid (ST.out htc hrc)
          have bz := below_alloc1 w6 (.cells #[.int .i64 sk, .int .i64 st, .int .i64 sf, .string sd] 59)
          have hbb := below_more hb bz
          have g6 := hb.size
          have XS := Lib.hid (bx_new w6 59 #[.int .i64 sk, .int .i64 st, .int .i64 sf, .string sd])
          replace XP := Lib.hid (XP.out.next hbb)
          replace Y := Lib.hid (Y.out.next hbb)
          replace G := Lib.hid (G.out.below hbb (Nat.le_refl _))
          replace B := Lib.hid (below_more B.out hbb)
          have s6 := size_alloc1 w6 (.cells #[.int .i64 sk, .int .i64 st, .int .i64 sf, .string sd] 59)
          clear hb bz hbb BT BR ST
          have p2 := XP.out.t2
          obtain ⟨⟨q0, q1, q2, q3'⟩, -⟩ := XS.out.k4
          have hbl : ∀ kk, blk (.slice a3' l.length c3') l.length = some kk → WL.heap.size ≤ kk := fun kk h => (G.out.own.blk kk h).1
          have HBL := Lib.hid hbl
          have hll : l.length ≤ 20 := by have := HLl.out; omega
          clear hbl
          go_wp2_with ((with_reducible show wpList _ _ _ (⟨some 73, _, _, _, _, _⟩ :: _) _ _); refine wpList_append_gr (lo := WL.heap.size) (e := 59) (sz := 4) (v := .slice a3' l.length c3') (n := l.length) (xs := stpCs l) rfl (.tmp 70) (.tmp 72) 22 rfl i0 _ 40 Tryz.underlying22 hi hz0 hz1 hz2 rfl (by decide) rfl (by rw [stpCs_length]) ?_ ⟨w6.heap.size + 1, 0, none⟩ 1 1 rfl [.int .i64 sk, .int .i64 st, .int .i64 sf, .string sd] (by decide) rfl ?_ ?_ (by unfold maxLen; omega) (by omega) (by simp; omega) ?_)
          · exact G.out.below (below_alloc1 _ _) (Nat.le_refl _)
          · have h9 := four_new (w6.alloc (.cells #[.int .i64 sk, .int .i64 st, .int .i64 sf, .string sd] 59)) (.int .i64 sk) (.int .i64 st) (.int .i64 sf) (.string sd) 59
            rw [s6] at h9
            exact h9
          · intro u hu; simp at hu; rcases hu with rfl | rfl | rfl | rfl <;> rfl
          · intro gg cc w8 hgn hgr hloc
            have b7 := below_alloc1 (w6.alloc (.cells #[.int .i64 sk, .int .i64 st, .int .i64 sf, .string sd] 59)) (.cells #[.int .i64 sk, .int .i64 st, .int .i64 sf, .string sd] 59)
            have s7 := b7.size
            have neP : some nP ≠ blk (.slice a3' l.length c3') l.length := fun e => by have := HBL.out nP e.symm; omega
            have neY : some w.heap.size ≠ blk (.slice a3' l.length c3') l.length := fun e => by have := HBL.out _ e.symm; omega
            have xp8 := (XP.out.next b7).grown hgr neP
            have Y8 := Lib.hid (((Y.out.next b7).grown hgr neY).other ⟨nP, 2, none⟩ (.slice (some ⟨gg, 0, none⟩) (l.length + 1) cc) (by first | (simp; done) | (simp; omega)))
            have B8 := Lib.hid (((B.out.trans (b7.mono B.out.size)).grown hgr (by omega) (fun kk hkk => by have := HBL.out kk hkk; omega)).setCell (p := ⟨nP, 2, none⟩) (by first | (simp; done) | (simp; omega)) (.slice (some ⟨gg, 0, none⟩) (l.length + 1) cc))
            have G8 := Lib.hid (hgn.low ⟨nP, 2, none⟩ (.slice (some ⟨gg, 0, none⟩) (l.length + 1) cc) (by first | exact mP2 | (simp; done) | (simp; omega)))
            have hsz8 := hgr.size
            obtain ⟨⟨u0, u1, u2⟩, f0, f1, f2⟩ := xp8.k3
            have X8 := Lib.hid (show Bx (w8.setCell ⟨nP, 2, none⟩ (.slice (some ⟨gg, 0, none⟩) (l.length + 1) cc)) nP 24 #[.int .i64 n1, .string d, .slice (some ⟨gg, 0, none⟩) (l.length + 1) cc] by simpa using xp8.set (j := 2) (.slice (some ⟨gg, 0, none⟩) (l.length + 1) cc))
            clear hgn hgr hloc b7 xp8
            go_wp2_with fail
            go_roundw
            case rel =>
              have fin : InRel t w WL nP n1 d n (.int .i64 tq) (.int .i64 ((k : Int) + 1)) (w8.setCell ⟨nP, 2, none⟩ (.slice (some ⟨gg, 0, none⟩) (l.length + 1) cc)) := by
                refine ⟨k + 1, .slice (some ⟨gg, 0, none⟩) (l.length + 1) cc, by omega, by go_num, by rw [HST.out], by rw [HST.out], by rw [HST.out]; exact ta, X8.out, ?_, Y8.out, B8.out, by simp; omega⟩
                rw [HST.out]
                dsimp only
                rw [stpCs_snoc]
                rw [List.length_append]
                exact G8.out
              first | exact fin | ((repeat apply Exists.intro); exact ⟨fin, rfl⟩)
            case measure => simp [intOf]; omega
        · rw [if_pos htc, if_neg hrc]
          rintro e w6 ⟨rfl, hb⟩
          have hno := pkGood_bad HK.out (BR.out htc hrc)
          have bz := below_alloc1 w6 (.cells #[.int .i64 0, .int .i64 0, .int .i64 0, .string { data := #[] }] 59)
          have hbb := below_more hb bz
          replace Y := Lib.hid (Y.out.next hbb)
          replace B := Lib.hid (below_more B.out hbb)
          clear hb bz hbb BT BR ST
          obtain ⟨⟨y0, y1, y2⟩, f0, f1, f2⟩ := Y.out.k3
          unfold eL eP
          go_wp2_with fail
          refine bodyPost_ret (v := .tuple #[.agg #[.int .i64 0, .string { data := #[] }, .slice none 0 0], .iface 127 (.agg #[.string stepW, .iface 221 (.pointer (some (a 4)))])]) (by simp [results, Tryz.results75, go_sem, y0, y1, y2]) rfl (.inr ⟨hno, _, _, .inr (.inr (.inr rfl)), rfl, ?_⟩)
          exact three_setK B.out (Nat.le_refl _) _ _ _
      · rw [if_neg htc]
        rintro e w6 ⟨rfl, hb⟩
        have hno := pkGood_bad HK.out (BT.out htc)
        have bz := below_alloc1 w6 (.cells #[.int .i64 0, .int .i64 0, .int .i64 0, .string { data := #[] }] 59)
        have hbb := below_more hb bz
        replace Y := Lib.hid (Y.out.next hbb)
        replace B := Lib.hid (below_more B.out hbb)
        clear hb bz hbb BT BR ST
        obtain ⟨⟨y0, y1, y2⟩, f0, f1, f2⟩ := Y.out.k3
        unfold eL eM
        go_wp2_with fail
        refine bodyPost_ret (v := .tuple #[.agg #[.int .i64 0, .string { data := #[] }, .slice none 0 0], .iface 127 (.agg #[.string stepW, .iface 130 (.agg #[.int .i64 tc])])]) (by simp [results, Tryz.results75, go_sem, y0, y1, y2]) rfl (.inr ⟨hno, _, _, .inr (.inr (.inl ⟨tc, rfl⟩)), rfl, ?_⟩)
        exact three_setK B.out (Nat.le_refl _) _ _ _
    · obtain rfl : k = n := by omega
      have hgl4 : 4 < w.heap.size := cell_lt HE.out.s5
      have hgl5 : 5 < w.heap.size := cell_lt HE.out.s6
      have LEN := Lib.hid (show (kS t k).1.length = k from stR_len t _ k)
      have PG := Lib.hid (show (kS t (k3 t).1.toNat) = kS t k by rw [E3.out]; rfl)
      have PK1 := Lib.hid (show (k1 t).1 = n1 by rw [E1.out])
      have PK2 := Lib.hid (show (k2 t).1 = d by rw [E2.out])
      obtain ⟨⟨y0, y1, y2⟩, f0, f1, f2⟩ := Y.out.k3
      obtain ⟨⟨p0, p1, p2⟩, -⟩ := XP.out.k3
      have OD5 := Lib.hid (show OddE a (.iface 221 (.pointer (some (a 5)))) from .inr (.inl ⟨5, by omega, by omega, rfl⟩))
      have OD6 := Lib.hid (show OddE a (.iface 221 (.pointer (some (a 6)))) from .inr (.inl ⟨6, by omega, by omega, rfl⟩))
      obtain ⟨S, hS⟩ : ∃ S, S = kS t k := ⟨_, rfl⟩
      rw [← hS] at hlim G BAD LEN PG XP p2 ⊢
      have HSK := Lib.hid hS
      clear hS
      obtain ⟨l, at', bd⟩ := S
      dsimp only at hlim G BAD LEN XP p2 ⊢
      by_cases hat : at' = (t.size : Int)
      rotate_left
      · have hno : ¬ pkGood t := fun h => hat (by have := h.2.2.2.1; rw [PG.out] at this; exact this)
        have d5 : (at' != (t.size : Int)) = true := by simpa using hat
        have p5 := (HE.out.next B.out).s5
        have p5' : (((wr.setCell ⟨w.heap.size, 0, none⟩ (.int .i64 0)).setCell ⟨w.heap.size, 1, none⟩ (.string { data := #[] })).setCell ⟨w.heap.size, 2, none⟩ (.slice none 0 0)).cell? ⟨4, 0, none⟩ = some (.iface 221 (.pointer (some (a 5)))) := by
          rw [World.cell?_setCell_other (h := by first | (simp; done) | (simp; omega)), World.cell?_setCell_other (h := by first | (simp; done) | (simp; omega)), World.cell?_setCell_other (h := by first | (simp; done) | (simp; omega))]; exact p5
        clear p0 p1 p2
        go_wp2_with fail
        go_region
        all_goals (
          go_wp2_with fail
          refine bodyPost_ret (v := .tuple #[.agg #[.int .i64 0, .string { data := #[] }, .slice none 0 0], .iface 221 (.pointer (some (a 5)))]) (by simp [results, Tryz.results75, go_sem, y0, y1, y2]) rfl (.inr ⟨hno, _, _, OD5.out, rfl, ?_⟩)
          first | exact three_setK B.out (Nat.le_refl _) _ _ _ | exact three_setK B.out.drew (Nat.le_refl _) _ _ _ | exact (three_setK B.out (Nat.le_refl _) _ _ _).drew)
      subst hat
      have d5 : ((t.size : Int) != (t.size : Int)) = false := by simp
      have hpr := implPkRight n1 d (.slice a3' l.length c3') l wr G.out.own.rd (by have := LEN.out; omega)
      unfold pkV at hpr
      have HPR := Lib.hid hpr
      clear hpr
      go_wp2_with fail
      refine HPR.out.mono ?_
      clear HPR y0 y1 y2 f0 f1 f2 p0 p1 p2
      rintro e w9 ⟨rfl, hb⟩
      have hs9 := hb.size
      replace Y := Lib.hid (Y.out.next hb)
      replace XP := Lib.hid (XP.out.next hb)
      replace G := Lib.hid (G.out.below hb (Nat.le_refl _))
      replace B := Lib.hid (below_more B.out hb)
      clear hb
      obtain ⟨⟨y0, y1, y2⟩, f0, f1, f2⟩ := Y.out.k3
      cases hok : pkB (n1, d, l) with
      | false =>
        have hno : ¬ pkGood t := fun h => (pkB_no _).1 hok (by have := h.2.2.2.2; rw [PG.out, PK1.out, PK2.out] at this; exact this)
        have p6 := (HE.out.next B.out).s6
        have p6' : (((w9.setCell ⟨w.heap.size, 0, none⟩ (.int .i64 0)).setCell ⟨w.heap.size, 1, none⟩ (.string { data := #[] })).setCell ⟨w.heap.size, 2, none⟩ (.slice none 0 0)).cell? ⟨5, 0, none⟩ = some (.iface 221 (.pointer (some (a 6)))) := by
          rw [World.cell?_setCell_other (h := by first | (simp; done) | (simp; omega)), World.cell?_setCell_other (h := by first | (simp; done) | (simp; omega)), World.cell?_setCell_other (h := by first | (simp; done) | (simp; omega))]; exact p6
        clear hok
        go_wp2_with fail
        go_region
        all_goals (
          go_wp2_with fail
          refine bodyPost_ret (v := .tuple #[.agg #[.int .i64 0, .string { data := #[] }, .slice none 0 0], .iface 221 (.pointer (some (a 6)))]) (by simp [results, Tryz.results75, go_sem, y0, y1, y2]) rfl (.inr ⟨hno, _, _, OD6.out, rfl, ?_⟩)
          first | exact three_setK B.out (Nat.le_refl _) _ _ _ | exact three_setK B.out.drew (Nat.le_refl _) _ _ _ | exact (three_setK B.out (Nat.le_refl _) _ _ _).drew)
      | true =>
        have hgood : pkGood t := by
          refine ⟨by rw [E3.out], by rw [E3.out]; exact ⟨by simp only; omega, by simp only; omega⟩, by rw [PG.out]; exact BAD.out, by rw [PG.out], ?_⟩
          rw [PG.out, PK1.out, PK2.out]; exact (pkB_iff _).1 hok
        obtain ⟨⟨p0, p1, p2⟩, -⟩ := XP.out.k3
        clear hok
        go_wp2_with fail
        refine bodyPost_ret (v := .tuple #[.agg #[.int .i64 n1, .string d, .slice a3' l.length c3'], .nilIface]) (by simp [results, Tryz.results75, go_sem, y0, y1, y2]) rfl (.inl ⟨hgood, .slice a3' l.length c3', ?_, ?_, ?_⟩)
        · rw [PK1.out, PK2.out]; rfl
        · rw [PG.out]
          exact (((G.out.low ⟨w.heap.size, 0, none⟩ _ (by simp; omega)).low ⟨w.heap.size, 1, none⟩ _ (by simp; omega)).low ⟨w.heap.size, 2, none⟩ _ (by simp; omega)).lower (by omega)
        · exact three_setK B.out (Nat.le_refl _) _ _ _
end Go.Proofs.YtcpblmpapkhppaaGreatDoor
