/- The law FnDiff. -/
import Derived.Test.YtcckpkcjekcajaaCDraw2
import Derived.Test.YtcckpkcjekcajaaSource
import Derived.Test.YtcckpkcjekcajaaSome
import Derived.Test.YtcckpkcjekcajaaCISf
import Derived.Test.YtcckpkcjekcajaaCSFor
import Derived.Test.YtcckpkcjekcajaaCIAp
import Derived.Test.YtcckpkcjekcajaaCLwI
import Derived.Test.YtcckpkcjekcajaaAOb
namespace Go.Proofs.Ytcckpkcjekcajaa
open Go.RowKit

theorem Own.keptz {w w' : World} {lo n sz b : Nat} {v : Value} {xs : List Value} (h : Own w lo v n sz xs) (hk : Kept b w w') (hb : b < lo) : Own w' lo v n sz xs :=
  h.two (two_left (d := none) hk) (fun k hk' => ⟨fun e => by have := (h.blk k hk').1; have := Option.some.inj e; omega, by simp⟩)
theorem Ob.keptz {w w' : World} {lo hi n sz b : Nat} {v : Value} {xs : List Value} (h : Ob w lo hi v n sz xs) (hk : Kept b w w') (hb : b < lo) : Ob w' lo hi v n sz xs := ⟨h.own.keptz hk hb, h.top⟩
theorem Ob.put {w : World} {lo hi n sz b j : Nat} {v x : Value} {xs : List Value} (h : Ob w lo hi v n sz xs) (hb : hi ≤ b) : Ob (w.setCell ⟨b, j, none⟩ x) lo hi v n sz xs :=
  ⟨h.own.other ⟨b, j, none⟩ x (fun k hk => by have := h.top k hk; show k ≠ b; omega), h.top⟩
/-- Two images drawn from bytes. -/
def DrawnAB (w : World) (e : Ending) (w' : World) : Prop := ∃ (la lb : List ByteArray) (va vb : Value), la.length ≤ 9 ∧ lb.length ≤ 9 ∧ e = .returned (.tuple #[va, vb]) ∧ Rd w' va la.length 1 (strs la) ∧ Rd w' vb lb.length 1 (strs lb) ∧ Below w.heap.size w w'
structure AbSt (sb : Nat) (a : Option Addr) (len cap : Nat) (w1 W2 : World) (la lb : List ByteArray) (va vb : Value) (wr : World) : Prop where
  obA : Ob wr w1.heap.size W2.heap.size va la.length 1 (strs la)
  own : Own wr W2.heap.size vb la.length 1 (strs lb)
  same : lb.length = la.length
  src : Src wr sb a len cap
  kept : Kept sb w1 wr
theorem AbSt.keep {sb : Nat} {a : Option Addr} {len cap : Nat} {w1 W2 wr wn : World} {la lb : List ByteArray} {va vb : Value} (h : AbSt sb a len cap w1 W2 la lb va vb wr) (hk : Kept sb wr wn) (hs : Src wn sb a len cap) (hb : sb < w1.heap.size) (h2 : w1.heap.size ≤ W2.heap.size) : AbSt sb a len cap w1 W2 la lb va vb wn :=
  ⟨h.obA.keptz hk hb, h.own.keptz hk (by omega), h.same, hs, h.kept.trans hk⟩
def AbRel (sb : Nat) (a : Option Addr) (len cap : Nat) (w1 W2 : World) (la : List ByteArray) (va vb : Value) (i : Value) (wr : World) : Prop :=
  ∃ (k : Nat) (lb : List ByteArray), k ≤ la.length ∧ i = .int .i64 (k : Int) ∧ AbSt sb a len cap w1 W2 la lb va vb wr

set_option maxRecDepth 100000 in
set_option maxHeartbeats 4000000 in
theorem drawAB_any (a : Option Addr) (len cap : Nat) (w : World) (hB : Bytes w a len) (hl : len ≤ 1048576) :
    Calls Try.prog 33 #[.slice a len cap] w (DrawnAB w) := by
  obtain ⟨i0, hi0, hz0, hz1, hz2⟩ := info_parts Try.info9
  have HB := Lib.hid hB
  clear hB
  go_enter Try.func33, Try.ntmps33
  go_wp2_with fail
  refine (source_any a len cap w HB.out hl).mono ?_
  rintro e w1 ⟨rfl, hs1, hb1⟩
  have hbl := hs1.lt
  have HS1 := Lib.hid hs1
  have HR := Lib.hid (HB.out.row hb1 (Nat.le_refl _))
  have HB1 := Lib.hid hb1
  have hz1' := hb1.size
  clear hs1 hb1
  go_wp2_with fail
  refine (oddZ_any w.heap.size a len cap w1 HS1.out HR.out).mono ?_
  rintro e W2 ⟨la, va, hla, rfl, hst⟩
  obtain ⟨xa, ca, rfl⟩ := gr_form hst.gr
  have ST2 := Lib.hid hst
  have hzz : w1.heap.size ≤ W2.heap.size := hst.kept.size
  clear hst HS1
  go_wp2_with ((with_reducible show wpList _ _ _ (⟨some 14, _, _, _, _, _⟩ :: _) _ _); refine wpList_append_copy _ rfl (.tmp 12) (.tmp 13) 22 rfl 9 i0 _ 1 16 Try.underlying22 hi0 hz0 hz1 hz2 rfl (by decide) _ rfl (.slice xa la.length ca) rfl la.length (strs la) (ST2.out.gr.own.rd.below (B := W2.heap.size) (below_alloc1 W2 _) (Nat.le_refl _)) (by unfold maxLen; omega) (by omega) ?_)
  intro ad cb w3 ho hb3
  have hb3' : Below W2.heap.size W2 w3 := (below_alloc1 W2 _).trans (hb3.mono (by simp))
  have AB := Lib.hid (show AbSt w.heap.size a len cap w1 W2 la la (.slice xa la.length ca) (.slice ad la.length cb) w3 from
    ⟨(Ob.mk ST2.out.gr.own (fun k hk => (ST2.out.gr.own.blk k hk).2)).below hb3' (Nat.le_refl _), ho.lower (by simp), rfl, ST2.out.src.below hb3', ST2.out.kept.trans (below_kept hb3')⟩)
  clear ho hb3 hb3' ST2 hi0 hz0 hz1 hz2
  go_wp2_with fail
  go_loopw [7] (fun i wr => AbRel w.heap.size a len cap w1 W2 la (.slice xa la.length ca) (.slice ad la.length cb) i wr) (fun i _ => la.length - (intOf i).toNat)
  case atStart => exact ⟨0, la, by omega, rfl, AB.out⟩
  case round =>
    clear AB
    obtain ⟨k, lb, hk, rfl, hst⟩ := hrel
    have ST := Lib.hid hst
    clear hst
    by_cases hlt : k < la.length
    · have e0 : (k : Int) < (la.length : Int) := by omega
      have e1 : (0 : Int) ≤ (k : Int) := by omega
      go_wp2_with fail
      refine (one_any w.heap.size a len cap 2 wr ST.out.src (HR.out.kept ST.out.kept) (by omega) (by omega)).mono ?_
      rintro e w5 ⟨bb, rfl, hs5, hk5⟩
      have ST5 := Lib.hid (ST.out.keep hk5 hs5 hbl hzz)
      clear hs5 hk5 ST
      cases bb with
      | false =>
        go_wp2_with fail
        go_roundw
        case rel =>
          have fin : AbRel w.heap.size a len cap w1 W2 la (.slice xa la.length ca) (.slice ad la.length cb) (.int .i64 ((k : Int) + 1)) w5 := ⟨k + 1, lb, by omega, by go_num, ST5.out⟩
          first | exact fin | ((repeat apply Exists.intro); exact ⟨fin, rfl⟩)
        case measure => simp [intOf]; omega
      | true =>
        go_wp2_with fail
        refine (data_any w.heap.size a len cap w5 ST5.out.src (HR.out.kept ST5.out.kept)).mono ?_
        rintro e w6 ⟨x, hx, rfl, hs6, hk6⟩
        have ST6 := Lib.hid (ST5.out.keep hk6 hs6 hbl hzz)
        clear hs6 hk6 ST5
        have hlen := ST6.out.same
        obtain ⟨b3, off3, hp3, hlo3, hbl3, hc3, hf3⟩ := ST6.out.own.get (by omega)
        subst hp3
        have hls : (strs lb).length = la.length := by rw [strs_length, hlen]
        obtain ⟨v0, hv0⟩ : ∃ v0, w6.cell? ⟨b3, off3 + k, none⟩ = some v0 := ⟨_, (hc3 k (by omega)).trans (List.getElem?_eq_getElem (by omega))⟩
        have hf0 := hf3 k (by omega)
        have ST7 := Lib.hid (show AbSt w.heap.size a len cap w1 W2 la (lb.set k x) (.slice xa la.length ca) (.slice (some ⟨b3, off3, none⟩) la.length cb) (w6.setCell ⟨b3, off3 + k, none⟩ (.string x)) from
          ⟨ST6.out.obA.put hlo3, by rw [strs_set]; exact ST6.out.own.set k (.string x) (by omega) ⟨v0, hv0⟩, by rw [List.length_set]; exact hlen, ST6.out.src.grown (row := some b3) (grown_set (World.grownBy.refl w6 (some b3))) (fun e => by have := Option.some.inj e; omega), ST6.out.kept.box (off3 + k) (.string x) (by omega)⟩)
        clear hc3 hf3 hls hlen
        go_wp2_with fail
        go_roundw
        case rel =>
          have fin : AbRel w.heap.size a len cap w1 W2 la (.slice xa la.length ca) (.slice (some ⟨b3, off3, none⟩) la.length cb) (.int .i64 ((k : Int) + 1)) (w6.setCell ⟨b3, off3 + k, none⟩ (.string x)) := ⟨k + 1, lb.set k x, by omega, by go_num, ST7.out⟩
          first | exact fin | ((repeat apply Exists.intro); exact ⟨fin, rfl⟩)
        case measure => simp [intOf]; omega
    · obtain rfl : k = la.length := by omega
      go_wp2_with fail
      refine (one_any w.heap.size a len cap 12 wr ST.out.src (HR.out.kept ST.out.kept) (by omega) (by omega)).mono ?_
      rintro e w5 ⟨bb, rfl, hs5, hk5⟩
      have ST5 := Lib.hid (ST.out.keep hk5 hs5 hbl hzz)
      clear hs5 hk5 ST
      cases bb with
      | false =>
        have hl5 := ST5.out.same
        go_wp2_with fail
        go_ret2
        exact ⟨la, lb, _, .slice ad la.length cb, hla, by omega, rfl, ST5.out.obA.rd, by rw [hl5]; exact ST5.out.own.rd, HB1.out.trans (ST5.out.kept.below (Nat.le_refl _) hz1')⟩
      | true =>
        go_wp2_with fail
        refine (oddZ_any w.heap.size a len cap w5 ST5.out.src (HR.out.kept ST5.out.kept)).mono ?_
        rintro e w6 ⟨l6, v6, hl6, rfl, hst6⟩
        obtain ⟨x6, c6, rfl⟩ := gr_form hst6.gr
        have ST6 := Lib.hid (ST5.out.keep hst6.kept hst6.src hbl hzz)
        have R6 := Lib.hid hst6.gr.own.rd
        clear hst6 ST5
        go_wp2_with fail
        go_ret2
        exact ⟨la, l6, _, _, hla, hl6, rfl, ST6.out.obA.rd, R6.out, HB1.out.trans (ST6.out.kept.below (Nat.le_refl _) hz1')⟩

theorem diff_apply {la lb : List ByteArray} (ha : imgB la = true) (hb : imgB lb = true) (hl : la.length = lb.length) : applyR la (forL la lb) = (lb, 0) := by
  have oa := (imgB_iff la).1 ha
  have ob := (imgB_iff lb).1 hb
  have h1 := oa.1
  rw [forL_yes ⟨ha, hb, hl⟩]
  have hlen := forT_len la lb la.length
  rw [applyR_ok (by omega) ha (forT_code oa ob hl), apply_all oa ob hl]
theorem diff_same (la : List ByteArray) : forL la la = [] := by
  unfold forL; split
  · exact for_same la _
  · rfl
def FdRel (n : Nat) (W : World) (i : Value) (wr : World) : Prop := ∃ k : Nat, k ≤ n ∧ i = .int .i64 (k : Int) ∧ Below W.heap.size W wr
def FdCut (W : World) (c : Value) (B : Bool) (wx : World) : Prop := c = .bool B ∧ Below W.heap.size W wx
set_option maxRecDepth 100000 in
set_option maxHeartbeats 4000000 in
theorem diffLaw_mid (a : Option Addr) (len cap : Nat) (w : World) (hB : Bytes w a len) (hl : len ≤ 1048576) :
    Calls Try.prog 8 #[.slice a len cap] w fun e w' => e = .returned (.bool true) ∧ Below w.heap.size w w' := by
  have HB := Lib.hid hB
  clear hB
  have d0 : decide ((1048576 : Int) < (len : Int)) = false := decide_eq_false (by omega)
  go_enter Try.func8, Try.ntmps8
  go_wp2_with fail
  refine (drawAB_any a len cap w HB.out hl).mono ?_
  rintro e w1 ⟨la, lb, va, vb, hla, hlb, rfl, hra, hrb, hb⟩
  obtain ⟨xa, ca, rfl, -⟩ := id hra.2
  obtain ⟨xb, cb, rfl, -⟩ := id hrb.2
  have RA := Lib.hid hra
  have RB := Lib.hid hrb
  have BW := Lib.hid hb
  clear hra hrb hb HB
  have HIF := Lib.hid (fun w h k => implStepsFor (.slice xa la.length ca) (.slice xb lb.length cb) la lb w h k (by omega) (by omega))
  have HSF := Lib.hid (fun w h k => specStepsFor (.slice xa la.length ca) (.slice xb lb.length cb) la lb w h k (by omega) (by omega))
  have hL8 := forL_len la lb
  have HAP := Lib.hid (fun (h1 : imgB la = true) (h2 : imgB lb = true) (h3 : la.length = lb.length) => diff_apply h1 h2 h3)
  have HNO := Lib.hid (fun (h : ¬ (imgB la = true ∧ imgB lb = true ∧ la.length = lb.length)) => forL_no h)
  obtain ⟨L, hL⟩ : ∃ L, L = forL la lb := ⟨_, rfl⟩
  rw [← hL] at HIF HSF hL8 HAP HNO
  clear hL
  go_wp2_with fail
  refine (HIF.out _ RA.out RB.out).mono ?_
  rintro e w2 ⟨v2, rfl, hg, hb⟩
  obtain ⟨x2, c2, rfl⟩ := gr_form hg
  have RL := Lib.hid hg.own.rd
  replace RA := Lib.hid (RA.out.below hb (Nat.le_refl _))
  replace RB := Lib.hid (RB.out.below hb (Nat.le_refl _))
  replace BW := Lib.hid (below_more BW.out hb)
  clear hb hg HIF
  go_wp2_with fail
  refine (HSF.out _ RA.out RB.out).mono ?_
  rintro e W ⟨v3, rfl, hg, hb⟩
  obtain ⟨x3, c3, rfl⟩ := gr_form hg
  have RS := Lib.hid hg.own.rd
  replace RL := Lib.hid (RL.out.below hb (Nat.le_refl _))
  replace RA := Lib.hid (RA.out.below hb (Nat.le_refl _))
  replace RB := Lib.hid (RB.out.below hb (Nat.le_refl _))
  replace BW := Lib.hid (below_more BW.out hb)
  clear hb hg HSF
  have dl : ((L.length : Int) != (L.length : Int)) = false := by simp
  go_wp2_with fail
  go_loopw [7] (fun i wr => FdRel L.length W i wr) (fun i _ => L.length - (intOf i).toNat)
  case atStart => exact ⟨0, by omega, rfl, Below.refl _ _⟩
  case round =>
    obtain ⟨k, hk, rfl, hb⟩ := hrel
    have HB := Lib.hid hb
    have R1 := Lib.hid (RL.out.below hb (Nat.le_refl _))
    have R2 := Lib.hid (RS.out.below hb (Nat.le_refl _))
    by_cases hlt : k < L.length
    · obtain ⟨b7, o7, hp7, hl7, hc7⟩ := R1.out.get (by omega)
      obtain ⟨b8, o8, hp8, hl8, hc8⟩ := R2.out.get (by omega)
      subst hp7
      subst hp8
      have r0 : wr.cell? ⟨b7, o7 + k * 4, none⟩ = some (.int .i64 L[k].1) := by rw [hc7 (k * 4) (by omega), stpCs_0 L k hlt]
      have r1 : wr.cell? ⟨b7, o7 + k * 4 + 1, none⟩ = some (.int .i64 L[k].2.1) := by rw [Nat.add_assoc, hc7 (k * 4 + 1) (by omega), stpCs_1 L k hlt]
      have r2 : wr.cell? ⟨b7, o7 + k * 4 + 2, none⟩ = some (.int .i64 L[k].2.2.1) := by rw [Nat.add_assoc, hc7 (k * 4 + 2) (by omega), stpCs_2 L k hlt]
      have r3 : wr.cell? ⟨b7, o7 + k * 4 + 3, none⟩ = some (.string L[k].2.2.2) := by rw [Nat.add_assoc, hc7 (k * 4 + 3) (by omega), stpCs_3 L k hlt]
      have s0 : wr.cell? ⟨b8, o8 + k * 4, none⟩ = some (.int .i64 L[k].1) := by rw [hc8 (k * 4) (by omega), stpCs_0 L k hlt]
      have s1 : wr.cell? ⟨b8, o8 + k * 4 + 1, none⟩ = some (.int .i64 L[k].2.1) := by rw [Nat.add_assoc, hc8 (k * 4 + 1) (by omega), stpCs_1 L k hlt]
      have s2 : wr.cell? ⟨b8, o8 + k * 4 + 2, none⟩ = some (.int .i64 L[k].2.2.1) := by rw [Nat.add_assoc, hc8 (k * 4 + 2) (by omega), stpCs_2 L k hlt]
      have s3 : wr.cell? ⟨b8, o8 + k * 4 + 3, none⟩ = some (.string L[k].2.2.2) := by rw [Nat.add_assoc, hc8 (k * 4 + 3) (by omega), stpCs_3 L k hlt]
      have e0 : (k : Int) < (L.length : Int) := by omega
      have e1 : (0 : Int) ≤ (k : Int) := by omega
      clear hc7 hc8 hb
      obtain ⟨q, hq⟩ : ∃ q, q = L[k] := ⟨_, rfl⟩
      rw [← hq] at r0 r1 r2 r3 s0 s1 s2 s3
      clear hq
      go_wp2_with fail
      go_quiet (fail)
      go_wp2_with fail
      go_roundw
      case rel =>
        have fin : FdRel L.length W (.int .i64 ((k : Int) + 1)) (wr.drewN nq) := ⟨k + 1, by omega, by go_num, below_drewN HB.out _⟩
        first | exact fin | ((repeat apply Exists.intro); exact ⟨fin, rfl⟩)
      case measure => simp [intOf]; omega
    · obtain rfl : k = L.length := by omega
      have A2 := Lib.hid (RA.out.below hb (Nat.le_refl _))
      have B2 := Lib.hid (RB.out.below hb (Nat.le_refl _))
      have BZ := Lib.hid (below_more BW.out hb)
      have HIR := Lib.hid (fun w h => specImg (.slice xa la.length ca) la w h (by omega))
      have HJR := Lib.hid (fun w h => specImg (.slice xb lb.length cb) lb w h (by omega))
      clear hb HB R2 RS RA RB RL
      cases hga : imgB la with
      | false =>
        have HG := Lib.hid hga
        have hLn := HNO.out (fun h => by rw [hga] at h; cases h.1)
        have dL : ((L.length : Int) == 0) = true := by rw [hLn]; rfl
        clear hga hLn HAP HNO
        go_wp2_with fail
        refine (HIR.out _ A2.out).mono ?_
        rintro e w9 ⟨rfl, rfl⟩
        rw [HG.out]
        go_wp2_with fail
        go_ret
        exact ⟨rfl, BZ.out⟩
      | true =>
      have HGA := Lib.hid hga
      clear hga
      cases hgb : imgB lb with
      | false =>
        have HG := Lib.hid hgb
        have hLn := HNO.out (fun h => by rw [hgb] at h; cases h.2.1)
        have dL : ((L.length : Int) == 0) = true := by rw [hLn]; rfl
        clear hgb hLn HAP HNO
        go_wp2_with fail
        refine (HIR.out _ A2.out).mono ?_
        rintro e w9 ⟨rfl, rfl⟩
        rw [HGA.out]
        go_wp2_with fail
        refine (HJR.out _ B2.out).mono ?_
        rintro e w9 ⟨rfl, rfl⟩
        rw [HG.out]
        go_wp2_with fail
        go_ret
        exact ⟨rfl, BZ.out⟩
      | true =>
      have HGB := Lib.hid hgb
      clear hgb
      by_cases hll : la.length = lb.length
      rotate_left
      · have hLn := HNO.out (fun h => hll h.2.2)
        have dL : ((L.length : Int) == 0) = true := by rw [hLn]; rfl
        have dl2 : ((la.length : Int) != (lb.length : Int)) = true := bne_iff_ne.2 (by omega)
        clear hLn hll HAP HNO
        go_wp2_with fail
        refine (HIR.out _ A2.out).mono ?_
        rintro e w9 ⟨rfl, rfl⟩
        rw [HGA.out]
        go_wp2_with fail
        refine (HJR.out _ B2.out).mono ?_
        rintro e w9 ⟨rfl, rfl⟩
        rw [HGB.out]
        go_wp2_with fail
        go_ret
        exact ⟨rfl, BZ.out⟩
      have dl2 : ((la.length : Int) != (lb.length : Int)) = false := by rw [hll]; simp
      have hap := HAP.out HGA.out HGB.out hll
      have HIA := Lib.hid (fun w h k => implImageApply (.slice xa la.length ca) (.slice x2 L.length c2) la L w h k (by omega) (by omega))
      rw [hap] at HIA
      have HSS := Lib.hid (fun w h => implStepsFor (.slice xa la.length ca) (.slice xa la.length ca) la la w h h (by omega) (by omega))
      rw [diff_same] at HSS
      have LW := Lib.hid (fun v u w h k => lwImage_any v u (lb, 0) w h k (show lb.length ≤ 1048576 by omega))
      clear hap hll HAP HNO
      go_wp2_with fail
      refine (HIR.out _ A2.out).mono ?_
      rintro e w9 ⟨rfl, rfl⟩
      rw [HGA.out]
      go_wp2_with fail
      refine (HJR.out _ B2.out).mono ?_
      rintro e w9 ⟨rfl, rfl⟩
      rw [HGB.out]
      go_wp2_with fail
      refine (HIA.out _ A2.out R1.out).mono ?_
      rintro e w9 ⟨v9, rfl, ho9, hb9⟩
      obtain ⟨x9, c9, rfl, -⟩ := id ho9.2
      have R9 := Lib.hid ho9.rd
      replace A2 := Lib.hid (A2.out.below hb9 (Nat.le_refl _))
      replace B2 := Lib.hid (B2.out.below hb9 (Nat.le_refl _))
      replace BZ := Lib.hid (below_more BZ.out hb9)
      clear ho9 hb9 HIA R1
      go_wp2_with fail
      refine (LW.out _ _ _ R9.out B2.out).mono ?_
      rintro e w10 ⟨rfl, hb10⟩
      replace A2 := Lib.hid (A2.out.below hb10 (Nat.le_refl _))
      replace BZ := Lib.hid (below_more BZ.out hb10)
      clear hb10 LW R9 B2
      go_wp2_with fail
      refine (HSS.out _ A2.out).mono ?_
      rintro e w11 ⟨v11, rfl, hg11, hb11⟩
      obtain ⟨x11, c11, rfl⟩ := gr_form hg11
      have BF := Lib.hid (below_more BZ.out hb11)
      clear hg11 hb11 HSS A2 BZ
      go_wp2_with fail
      go_ret
      exact ⟨rfl, BF.out⟩
theorem diffLaw_any (a : Option Addr) (len cap : Nat) (w : World) (hB : Bytes w a len) (hm : len ≤ maxLen) :
    Calls Try.prog 8 #[.slice a len cap] w fun e w' => e = .returned (.bool true) ∧ Below w.heap.size w w' := by
  by_cases h0 : 1048576 < len
  · have d0 : decide ((1048576 : Int) < (len : Int)) = true := decide_eq_true (by omega)
    clear hB
    go_enter Try.func8, Try.ntmps8
    go_wp2_with fail
    go_ret
    exact ⟨rfl, Below.refl _ _⟩
  exact diffLaw_mid a len cap w hB (by omega)
end Go.Proofs.Ytcckpkcjekcajaa
