/- The model's l04Do and ActsDo. -/
import Derived.Test.YtocjjkjjojdpdaaSWrite
import Derived.Test.YtocjjkjjojdpdaaSFSync
import Derived.Test.YtocjjkjjojdpdaaLAct
import Derived.Test.YtocjjkjjojdpdaaLBox
namespace Go.Proofs.Ytocjjkjjojdpdaa
open Go.RowKit

/-- How great a flash may be that the laws hand on. -/
def Sized (F : FM) : Prop := FFits F ∧ (∀ s ∈ F.sec, s.size ≤ 1048576) ∧ ∀ d ∈ F.dir, d.2.size ≤ 1048576
theorem sized_no : Sized noFlash := ⟨⟨by simp [noFlash], by simp [noFlash]⟩, by simp [noFlash], by simp [noFlash]⟩
theorem mem_putD {d : D} {a : Int} {x : ByteArray} : ∀ l : List D, d ∈ putD l a x → d ∈ l ∨ d.2 = x
  | [], h => by simp [putD] at h; exact .inr (by rw [h])
  | e :: l, h => by
    unfold putD at h
    split at h
    · rcases List.mem_cons.1 h with h | h
      · exact .inr (by rw [h])
      · exact .inl (List.mem_cons_of_mem _ h)
    · rcases List.mem_cons.1 h with h | h
      · exact .inl (by rw [h]; simp)
      · rcases mem_putD l h with h | h
        · exact .inl (List.mem_cons_of_mem _ h)
        · exact .inr h
theorem putD_length (a : Int) (x : ByteArray) : ∀ l : List D, (putD l a x).length ≤ l.length + 1
  | [] => by simp [putD]
  | d :: l => by
    have := putD_length a x l
    unfold putD; split <;> simp; omega
theorem mem_syncL {s : ByteArray} : ∀ (dir : List D) (sec : List ByteArray), s ∈ syncL sec dir → s ∈ sec ∨ ∃ d ∈ dir, s = d.2 := by
  intro dir
  induction dir with
  | nil => intro sec h; exact .inl h
  | cons d dir ih =>
    intro sec h
    rcases ih _ h with h | ⟨e, he, hs⟩
    · rcases List.mem_or_eq_of_mem_set h with h | h
      · exact .inl h
      · exact .inr ⟨d, by simp, h⟩
    · exact .inr ⟨e, List.mem_cons_of_mem _ he, hs⟩
theorem sized_write {F : FM} {a : Int} {x : ByteArray} (h : Sized F) (hx : x.size ≤ 1048576) : Sized (writeOf F a x).fl := by
  unfold writeOf
  split
  · exact sized_no
  · split
    · rename_i h1
      split
      · refine ⟨⟨h.1.1, ?_⟩, h.2.1, fun d hd => ?_⟩
        · have := putD_length a x F.dir
          have := h1.1.dirty
          have := h1.1.most
          show (putD F.dir a x).length ≤ _
          omega
        · rcases mem_putD F.dir hd with h2 | h2
          · exact h.2.2 d h2
          · rw [h2]; exact hx
      · exact sized_no
    · exact sized_no
theorem sized_sync {F : FM} (h : Sized F) : Sized (fsyncOf F).fl := by
  unfold fsyncOf
  split
  · refine ⟨⟨?_, by simp [syncOf]⟩, fun s hs => ?_, by simp [syncOf]⟩
    · show (syncL F.sec F.dir).length ≤ _
      rw [syncL_length]; exact h.1.1
    · rcases mem_syncL F.dir F.sec hs with h1 | ⟨d, hd, rfl⟩
      · exact h.2.1 s h1
      · exact h.2.2 d hd
  · exact sized_no
noncomputable def stepA (O : OM) (a : actT) : OM := if O.code = 0 then (if a.1 = true then fsyncOf O.fl else writeOf O.fl a.2.1 a.2.2) else O
noncomputable def doL (F : FM) (l : List actT) : OM := l.foldl stepA ⟨F, ByteArray.empty, 0⟩
noncomputable def doOf (F : FM) (l : List actT) : OM := if (doL F l).code = 0 then doL F l else illOf (doL F l).code
theorem doL_step (F : FM) (l : List actT) (k : Nat) (h : k < l.length) : doL F (l.take (k + 1)) = stepA (doL F (l.take k)) l[k] := by
  unfold doL
  rw [List.take_succ_eq_append_getElem h, List.foldl_append]; rfl
theorem doL_stay (F : FM) (l : List actT) (k : Nat) (hk : k ≤ l.length) (h : (doL F (l.take k)).code ≠ 0) : doL F l = doL F (l.take k) := by
  have : ∀ n, k ≤ n → n ≤ l.length → doL F (l.take n) = doL F (l.take k) := by
    intro n
    induction n with
    | zero => intro h1 _; rw [show k = 0 by omega]
    | succ n ih =>
      intro h1 h2
      by_cases e : k = n + 1
      · rw [e]
      · rw [doL_step F l n (by omega), ih (by omega) (by omega)]
        unfold stepA
        rw [if_neg h]
  have := this l.length hk (Nat.le_refl _)
  rwa [List.take_length] at this
theorem doL_sized {F : FM} (hF : Sized F) {l : List actT} (hl : ∀ a ∈ l, a.2.2.size ≤ 1048576) : ∀ k, k ≤ l.length → Sized (doL F (l.take k)).fl := by
  intro k
  induction k with
  | zero => intro _; exact hF
  | succ k ih =>
    intro hk
    rw [doL_step F l k (by omega)]
    have hs := ih (by omega)
    unfold stepA
    split
    · split
      · exact sized_sync hs
      · exact sized_write hs (hl _ (List.getElem_mem _))
    · exact hs
theorem FOwn.not {w : World} {lo n : Nat} {sv dv : Value} {F : FM} (h : FOwn w lo sv dv F) (p : Addr) (x : Value) (hp : ∀ k, (blk sv F.sec.length = some k ∨ blk dv F.dir.length = some k) → k ≠ p.block) : FOwn (w.setCell p x) lo sv dv F :=
  ⟨h.1.other p x (fun k hk => hp k (.inl hk)), h.2.1.other p x (fun k hk => hp k (.inr hk)), h.2.2⟩
def DoRel (F : FM) (l : List actT) (w : World) (lo ob : Nat) (T : TypeId) (W : World) (i : Value) (wr : World) : Prop :=
  ∃ (k : Nat) (sv dv : Value), k ≤ l.length ∧ i = .int .i64 k ∧ Bx wr ob T #[sv, dv, .string (doL F (l.take k)).data, .int .i64 (doL F (l.take k)).code] ∧ FOwn wr lo sv dv (doL F (l.take k)).fl ∧ (∀ q, (blk sv (doL F (l.take k)).fl.sec.length = some q ∨ blk dv (doL F (l.take k)).fl.dir.length = some q) → q ≠ ob) ∧ Below ob W wr

set_option maxHeartbeats 4000000 in
set_option maxRecDepth 100000 in
theorem specDo (sv dv : Value) (F : FM) (vl : Value) (l : List actT) (w : World) (h : FRd w sv dv F) (hz : Sized F) (hl : Rd w vl l.length 3 (actCs l)) (hn : l.length ≤ 1048576) (hx : ∀ a ∈ l, a.2.2.size ≤ 1048576) :
    Calls Try.prog 33 #[.agg #[sv, dv], vl] w (OMade w (doOf F l)) := by
  obtain ⟨a, c, rfl, -⟩ := id h.1.2
  obtain ⟨a', c', rfl, -⟩ := id h.2.2
  obtain ⟨al, cl, rfl, -⟩ := id hl.2
  have HZ := Lib.hid hz
  have HR := Lib.hid h
  have HV := Lib.hid hl
  have HX := Lib.hid hx
  clear h hz hl hx
  go_enter Try.func33, Try.ntmps33
  go_wp2_with fail
  have x0 := bx_new w 33 #[.slice a F.sec.length c, .slice a' F.dir.length c']
  have b0 := below_alloc1 w (.cells #[.slice a F.sec.length c, .slice a' F.dir.length c'] 33)
  have z0 := size_alloc1 w (.cells #[.slice a F.sec.length c, .slice a' F.dir.length c'] 33)
  have y0 := bx_new (w.alloc (.cells #[.slice a F.sec.length c, .slice a' F.dir.length c'] 33)) 35 #[.slice none 0 0, .slice none 0 0, .string { data := #[] }, .int .i64 0]
  have b1 := below_alloc1 (w.alloc (.cells #[.slice a F.sec.length c, .slice a' F.dir.length c'] 33)) (.cells #[.slice none 0 0, .slice none 0 0, .string { data := #[] }, .int .i64 0] 35)
  have z1 := size_alloc1 (w.alloc (.cells #[.slice a F.sec.length c, .slice a' F.dir.length c'] 33)) (.cells #[.slice none 0 0, .slice none 0 0, .string { data := #[] }, .int .i64 0] 35)
  have bw := b0.trans (b1.mono (by omega))
  rw [z0] at y0
  generalize ((w.alloc (.cells #[.slice a F.sec.length c, .slice a' F.dir.length c'] 33)).alloc (.cells #[.slice none 0 0, .slice none 0 0, .string { data := #[] }, .int .i64 0] 35)) = W0 at *
  have Y0 := Lib.hid y0
  have B0 := Lib.hid bw
  clear x0 y0 b0 b1 bw
  refine (specCopy _ _ F W0 (HR.out.below B0.out (Nat.le_refl _)) HZ.out.1).mono ?_
  rintro e w1 ⟨s1, t1, rfl, ho1, hb1⟩
  obtain ⟨a1, p1, rfl, -⟩ := id ho1.1.2
  obtain ⟨a2, p2, rfl, -⟩ := id ho1.2.1.2
  have g1 : W0.heap.size ≤ w1.heap.size := hb1.size
  have Y1 := Lib.hid (Y0.out.next hb1)
  have B1 := Lib.hid (B0.out.trans (hb1.mono (by omega)))
  have O1 := Lib.hid ho1
  clear ho1 hb1 Y0 B0
  go_wp2_with fail
  have OB := Lib.hid (bx_new w1 35 #[.slice a1 F.sec.length p1, .slice a2 F.dir.length p2, .string { data := #[] }, .int .i64 0])
  have BB := Lib.hid (below_alloc1 w1 (.cells #[.slice a1 F.sec.length p1, .slice a2 F.dir.length p2, .string { data := #[] }, .int .i64 0] 35))
  generalize w1.alloc (.cells #[.slice a1 F.sec.length p1, .slice a2 F.dir.length p2, .string { data := #[] }, .int .i64 0] 35) = W1 at *
  go_loopw [6] (fun i wr => DoRel F l w (w.heap.size + 2) w1.heap.size 35 w1 i wr) (fun i _ => l.length - (intOf i).toNat)
  case atStart =>
    refine ⟨0, _, _, by omega, rfl, OB.out, (O1.out.below BB.out (Nat.le_refl _)).lower (by omega), fun q hq => ?_, BB.out⟩
    have := (O1.out.in q hq).2
    omega
  case round =>
    obtain ⟨k, sv, dv, hk, rfl, hbx, hfo, hap, hbw⟩ := hrel
    obtain ⟨O, hO⟩ : ∃ O, O = doL F (l.take k) := ⟨_, rfl⟩
    rw [← hO] at hbx hfo hap
    have hzd := doL_sized HZ.out HX.out k hk
    rw [← hO] at hzd
    obtain ⟨a3, p3, rfl, -⟩ := id hfo.1.2
    obtain ⟨a4, p4, rfl, -⟩ := id hfo.2.1.2
    have q0 := hbx.q0
    have q1 := hbx.q1
    have q2 := hbx.q2
    have q3 := hbx.q3
    have f0 := hbx.frozen 0
    have f1 := hbx.frozen 1
    have f2 := hbx.frozen 2
    have f3 := hbx.frozen 3
    have hob : w1.heap.size < wr.heap.size := hbx.lt
    have HO := Lib.hid hO
    have HZD := Lib.hid hzd
    have HFO := Lib.hid hfo
    have HAP := Lib.hid hap
    have HBX := Lib.hid hbx
    have HBW := Lib.hid hbw
    have BWW := Lib.hid (B1.out.trans (hbw.mono (by omega)))
    clear hbx hfo hap hbw hO hzd
    by_cases hgo : k < l.length ∧ O.code = 0
    · obtain ⟨hlt, hc0⟩ := hgo
      obtain ⟨b, off, rfl, hbl, hcell⟩ := HV.out.get (by omega)
      have r0 : wr.cell? ⟨b, off + k * 3, none⟩ = some (.bool l[k].1) := by rw [BWW.out.cell (p := ⟨b, off + k * 3, none⟩) hbl, hcell (k * 3) (by omega), actCs_0 l k hlt]
      have r1 : wr.cell? ⟨b, off + k * 3 + 1, none⟩ = some (.int .i64 l[k].2.1) := by rw [BWW.out.cell (p := ⟨b, off + k * 3 + 1, none⟩) hbl, Nat.add_assoc, hcell (k * 3 + 1) (by omega), actCs_1 l k hlt]
      have r2 : wr.cell? ⟨b, off + k * 3 + 2, none⟩ = some (.string l[k].2.2) := by rw [BWW.out.cell (p := ⟨b, off + k * 3 + 2, none⟩) hbl, Nat.add_assoc, hcell (k * 3 + 2) (by omega), actCs_2 l k hlt]
      have e0 : (k : Int) < (l.length : Int) := by omega
      have e1 : (0 : Int) ≤ (k : Int) := by omega
      have hsz := HX.out l[k] (List.getElem_mem hlt)
      have hstep := doL_step F l k hlt
      rw [← HO.out] at hstep
      unfold stepA at hstep
      rw [if_pos hc0] at hstep
      have HST := Lib.hid hstep
      rw [hc0] at q3
      clear hcell hstep
      have hobr : w1.heap.size ≤ wr.heap.size := by omega
      by_cases hsy : l[k].1 = true
      · rw [hsy] at r0
        rw [if_pos hsy] at HST
        have BXR := HBX
        have BWR := HBW
        obtain ⟨P, hP⟩ : ∃ P, P = fsyncOf O.fl := ⟨_, rfl⟩
        have hs := specFSync _ _ O.fl wr HFO.out.rd HZD.out.1 HZD.out.2.1 HZD.out.2.2
        rw [← hP] at hs HST
        have HS := Lib.hid hs
        clear hs hP
        go_wp2_with fail
        refine HS.out.mono ?_
        rintro e w2 ⟨s2, t2, rfl, ho2, hb2⟩
        obtain ⟨a5, p5, rfl, -⟩ := id ho2.1.2
        obtain ⟨a6, p6, rfl, -⟩ := id ho2.2.1.2
        have hbx2 := BXR.out.next hb2
        have k0 := hbx2.q0
        have k1 := hbx2.q1
        have k2 := hbx2.q2
        have k3 := hbx2.q3
        have g0 := hbx2.frozen 0
        have g1 := hbx2.frozen 1
        have g2 := hbx2.frozen 2
        have g3 := hbx2.frozen 3
        have HO2 := Lib.hid ho2
        have HBX2 := Lib.hid hbx2
        have HB2 := Lib.hid (BWR.out.trans (hb2.mono hobr))
        clear ho2 hb2 hbx2 HS
        go_wp2_with fail
        go_roundw
        case rel =>
          have fin : DoRel F l w (w.heap.size + 2) w1.heap.size 35 w1 (.int .i64 ((k : Int) + 1)) ((((w2.setCell ⟨w1.heap.size, 0, none⟩ (.slice a5 P.fl.sec.length p5)).setCell ⟨w1.heap.size, 1, none⟩ (.slice a6 P.fl.dir.length p6)).setCell ⟨w1.heap.size, 2, none⟩ (.string P.data)).setCell ⟨w1.heap.size, 3, none⟩ (.int .i64 P.code)) := by
            refine ⟨k + 1, .slice a5 P.fl.sec.length p5, .slice a6 P.fl.dir.length p6, by omega, by go_num, ?_, ?_, ?_, ?_⟩
            · rw [HST.out]
              exact (((HBX2.out.set _).set _).set _).set _
            · rw [HST.out]
              have hne : ∀ q, (blk (.slice a5 P.fl.sec.length p5) P.fl.sec.length = some q ∨ blk (.slice a6 P.fl.dir.length p6) P.fl.dir.length = some q) → q ≠ w1.heap.size := fun q hq => by have := (HO2.out.in q hq).1; have := hobr; omega
              exact ((((HO2.out.not (n := 0) _ _ hne).not (n := 0) _ _ hne).not (n := 0) _ _ hne).not (n := 0) _ _ hne).lower (by have := hobr; omega)
            · rw [HST.out]
              exact fun q hq => by have := (HO2.out.in q hq).1; have := hobr; omega
            · exact (((HB2.out.setCell (p := ⟨w1.heap.size, 0, none⟩) (Nat.le_refl _) _).setCell (p := ⟨w1.heap.size, 1, none⟩) (Nat.le_refl _) _).setCell (p := ⟨w1.heap.size, 2, none⟩) (Nat.le_refl _) _).setCell (p := ⟨w1.heap.size, 3, none⟩) (Nat.le_refl _) _
          first | exact fin | ((repeat apply Exists.intro); exact ⟨fin, rfl⟩)
        case measure => simp [intOf]; omega
      · have hsy' : l[k].1 = false := by simpa using hsy
        rw [hsy'] at r0
        rw [if_neg hsy] at HST
        have BXR := Lib.hid (HBX.out.next (drew_below wr))
        have BWR := Lib.hid HBW.out.drew
        have hdz : wr.drew.heap.size = wr.heap.size := rfl
        obtain ⟨P, hP⟩ : ∃ P, P = writeOf O.fl l[k].2.1 l[k].2.2 := ⟨_, rfl⟩
        have hs := specWrite _ _ O.fl l[k].2.1 l[k].2.2 wr.drew (HFO.out.below (drew_below wr) (Nat.le_refl _)).rd HZD.out.1 HZD.out.2.1 HZD.out.2.2 hsz
        rw [← hP] at hs HST
        have HS := Lib.hid hs
        clear hs hP
        go_wp2_with fail
        go_still_tail 12, (by kernel_rfl)
        change wpList _ _ _ _ _ wr.drew
        go_wp2_with fail
        refine HS.out.mono ?_
        rintro e w2 ⟨s2, t2, rfl, ho2, hb2⟩
        obtain ⟨a5, p5, rfl, -⟩ := id ho2.1.2
        obtain ⟨a6, p6, rfl, -⟩ := id ho2.2.1.2
        have hbx2 := BXR.out.next hb2
        have k0 := hbx2.q0
        have k1 := hbx2.q1
        have k2 := hbx2.q2
        have k3 := hbx2.q3
        have g0 := hbx2.frozen 0
        have g1 := hbx2.frozen 1
        have g2 := hbx2.frozen 2
        have g3 := hbx2.frozen 3
        have HO2 := Lib.hid ho2
        have HBX2 := Lib.hid hbx2
        have HB2 := Lib.hid (BWR.out.trans (hb2.mono hobr))
        clear ho2 hb2 hbx2 HS
        go_wp2_with fail
        go_roundw
        case rel =>
          have fin : DoRel F l w (w.heap.size + 2) w1.heap.size 35 w1 (.int .i64 ((k : Int) + 1)) ((((w2.setCell ⟨w1.heap.size, 0, none⟩ (.slice a5 P.fl.sec.length p5)).setCell ⟨w1.heap.size, 1, none⟩ (.slice a6 P.fl.dir.length p6)).setCell ⟨w1.heap.size, 2, none⟩ (.string P.data)).setCell ⟨w1.heap.size, 3, none⟩ (.int .i64 P.code)) := by
            refine ⟨k + 1, .slice a5 P.fl.sec.length p5, .slice a6 P.fl.dir.length p6, by omega, by go_num, ?_, ?_, ?_, ?_⟩
            · rw [HST.out]
              exact (((HBX2.out.set _).set _).set _).set _
            · rw [HST.out]
              have hne : ∀ q, (blk (.slice a5 P.fl.sec.length p5) P.fl.sec.length = some q ∨ blk (.slice a6 P.fl.dir.length p6) P.fl.dir.length = some q) → q ≠ w1.heap.size := fun q hq => by have := (HO2.out.in q hq).1; have := hobr; omega
              exact ((((HO2.out.not (n := 0) _ _ hne).not (n := 0) _ _ hne).not (n := 0) _ _ hne).not (n := 0) _ _ hne).lower (by have := hobr; omega)
            · rw [HST.out]
              exact fun q hq => by have := (HO2.out.in q hq).1; have := hobr; omega
            · exact (((HB2.out.setCell (p := ⟨w1.heap.size, 0, none⟩) (Nat.le_refl _) _).setCell (p := ⟨w1.heap.size, 1, none⟩) (Nat.le_refl _) _).setCell (p := ⟨w1.heap.size, 2, none⟩) (Nat.le_refl _) _).setCell (p := ⟨w1.heap.size, 3, none⟩) (Nat.le_refl _) _
          first | exact fin | ((repeat apply Exists.intro); exact ⟨fin, rfl⟩)
        case measure => simp [intOf]; omega
    · by_cases hc : O.code = 0
      · obtain rfl : k = l.length := by omega
        have hdo : doOf F l = O := by
          unfold doOf
          rw [List.take_length] at HO
          rw [← HO.out, if_pos hc]
        have DD := Lib.hid hdo
        have hy := Y1.out.below HBW.out (by omega)
        have k0 := hy.q0
        have k1 := hy.q1
        have k2 := hy.q2
        have k3 := hy.q3
        have g0 := hy.frozen 0
        have g1 := hy.frozen 1
        have g2 := hy.frozen 2
        have g3 := hy.frozen 3
        clear hdo hy
        have d9 : (O.code != 0) = false := by simp [hc]
        go_wp2_with fail
        refine bodyPost_ret (v := .agg #[.slice a3 O.fl.sec.length p3, .slice a4 O.fl.dir.length p4, .string O.data, .int .i64 0]) (by simp [results, Try.results33, go_sem, k0, k1, k2, k3]) rfl ⟨_, _, by rw [DD.out, hc], ?_, ?_⟩
        · rw [DD.out]
          exact ((((HFO.out.other _ _ (by simp)).other _ _ (by simp)).other _ _ (by simp)).other _ _ (by simp)).lower (by omega)
        · exact (((BWW.out.setCell (p := ⟨w.heap.size + 1, 0, none⟩) (by simp) _).setCell (p := ⟨w.heap.size + 1, 1, none⟩) (by simp) _).setCell (p := ⟨w.heap.size + 1, 2, none⟩) (by simp) _).setCell (p := ⟨w.heap.size + 1, 3, none⟩) (by simp) _
      · have hdo : doOf F l = illOf O.code := by
          unfold doOf
          rw [doL_stay F l k hk (by rw [← HO.out]; exact hc), ← HO.out, if_neg hc]
        have DD := Lib.hid hdo
        clear hdo
        have d8 : (O.code == 0) = false := by simpa using hc
        have d9 : (O.code != 0) = true := by simpa using hc
        by_cases hlt : k < l.length
        · have e0 : (k : Int) < (l.length : Int) := by omega
          go_wp2_with fail
          refine (specIll O.code wr).mono ?_
          rintro e w2 ⟨s2, t2, rfl, ho2, hb2⟩
          obtain ⟨a5, p5, rfl, -⟩ := id ho2.1.2
          obtain ⟨a6, p6, rfl, -⟩ := id ho2.2.1.2
          have hy := (Y1.out.below HBW.out (by omega)).next hb2
          have k0 := hy.q0
          have k1 := hy.q1
          have k2 := hy.q2
          have k3 := hy.q3
          have g0 := hy.frozen 0
          have g1 := hy.frozen 1
          have g2 := hy.frozen 2
          have g3 := hy.frozen 3
          have HO2 := Lib.hid (ho2.lower (show w.heap.size + 2 ≤ wr.heap.size by omega))
          have HB2 := Lib.hid (BWW.out.trans (hb2.mono (by omega)))
          clear ho2 hb2 hy
          go_wp2_with fail
          refine bodyPost_ret (v := .agg #[.slice a5 (illOf O.code).fl.sec.length p5, .slice a6 (illOf O.code).fl.dir.length p6, .string (illOf O.code).data, .int .i64 (illOf O.code).code]) (by simp [results, Try.results33, go_sem, k0, k1, k2, k3]) rfl ⟨_, _, by rw [DD.out], ?_, ?_⟩
          · rw [DD.out]
            exact ((((HO2.out.other _ _ (by simp)).other _ _ (by simp)).other _ _ (by simp)).other _ _ (by simp)).lower (by omega)
          · exact (((HB2.out.setCell (p := ⟨w.heap.size + 1, 0, none⟩) (by simp) _).setCell (p := ⟨w.heap.size + 1, 1, none⟩) (by simp) _).setCell (p := ⟨w.heap.size + 1, 2, none⟩) (by simp) _).setCell (p := ⟨w.heap.size + 1, 3, none⟩) (by simp) _
        · have e0 : decide ((k : Int) < (l.length : Int)) = false := decide_eq_false (by omega)
          go_wp2_with fail
          refine (specIll O.code wr).mono ?_
          rintro e w2 ⟨s2, t2, rfl, ho2, hb2⟩
          obtain ⟨a5, p5, rfl, -⟩ := id ho2.1.2
          obtain ⟨a6, p6, rfl, -⟩ := id ho2.2.1.2
          have hy := (Y1.out.below HBW.out (by omega)).next hb2
          have k0 := hy.q0
          have k1 := hy.q1
          have k2 := hy.q2
          have k3 := hy.q3
          have g0 := hy.frozen 0
          have g1 := hy.frozen 1
          have g2 := hy.frozen 2
          have g3 := hy.frozen 3
          have HO2 := Lib.hid (ho2.lower (show w.heap.size + 2 ≤ wr.heap.size by omega))
          have HB2 := Lib.hid (BWW.out.trans (hb2.mono (by omega)))
          clear ho2 hb2 hy
          go_wp2_with fail
          refine bodyPost_ret (v := .agg #[.slice a5 (illOf O.code).fl.sec.length p5, .slice a6 (illOf O.code).fl.dir.length p6, .string (illOf O.code).data, .int .i64 (illOf O.code).code]) (by simp [results, Try.results33, go_sem, k0, k1, k2, k3]) rfl ⟨_, _, by rw [DD.out], ?_, ?_⟩
          · rw [DD.out]
            exact ((((HO2.out.other _ _ (by simp)).other _ _ (by simp)).other _ _ (by simp)).other _ _ (by simp)).lower (by omega)
          · exact (((HB2.out.setCell (p := ⟨w.heap.size + 1, 0, none⟩) (by simp) _).setCell (p := ⟨w.heap.size + 1, 1, none⟩) (by simp) _).setCell (p := ⟨w.heap.size + 1, 2, none⟩) (by simp) _).setCell (p := ⟨w.heap.size + 1, 3, none⟩) (by simp) _
end Go.Proofs.Ytocjjkjjojdpdaa
