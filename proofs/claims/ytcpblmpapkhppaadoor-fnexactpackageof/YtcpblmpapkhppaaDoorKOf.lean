/- PackageOf: the specification's and the program's. -/
import Derived.Test.YtcpblmpapkhppaaDoorCDig
import Derived.Test.YtcpblmpapkhppaaDoorCISf
import Derived.Test.YtcpblmpapkhppaaDoorCSFor
import Derived.Test.YtcpblmpapkhppaaDoorKOut
namespace Go.Proofs.YtcpblmpapkhppaaDoor
open Go.RowKit

def lab1 : stpT := (5, 0, 1, ⟨#[]⟩)
/-- What PackageOf answers. -/
def pkOf (old fresh : List ByteArray) : pkT × Int := if 400 < old.length ∨ 400 < fresh.length then (noPk, 2) else if alikeB old fresh = true then (((old.length : Int), imgDig fresh, forL old fresh ++ [lab1]), 0) else (noPk, 1)
theorem pkOf_size {old fresh : List ByteArray} (h : 400 < old.length ∨ 400 < fresh.length) : pkOf old fresh = (noPk, 2) := by unfold pkOf; rw [if_pos h]
theorem pkOf_no {old fresh : List ByteArray} (h : ¬ (400 < old.length ∨ 400 < fresh.length)) (ha : ¬ alikeB old fresh = true) : pkOf old fresh = (noPk, 1) := by unfold pkOf; rw [if_neg h, if_neg ha]
theorem pkOf_yes {old fresh : List ByteArray} (h : ¬ (400 < old.length ∨ 400 < fresh.length)) (ha : alikeB old fresh = true) : pkOf old fresh = (((old.length : Int), imgDig fresh, forL old fresh ++ [lab1]), 0) := by unfold pkOf; rw [if_neg h, if_pos ha]
theorem pkOf_len (old fresh : List ByteArray) : (pkOf old fresh).1.2.2.length ≤ 20 := by
  unfold pkOf
  split
  · exact Nat.zero_le _
  · split
    · have := forL_len old fresh
      show (forL old fresh ++ [lab1]).length ≤ 20
      rw [List.length_append]; simp; omega
    · exact Nat.zero_le _
theorem four_setO {w w' : World} {g : Nat} (h : Below g w w') (a b c d : Value) : Below g w ((((w'.setCell ⟨g, 0, none⟩ a).setCell ⟨g, 1, none⟩ b).setCell ⟨g, 2, none⟩ c).setCell ⟨g, 3, none⟩ d) :=
  (((h.setCell (p := ⟨g, 0, none⟩) (Nat.le_refl _) a).setCell (p := ⟨g, 1, none⟩) (Nat.le_refl _) b).setCell (p := ⟨g, 2, none⟩) (Nat.le_refl _) c).setCell (p := ⟨g, 3, none⟩) (Nat.le_refl _) d
theorem Bx.o4 {w : World} {n : Nat} {T : TypeId} {a b c d : Value} (h : Bx w n T #[a, b, c, d]) : (w.cell? ⟨n, 0, none⟩ = some a ∧ w.cell? ⟨n, 1, none⟩ = some b ∧ w.cell? ⟨n, 2, none⟩ = some c ∧ w.cell? ⟨n, 3, none⟩ = some d) ∧ (w.frozen? ⟨n, 0, none⟩ = false ∧ w.frozen? ⟨n, 1, none⟩ = false ∧ w.frozen? ⟨n, 2, none⟩ = false ∧ w.frozen? ⟨n, 3, none⟩ = false) :=
  ⟨⟨h.q0, h.q1, h.q2, h.q3⟩, h.frozen 0, h.frozen 1, h.frozen 2, h.frozen 3⟩
set_option maxHeartbeats 1000000 in
theorem specIll8O (x : Int) (w : World) :
    Calls Tryd.prog 61 #[.int .i64 x] w fun e w' => e = .returned (.agg #[.int .i64 0, .string { data := #[] }, .slice none 0 0, .int .i64 x]) ∧ Below w.heap.size w w' := by
  go_enter Tryd.func61, Tryd.ntmps61
  go_wp2_with fail
  refine bodyPost_ret (v := .agg #[.int .i64 0, .string { data := #[] }, .slice none 0 0, .int .i64 x]) (by simp [results, Tryd.results61, go_sem]) rfl ⟨rfl, ?_⟩
  exact below_alloc1 w _

set_option maxRecDepth 100000 in
set_option maxHeartbeats 2000000 in
theorem specPkOf (v u : Value) (old fresh : List ByteArray) (w : World) (h : Rd w v old.length 1 (strs old)) (hu : Rd w u fresh.length 1 (strs fresh)) (hn : old.length ≤ 1048576) (hm : fresh.length ≤ 1048576) :
    Calls Tryd.prog 12 #[v, u] w (MadePk (pkOf old fresh) w) := by
  obtain ⟨i0, hi, hz0, hz1, hz2⟩ := info_parts Tryd.infostp
  obtain ⟨a, c, rfl, -⟩ := id h.2
  obtain ⟨a', c', rfl, -⟩ := id hu.2
  obtain ⟨R, hR⟩ : ∃ R, R = pkOf old fresh := ⟨_, rfl⟩
  rw [← hR]
  have HR := Lib.hid hR
  have HA := Lib.hid h
  have HU := Lib.hid hu
  clear hR h hu
  have Y := Lib.hid (bx_new w 28 #[.int .i64 0, .string { data := #[] }, .slice none 0 0, .int .i64 0])
  have B := Lib.hid (below_alloc1 w (.cells #[.int .i64 0, .string { data := #[] }, .slice none 0 0, .int .i64 0] 28))
  have z0 := size_alloc1 w (.cells #[.int .i64 0, .string { data := #[] }, .slice none 0 0, .int .i64 0] 28)
  by_cases hbig : 400 < old.length ∨ 400 < fresh.length
  · have hr := HR.out.trans (pkOf_size hbig)
    have HRR := Lib.hid hr
    clear hr HR
    by_cases h1 : 400 < old.length
    · have d0 : decide ((400 : Int) < (old.length : Int)) = true := decide_eq_true (by omega)
      go_enter Tryd.func12, Tryd.ntmps12
      go_wp2_with fail
      try generalize w.alloc (.cells #[.int .i64 0, .string { data := #[] }, .slice none 0 0, .int .i64 0] 28) = W0 at *
      go_wp2_with fail
      refine (specIll8O 2 _).mono ?_
      rintro e w2 ⟨rfl, hb⟩
      replace Y := Lib.hid (Y.out.next hb)
      replace B := Lib.hid (below_more B.out hb)
      clear hb
      obtain ⟨⟨y0, y1, y2, y3⟩, f0, f1, f2, f3⟩ := Y.out.o4
      go_wp2_with fail
      refine bodyPost_ret (v := .agg #[.int .i64 0, .string { data := #[] }, .slice none 0 0, .int .i64 2]) (by simp [results, Tryd.results12, go_sem, y0, y1, y2, y3]) rfl ⟨.slice none 0 0, by rw [HRR.out]; rfl, by rw [HRR.out]; exact Gr.nil _ _ _ _, ?_⟩
      first | exact four_setO B.out _ _ _ _ | exact below_alloc1 w _
    · have d0 : decide ((400 : Int) < (old.length : Int)) = false := decide_eq_false (by omega)
      have d1 : decide ((400 : Int) < (fresh.length : Int)) = true := decide_eq_true (by omega)
      go_enter Tryd.func12, Tryd.ntmps12
      go_wp2_with fail
      try generalize w.alloc (.cells #[.int .i64 0, .string { data := #[] }, .slice none 0 0, .int .i64 0] 28) = W0 at *
      go_wp2_with fail
      refine (specIll8O 2 _).mono ?_
      rintro e w2 ⟨rfl, hb⟩
      replace Y := Lib.hid (Y.out.next hb)
      replace B := Lib.hid (below_more B.out hb)
      clear hb
      obtain ⟨⟨y0, y1, y2, y3⟩, f0, f1, f2, f3⟩ := Y.out.o4
      go_wp2_with fail
      refine bodyPost_ret (v := .agg #[.int .i64 0, .string { data := #[] }, .slice none 0 0, .int .i64 2]) (by simp [results, Tryd.results12, go_sem, y0, y1, y2, y3]) rfl ⟨.slice none 0 0, by rw [HRR.out]; rfl, by rw [HRR.out]; exact Gr.nil _ _ _ _, ?_⟩
      first | exact four_setO B.out _ _ _ _ | exact below_alloc1 w _
  have d0 : decide ((400 : Int) < (old.length : Int)) = false := decide_eq_false (by omega)
  have d1 : decide ((400 : Int) < (fresh.length : Int)) = false := decide_eq_false (by omega)
  go_enter Tryd.func12, Tryd.ntmps12
  go_wp2_with fail
  generalize w.alloc (.cells #[.int .i64 0, .string { data := #[] }, .slice none 0 0, .int .i64 0] 28) = W0 at *
  refine (specImg _ old W0 (HA.out.below B.out (Nat.le_refl _)) hn).mono ?_
  rintro e w1 ⟨rfl, rfl⟩
  cases hio : imgB old with
  | false =>
    have hr := HR.out.trans (pkOf_no hbig (fun h => by have := ((alikeB_iff _ _).1 h).1; rw [hio] at this; cases this))
    have HRR := Lib.hid hr
    clear hr HR hio
    go_wp2_with fail
    refine (specIll8O 1 _).mono ?_
    rintro e w2 ⟨rfl, hb⟩
    replace Y := Lib.hid (Y.out.next hb)
    replace B := Lib.hid (below_more B.out hb)
    clear hb
    obtain ⟨⟨y0, y1, y2, y3⟩, f0, f1, f2, f3⟩ := Y.out.o4
    go_wp2_with fail
    refine bodyPost_ret (v := .agg #[.int .i64 0, .string { data := #[] }, .slice none 0 0, .int .i64 1]) (by simp [results, Tryd.results12, go_sem, y0, y1, y2, y3]) rfl ⟨.slice none 0 0, by rw [HRR.out]; rfl, by rw [HRR.out]; exact Gr.nil _ _ _ _, ?_⟩
    first | exact four_setO B.out _ _ _ _ | exact below_alloc1 w _
  | true =>
  go_wp2_with fail
  refine (specImg _ fresh W0 (HU.out.below B.out (Nat.le_refl _)) hm).mono ?_
  rintro e w1 ⟨rfl, rfl⟩
  cases hif : imgB fresh with
  | false =>
    have hr := HR.out.trans (pkOf_no hbig (fun h => by have := ((alikeB_iff _ _).1 h).2.1; rw [hif] at this; cases this))
    have HRR := Lib.hid hr
    clear hr HR hio hif
    go_wp2_with fail
    refine (specIll8O 1 _).mono ?_
    rintro e w2 ⟨rfl, hb⟩
    replace Y := Lib.hid (Y.out.next hb)
    replace B := Lib.hid (below_more B.out hb)
    clear hb
    obtain ⟨⟨y0, y1, y2, y3⟩, f0, f1, f2, f3⟩ := Y.out.o4
    go_wp2_with fail
    refine bodyPost_ret (v := .agg #[.int .i64 0, .string { data := #[] }, .slice none 0 0, .int .i64 1]) (by simp [results, Tryd.results12, go_sem, y0, y1, y2, y3]) rfl ⟨.slice none 0 0, by rw [HRR.out]; rfl, by rw [HRR.out]; exact Gr.nil _ _ _ _, ?_⟩
    first | exact four_setO B.out _ _ _ _ | exact below_alloc1 w _
  | true =>
  by_cases hlen : old.length = fresh.length
  rotate_left
  · have hr := HR.out.trans (pkOf_no hbig (fun h => hlen ((alikeB_iff _ _).1 h).2.2))
    have HRR := Lib.hid hr
    have dl : ((old.length : Int) != (fresh.length : Int)) = true := by simp; omega
    clear hr HR hio hif
    go_wp2_with fail
    refine (specIll8O 1 _).mono ?_
    rintro e w2 ⟨rfl, hb⟩
    replace Y := Lib.hid (Y.out.next hb)
    replace B := Lib.hid (below_more B.out hb)
    clear hb
    obtain ⟨⟨y0, y1, y2, y3⟩, f0, f1, f2, f3⟩ := Y.out.o4
    go_wp2_with fail
    refine bodyPost_ret (v := .agg #[.int .i64 0, .string { data := #[] }, .slice none 0 0, .int .i64 1]) (by simp [results, Tryd.results12, go_sem, y0, y1, y2, y3]) rfl ⟨.slice none 0 0, by rw [HRR.out]; rfl, by rw [HRR.out]; exact Gr.nil _ _ _ _, ?_⟩
    first | exact four_setO B.out _ _ _ _ | exact below_alloc1 w _
  have hr := HR.out.trans (pkOf_yes hbig ((alikeB_iff _ _).2 ⟨hio, hif, hlen⟩))
  have HRR := Lib.hid hr
  have dl : ((old.length : Int) != (fresh.length : Int)) = false := by simp; omega
  clear hr HR hio hif hlen
  go_wp2_with fail
  have FL := Lib.hid (forL_len old fresh)
  refine (specStepsFor _ _ old fresh W0 (HA.out.below B.out (Nat.le_refl _)) (HU.out.below B.out (Nat.le_refl _)) hn hm).mono ?_
  rintro e w2 ⟨v2, rfl, hgr, hb⟩
  obtain ⟨l, hl⟩ : ∃ l, l = forL old fresh := ⟨_, rfl⟩
  rw [← hl] at hgr FL HRR
  clear hl
  obtain ⟨a3, c3, rfl⟩ := gr_form hgr
  have g2 := hb.size
  have hll := FL.out
  have hbl : ∀ kk, blk (.slice a3 l.length c3) l.length = some kk → W0.heap.size ≤ kk := fun kk h => (hgr.own.blk kk h).1
  have HBL := Lib.hid hbl
  have G := Lib.hid hgr
  replace Y := Lib.hid (Y.out.next hb)
  replace B := Lib.hid (below_more B.out hb)
  clear hb hgr hbl
  go_wp2_with ((with_reducible show wpList _ _ _ (⟨some 36, _, _, _, _, _⟩ :: _) _ _); refine wpList_append_gr (lo := W0.heap.size) (e := 48) (sz := 4) (v := .slice a3 l.length c3) (n := l.length) (xs := stpCs l) rfl (.tmp 33) (.tmp 35) 24 rfl i0 _ 40 Tryd.underlying24 hi hz0 hz1 hz2 rfl (by decide) rfl (by rw [stpCs_length]) ?_ ⟨w2.heap.size, 0, none⟩ 1 1 rfl [.int .i64 5, .int .i64 0, .int .i64 1, .string { data := #[] }] (by decide) rfl ?_ ?_ (by unfold maxLen; omega) (by omega) (by simp; omega) ?_)
  · exact G.out.below (below_alloc1 _ _) (Nat.le_refl _)
  · exact four_new w2 _ _ _ _ 48
  · intro u hu; simp at hu; rcases hu with rfl | rfl | rfl | rfl <;> rfl
  · intro gg cc w5 hgn hgr hloc
    have b7 := below_alloc1 w2 (.cells #[.int .i64 5, .int .i64 0, .int .i64 1, .string { data := #[] }] 48)
    have neY : some w.heap.size ≠ blk (.slice a3 l.length c3) l.length := fun e => by have := HBL.out _ e.symm; omega
    have g7 := b7.size
    have g5 := hgr.size
    replace Y := Lib.hid ((Y.out.next b7).grown hgr neY)
    replace B := Lib.hid ((B.out.trans (b7.mono B.out.size)).grown hgr (by omega) (fun kk hkk => by have := HBL.out kk hkk; omega))
    have G5 := Lib.hid hgn
    have HMK := Lib.hid (show stpCs (l ++ [lab1]) = stpCs l ++ [.int .i64 5, .int .i64 0, .int .i64 1, .string { data := #[] }] from stpCs_snoc l lab1)
    have hdig := specImgDig _ fresh w5 (HU.out.below B.out (Nat.le_refl _)) hm
    obtain ⟨D, hD⟩ : ∃ D, D = imgDig fresh := ⟨_, rfl⟩
    rw [← hD] at hdig HRR
    have HDG := Lib.hid hdig
    clear hgn hgr hloc b7 hdig hD
    go_wp2_with fail
    refine HDG.out.mono ?_
    clear HDG
    rintro e w6 ⟨rfl, hb⟩
    have g6 := hb.size
    replace Y := Lib.hid (Y.out.next hb)
    replace B := Lib.hid (below_more B.out hb)
    replace G5 := Lib.hid (G5.out.below hb (Nat.le_refl _))
    clear hb
    obtain ⟨⟨y0, y1, y2, y3⟩, f0, f1, f2, f3⟩ := Y.out.o4
    go_wp2_with fail
    refine bodyPost_ret (v := .agg #[.int .i64 (old.length : Int), .string D, .slice (some ⟨gg, 0, none⟩) (l.length + 1) cc, .int .i64 0]) (by simp [results, Tryd.results12, go_sem, y0, y1, y2, y3]) rfl ⟨.slice (some ⟨gg, 0, none⟩) (l.length + 1) cc, by rw [HRR.out]; rfl, ?_, ?_⟩
    · rw [HRR.out]
      show Gr _ _ _ _ _ (l ++ [lab1]).length (stpCs (l ++ [lab1]))
      rw [HMK.out, List.length_append]
      exact ((((G5.out.low ⟨w.heap.size, 0, none⟩ _ (by first | (simp; done) | (simp; omega))).low ⟨w.heap.size, 1, none⟩ _ (by first | (simp; done) | (simp; omega))).low ⟨w.heap.size, 2, none⟩ _ (by first | (simp; done) | (simp; omega))).low ⟨w.heap.size, 3, none⟩ _ (by first | (simp; done) | (simp; omega))).lower (by omega)
    · exact four_setO B.out _ _ _ _

set_option maxRecDepth 100000 in
set_option maxHeartbeats 2000000 in
theorem implPkOf (v u : Value) (old fresh : List ByteArray) (w : World) (h : Rd w v old.length 1 (strs old)) (hu : Rd w u fresh.length 1 (strs fresh)) (hn : old.length ≤ 1048576) (hm : fresh.length ≤ 1048576) (hl : Laid w) (hcap : ∀ a c, u = .slice a fresh.length c → fresh.length ≤ c) :
    Calls Tryd.prog 14 #[v, u] w (MadePk (pkOf old fresh) w) := by
  obtain ⟨i0, hi, hz0, hz1, hz2⟩ := info_parts Tryd.infostp
  obtain ⟨a, c, rfl, -⟩ := id h.2
  obtain ⟨a', c', rfl, -⟩ := id hu.2
  obtain ⟨R, hR⟩ : ∃ R, R = pkOf old fresh := ⟨_, rfl⟩
  rw [← hR]
  have HR := Lib.hid hR
  have HA := Lib.hid h
  have HU := Lib.hid hu
  clear hR h hu
  have HL := Lib.hid hl
  have HC := Lib.hid (hcap _ _ rfl)
  clear hl hcap
  have Y := Lib.hid (bx_new w 28 #[.int .i64 0, .string { data := #[] }, .slice none 0 0, .int .i64 0])
  have B := Lib.hid (below_alloc1 w (.cells #[.int .i64 0, .string { data := #[] }, .slice none 0 0, .int .i64 0] 28))
  have z0 := size_alloc1 w (.cells #[.int .i64 0, .string { data := #[] }, .slice none 0 0, .int .i64 0] 28)
  by_cases hbig : 400 < old.length ∨ 400 < fresh.length
  · have hr := HR.out.trans (pkOf_size hbig)
    have HRR := Lib.hid hr
    clear hr HR
    by_cases h1 : 400 < old.length
    · have d0 : decide ((400 : Int) < (old.length : Int)) = true := decide_eq_true (by omega)
      go_enter Tryd.func14, Tryd.ntmps14
      go_wp2_with fail
      try generalize w.alloc (.cells #[.int .i64 0, .string { data := #[] }, .slice none 0 0, .int .i64 0] 28) = W0 at *
      obtain ⟨⟨y0, y1, y2, y3⟩, f0, f1, f2, f3⟩ := Y.out.o4
      go_wp2_with fail
      refine bodyPost_ret (v := .agg #[.int .i64 0, .string { data := #[] }, .slice none 0 0, .int .i64 2]) (by simp [results, Tryd.results14, go_sem, y0, y1, y2, y3]) rfl ⟨.slice none 0 0, by rw [HRR.out]; rfl, by rw [HRR.out]; exact Gr.nil _ _ _ _, ?_⟩
      first | exact four_setO B.out _ _ _ _ | exact below_alloc1 w _
    · have d0 : decide ((400 : Int) < (old.length : Int)) = false := decide_eq_false (by omega)
      have d1 : decide ((400 : Int) < (fresh.length : Int)) = true := decide_eq_true (by omega)
      go_enter Tryd.func14, Tryd.ntmps14
      go_wp2_with fail
      try generalize w.alloc (.cells #[.int .i64 0, .string { data := #[] }, .slice none 0 0, .int .i64 0] 28) = W0 at *
      obtain ⟨⟨y0, y1, y2, y3⟩, f0, f1, f2, f3⟩ := Y.out.o4
      go_wp2_with fail
      refine bodyPost_ret (v := .agg #[.int .i64 0, .string { data := #[] }, .slice none 0 0, .int .i64 2]) (by simp [results, Tryd.results14, go_sem, y0, y1, y2, y3]) rfl ⟨.slice none 0 0, by rw [HRR.out]; rfl, by rw [HRR.out]; exact Gr.nil _ _ _ _, ?_⟩
      first | exact four_setO B.out _ _ _ _ | exact below_alloc1 w _
  have d0 : decide ((400 : Int) < (old.length : Int)) = false := decide_eq_false (by omega)
  have d1 : decide ((400 : Int) < (fresh.length : Int)) = false := decide_eq_false (by omega)
  go_enter Tryd.func14, Tryd.ntmps14
  go_wp2_with fail
  generalize w.alloc (.cells #[.int .i64 0, .string { data := #[] }, .slice none 0 0, .int .i64 0] 28) = W0 at *
  refine (implAlike _ _ old fresh W0 (HA.out.below B.out (Nat.le_refl _)) (HU.out.below B.out (Nat.le_refl _)) hn hm).mono ?_
  rintro e w1 ⟨rfl, rfl⟩
  cases hal : alikeB old fresh with
  | false =>
    have hr := HR.out.trans (pkOf_no hbig (fun h => by rw [hal] at h; cases h))
    have HRR := Lib.hid hr
    clear hr HR hal
    obtain ⟨⟨y0, y1, y2, y3⟩, f0, f1, f2, f3⟩ := Y.out.o4
    go_wp2_with fail
    refine bodyPost_ret (v := .agg #[.int .i64 0, .string { data := #[] }, .slice none 0 0, .int .i64 1]) (by simp [results, Tryd.results14, go_sem, y0, y1, y2, y3]) rfl ⟨.slice none 0 0, by rw [HRR.out]; rfl, by rw [HRR.out]; exact Gr.nil _ _ _ _, ?_⟩
    first | exact four_setO B.out _ _ _ _ | exact below_alloc1 w _
  | true =>
  have hr := HR.out.trans (pkOf_yes hbig hal)
  have HRR := Lib.hid hr
  clear hr HR hal
  go_wp2_with fail
  have FL := Lib.hid (forL_len old fresh)
  refine (implStepsFor _ _ old fresh W0 (HA.out.below B.out (Nat.le_refl _)) (HU.out.below B.out (Nat.le_refl _)) hn hm).mono ?_
  rintro e w2 ⟨v2, rfl, hgr, hb⟩
  obtain ⟨l, hl⟩ : ∃ l, l = forL old fresh := ⟨_, rfl⟩
  rw [← hl] at hgr FL HRR
  clear hl
  obtain ⟨a3, c3, rfl⟩ := gr_form hgr
  have g2 := hb.size
  have hll := FL.out
  have hbl : ∀ kk, blk (.slice a3 l.length c3) l.length = some kk → W0.heap.size ≤ kk := fun kk h => (hgr.own.blk kk h).1
  have HBL := Lib.hid hbl
  have G := Lib.hid hgr
  replace Y := Lib.hid (Y.out.next hb)
  replace B := Lib.hid (below_more B.out hb)
  clear hb hgr hbl
  go_wp2_with ((with_reducible show wpList _ _ _ (⟨some 25, _, _, _, _, _⟩ :: _) _ _); refine wpList_append_gr (lo := W0.heap.size) (e := 48) (sz := 4) (v := .slice a3 l.length c3) (n := l.length) (xs := stpCs l) rfl (.tmp 22) (.tmp 24) 24 rfl i0 _ 40 Tryd.underlying24 hi hz0 hz1 hz2 rfl (by decide) rfl (by rw [stpCs_length]) ?_ ⟨w2.heap.size, 0, none⟩ 1 1 rfl [.int .i64 5, .int .i64 0, .int .i64 1, .string { data := #[] }] (by decide) rfl ?_ ?_ (by unfold maxLen; omega) (by omega) (by simp; omega) ?_)
  · exact G.out.below (below_alloc1 _ _) (Nat.le_refl _)
  · exact four_new w2 _ _ _ _ 48
  · intro u hu; simp at hu; rcases hu with rfl | rfl | rfl | rfl <;> rfl
  · intro gg cc w5 hgn hgr hloc
    have b7 := below_alloc1 w2 (.cells #[.int .i64 5, .int .i64 0, .int .i64 1, .string { data := #[] }] 48)
    have neY : some w.heap.size ≠ blk (.slice a3 l.length c3) l.length := fun e => by have := HBL.out _ e.symm; omega
    have g7 := b7.size
    have g5 := hgr.size
    replace Y := Lib.hid ((Y.out.next b7).grown hgr neY)
    replace B := Lib.hid ((B.out.trans (b7.mono B.out.size)).grown hgr (by omega) (fun kk hkk => by have := HBL.out kk hkk; omega))
    have G5 := Lib.hid hgn
    have HMK := Lib.hid (show stpCs (l ++ [lab1]) = stpCs l ++ [.int .i64 5, .int .i64 0, .int .i64 1, .string { data := #[] }] from stpCs_snoc l lab1)
    have hdig := implImgDig a' c' fresh w5 (HU.out.below B.out (Nat.le_refl _)) hm HC.out (HL.out.below B.out HL.out.two)
    obtain ⟨D, hD⟩ : ∃ D, D = imgDig fresh := ⟨_, rfl⟩
    rw [← hD] at hdig HRR
    have HDG := Lib.hid hdig
    clear hgn hgr hloc b7 hdig hD
    go_wp2_with fail
    refine HDG.out.mono ?_
    clear HDG
    rintro e w6 ⟨rfl, hb⟩
    have g6 := hb.size
    replace Y := Lib.hid (Y.out.next hb)
    replace B := Lib.hid (below_more B.out hb)
    replace G5 := Lib.hid (G5.out.below hb (Nat.le_refl _))
    clear hb
    obtain ⟨⟨y0, y1, y2, y3⟩, f0, f1, f2, f3⟩ := Y.out.o4
    go_wp2_with fail
    refine bodyPost_ret (v := .agg #[.int .i64 (old.length : Int), .string D, .slice (some ⟨gg, 0, none⟩) (l.length + 1) cc, .int .i64 0]) (by simp [results, Tryd.results14, go_sem, y0, y1, y2, y3]) rfl ⟨.slice (some ⟨gg, 0, none⟩) (l.length + 1) cc, by rw [HRR.out]; rfl, ?_, ?_⟩
    · rw [HRR.out]
      show Gr _ _ _ _ _ (l ++ [lab1]).length (stpCs (l ++ [lab1]))
      rw [HMK.out, List.length_append]
      exact ((((G5.out.low ⟨w.heap.size, 0, none⟩ _ (by first | (simp; done) | (simp; omega))).low ⟨w.heap.size, 1, none⟩ _ (by first | (simp; done) | (simp; omega))).low ⟨w.heap.size, 2, none⟩ _ (by first | (simp; done) | (simp; omega))).low ⟨w.heap.size, 3, none⟩ _ (by first | (simp; done) | (simp; omega))).lower (by omega)
    · exact four_setO B.out _ _ _ _
end Go.Proofs.YtcpblmpapkhppaaDoor
