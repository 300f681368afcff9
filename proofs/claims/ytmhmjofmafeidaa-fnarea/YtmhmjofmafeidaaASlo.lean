/- spec.ListOf. -/
import Derived.Test.YtmhmjofmafeidaaAIlo2
namespace Go.Proofs.Ytmhmjofmafeidaa
open Go.RowKit

def covT (l : List extT) (k f m j : Nat) : Nat := cnt (l.take k) j + (if f ≤ j ∧ j < f + m then 1 else 0)
def tookC (l : List extT) (k j : Nat) : Value := .int .i64 ((cnt (l.take k) j : Nat) : Int)
def coverC (l : List extT) (k f m j : Nat) : Value := .int .i64 ((covT l k f m j : Nat) : Int)
theorem cnt_take_le (l : List extT) (k j : Nat) : cnt (l.take k) j ≤ k := by
  unfold cnt
  exact Nat.le_trans List.countP_le_length (by simp; omega)
theorem cover_zero (l : List extT) (k f j : Nat) : coverC l k f 0 j = tookC l k j := by
  unfold coverC covT tookC; rw [if_neg (by omega)]; rfl
theorem cover_full (l : List extT) (k f m j : Nat) (h : k < l.length) (hf : l[k].1 = (f : Int)) (hc : l[k].2 = (m : Int)) : tookC l (k + 1) j = coverC l k f m j := by
  unfold coverC covT tookC
  rw [cnt_take l k h j]
  have : (cov l[k] j = true) ↔ (f ≤ j ∧ j < f + m) := by rw [cov_iff, hf, hc]; omega
  by_cases hh : f ≤ j ∧ j < f + m
  · rw [if_pos hh, if_pos (this.2 hh)]
  · rw [if_neg hh, if_neg (fun h => hh (this.1 h))]
/-- What the outer loop keeps: taken lies in the block behind the answer's. -/
def SlRel (l : List extT) (w : World) (i : Value) (wr : World) : Prop :=
  ∃ k : Nat, k ≤ l.length ∧ i = .int .i64 k ∧ (∀ j (h : j < l.length), j < k → goodE l[j] = true) ∧ CellsAt wr (w.heap.size + 1) 2 24 (tookC l k) ∧ Bx wr w.heap.size 30 #[.slice none 0 0, .int .i64 0] ∧ Below w.heap.size w wr
def SlIn (l : List extT) (k f c : Nat) (w : World) (i : Value) (wr : World) : Prop :=
  ∃ m : Nat, m ≤ c ∧ i = .int .i64 ((f + m : Nat) : Int) ∧ CellsAt wr (w.heap.size + 1) 2 24 (coverC l k f m) ∧ Bx wr w.heap.size 30 #[.slice none 0 0, .int .i64 0] ∧ Below w.heap.size w wr
def SlOut (l : List extT) (w : World) (lv i : Value) (wr : World) : Prop :=
  ∃ k : Nat, k ≤ 24 ∧ i = .int .i64 k ∧ (∀ j, j < k → cnt l j ≤ 1) ∧ Gr wr (w.heap.size + 2) 2 1 lv (onceT l k).length (ints (onceT l k)) ∧ CellsAt wr (w.heap.size + 1) 2 24 (tookC l l.length) ∧ Bx wr w.heap.size 30 #[.slice none 0 0, .int .i64 0] ∧ Below w.heap.size w wr ∧ w.heap.size + 2 ≤ wr.heap.size
theorem good_wraps (f c : Int) (g1 : 1 ≤ c) (g2 : c ≤ 24) (g3 : 0 ≤ f) (g4 : f ≤ 24 - c) : wrap64 (24 - c) = 24 - c ∧ wrap64 (f + c) = f + c ∧ IntKind.i64.wrap (f + c) = f + c :=
  ⟨IntWalk.wrap64_in _ (by omega), IntWalk.wrap64_in _ (by omega), by rw [IntKind.wrap_i64]; omega⟩
set_option maxHeartbeats 4000000 in
set_option maxRecDepth 100000 in
theorem specListOf (vl : Value) (l : List extT) (w : World) (hl : Rd w vl l.length 2 (extCs l)) (hn : l.length ≤ 1048576) (hf : FitE l) :
    Calls Try.prog 16 #[vl] w (OutL w (listO l)) := by
  obtain ⟨i0, hi, hz0, hz1, hz2⟩ := info_parts Try.info2
  obtain ⟨al, cl, rfl, -⟩ := id hl.2
  have HV := Lib.hid hl
  have HF := Lib.hid hf
  clear hl hf
  by_cases hbig : 400 < l.length
  · rw [listO_big l hbig]
    have d : decide ((400 : Int) < (l.length : Int)) = true := decide_eq_true (by omega)
    go_enter Try.func16, Try.ntmps16
    go_wp2_with fail
    refine bodyPost_ret (v := .agg #[.slice none 0 0, .int .i64 2]) (by simp [results, Try.results16, go_sem]) rfl ⟨_, rfl, Gr.nil _ _ _ _, ?_⟩
    exact below_alloc1 w _
  have d : decide ((400 : Int) < (l.length : Int)) = false := decide_eq_false (by omega)
  obtain ⟨R, hR⟩ : ∃ R, R = listO l := ⟨_, rfl⟩
  rw [← hR]
  have HR := Lib.hid hR
  clear hR
  have hx24 := hz2
  go_enter Try.func16, Try.ntmps16
  go_wp2_with (at_make; refine wpList_make_full _ rfl _ _ 23 rfl w.heap.size 2 i0 (.int .i64 0) 1 Try.underlying23 hi hz0 hz1 .i64 .i64 _ _ 24 rfl rfl (by omega) (by omega) (by rw [hz2]; omega) (by unfold maxLen; omega) (by simp) ?_)
  intro w1 hown1 hgrow1
  have hb1 : Below (w.heap.size + 1) (w.alloc (.cells #[.slice none 0 0, .int .i64 0] 30)) w1 := by
    have := (Below.refl (w.heap.size + 1) (w.alloc (.cells #[.slice none 0 0, .int .i64 0] 30))).grown hgrow1 (by simp) (by simp)
    exact this
  have hg1 := own_block hown1
  rw [toList_madeCells_one] at hg1
  try simp only [size_alloc1] at hg1 ⊢
  have HG1 := Lib.hid (made_ints hg1)
  have BX := Lib.hid ((bx_new w 30 #[.slice none 0 0, .int .i64 0]).below hb1 (by omega))
  have HB1 := Lib.hid ((below_alloc1 w (.cells #[.slice none 0 0, .int .i64 0] 30)).trans (hb1.mono (by simp)))
  clear hown1 hgrow1 hg1 hb1
  go_wp2_with fail
  go_loopw [4] (fun i wr => SlRel l w i wr) (fun i _ => l.length - (intOf i).toNat)
  case atStart => exact ⟨0, by omega, rfl, fun _ _ h => absurd h (by omega), HG1.out.congr (fun j _ => by simp [tookC, cnt]), BX.out, HB1.out⟩
  case round =>
    clear HG1 BX HB1
    obtain ⟨k, hk, rfl, hgood, hcs, bx, hb⟩ := hrel
    have HGD := Lib.hid hgood
    have HCS := Lib.hid hcs
    have BR := Lib.hid bx
    have HBR := Lib.hid hb
    clear hgood hcs bx hb
    have hsz := HBR.out.size
    by_cases hlt : k < l.length
    · obtain ⟨b, off, rfl, hbl, hcell⟩ := HV.out.get (by omega)
      have r0 : wr.cell? ⟨b, off + k * 2, none⟩ = some (.int .i64 l[k].1) := by rw [HBR.out.cell (p := ⟨b, off + k * 2, none⟩) hbl, hcell (k * 2) (by omega), extCs_0 l k hlt]
      have r1 : wr.cell? ⟨b, off + k * 2 + 1, none⟩ = some (.int .i64 l[k].2) := by rw [HBR.out.cell (p := ⟨b, off + k * 2 + 1, none⟩) hbl, Nat.add_assoc, hcell (k * 2 + 1) (by omega), extCs_1 l k hlt]
      clear hcell
      have e0 : (k : Int) < (l.length : Int) := by omega
      have e1 : (0 : Int) ≤ (k : Int) := by omega
      have hfit := HF.out k hlt
      obtain ⟨f, hf1⟩ : ∃ f : Int, l[k].1 = f := ⟨_, rfl⟩
      obtain ⟨c, hc1⟩ : ∃ c : Int, l[k].2 = c := ⟨_, rfl⟩
      rw [hf1] at r0 hfit
      rw [hc1] at r1
      have hx0 : 0 < l.length := by omega
      by_cases hgd : ¬ (1 ≤ c ∧ c ≤ 24 ∧ 0 ≤ f ∧ f ≤ 24 - c)
      · skip
        by_cases q0 : c < 1
        · have hb : goodE l[k] = false := by
            cases h : goodE l[k] with
            | false => rfl
            | true => have := (goodE_iff _).1 h; omega
          have hRR : R = ([], 1) := by rw [HR.out]; exact listO_bad l hbig _ (List.getElem_mem hlt) hb
          subst hRR
          clear hb
          skip
          have b0 : decide (c < 1) = true := decide_eq_true (by omega)
          have c0 := BR.out.cell 0
          have c1 := BR.out.cell 1
          have z0 := BR.out.frozen 0
          have z1 := BR.out.frozen 1
          simp at c0 c1
          go_wp2_with fail
          go_quiet (fail)
          have c0' : (wr.drewN nq).cell? ⟨w.heap.size, 0, none⟩ = some (.slice none 0 0) := c0
          have c1' : (wr.drewN nq).cell? ⟨w.heap.size, 1, none⟩ = some (.int .i64 0) := c1
          have z0' : (wr.drewN nq).frozen? ⟨w.heap.size, 0, none⟩ = false := z0
          have z1' : (wr.drewN nq).frozen? ⟨w.heap.size, 1, none⟩ = false := z1
          go_wp2_with fail
          refine bodyPost_ret (v := .agg #[.slice none 0 0, .int .i64 1]) (by simp [results, Try.results16, go_sem, c0', c1', c0, c1]) rfl ⟨_, rfl, Gr.nil _ _ _ _, ?_⟩
          exact ((below_drewN HBR.out _).setCell (p := ⟨w.heap.size, 0, none⟩) (Nat.le_refl _) _).setCell (p := ⟨w.heap.size, 1, none⟩) (Nat.le_refl _) _
        by_cases q1 : 24 < c
        · have hb : goodE l[k] = false := by
            cases h : goodE l[k] with
            | false => rfl
            | true => have := (goodE_iff _).1 h; omega
          have hRR : R = ([], 1) := by rw [HR.out]; exact listO_bad l hbig _ (List.getElem_mem hlt) hb
          subst hRR
          clear hb
          skip
          have b0 : decide (c < 1) = false := decide_eq_false (by omega)
          have b1 : decide ((24 : Int) < c) = true := decide_eq_true (by omega)
          have c0 := BR.out.cell 0
          have c1 := BR.out.cell 1
          have z0 := BR.out.frozen 0
          have z1 := BR.out.frozen 1
          simp at c0 c1
          go_wp2_with fail
          go_quiet (fail)
          have c0' : (wr.drewN nq).cell? ⟨w.heap.size, 0, none⟩ = some (.slice none 0 0) := c0
          have c1' : (wr.drewN nq).cell? ⟨w.heap.size, 1, none⟩ = some (.int .i64 0) := c1
          have z0' : (wr.drewN nq).frozen? ⟨w.heap.size, 0, none⟩ = false := z0
          have z1' : (wr.drewN nq).frozen? ⟨w.heap.size, 1, none⟩ = false := z1
          go_wp2_with fail
          refine bodyPost_ret (v := .agg #[.slice none 0 0, .int .i64 1]) (by simp [results, Try.results16, go_sem, c0', c1', c0, c1]) rfl ⟨_, rfl, Gr.nil _ _ _ _, ?_⟩
          exact ((below_drewN HBR.out _).setCell (p := ⟨w.heap.size, 0, none⟩) (Nat.le_refl _) _).setCell (p := ⟨w.heap.size, 1, none⟩) (Nat.le_refl _) _
        by_cases q2 : f < 0
        · have hb : goodE l[k] = false := by
            cases h : goodE l[k] with
            | false => rfl
            | true => have := (goodE_iff _).1 h; omega
          have hRR : R = ([], 1) := by rw [HR.out]; exact listO_bad l hbig _ (List.getElem_mem hlt) hb
          subst hRR
          clear hb
          skip
          have b0 : decide (c < 1) = false := decide_eq_false (by omega)
          have b1 : decide ((24 : Int) < c) = false := decide_eq_false (by omega)
          have b2 : decide (f < 0) = true := decide_eq_true (by omega)
          have c0 := BR.out.cell 0
          have c1 := BR.out.cell 1
          have z0 := BR.out.frozen 0
          have z1 := BR.out.frozen 1
          simp at c0 c1
          go_wp2_with fail
          go_quiet (fail)
          have c0' : (wr.drewN nq).cell? ⟨w.heap.size, 0, none⟩ = some (.slice none 0 0) := c0
          have c1' : (wr.drewN nq).cell? ⟨w.heap.size, 1, none⟩ = some (.int .i64 0) := c1
          have z0' : (wr.drewN nq).frozen? ⟨w.heap.size, 0, none⟩ = false := z0
          have z1' : (wr.drewN nq).frozen? ⟨w.heap.size, 1, none⟩ = false := z1
          go_wp2_with fail
          refine bodyPost_ret (v := .agg #[.slice none 0 0, .int .i64 1]) (by simp [results, Try.results16, go_sem, c0', c1', c0, c1]) rfl ⟨_, rfl, Gr.nil _ _ _ _, ?_⟩
          exact ((below_drewN HBR.out _).setCell (p := ⟨w.heap.size, 0, none⟩) (Nat.le_refl _) _).setCell (p := ⟨w.heap.size, 1, none⟩) (Nat.le_refl _) _
        by_cases q3 : 24 - c < f
        · have hb : goodE l[k] = false := by
            cases h : goodE l[k] with
            | false => rfl
            | true => have := (goodE_iff _).1 h; omega
          have hRR : R = ([], 1) := by rw [HR.out]; exact listO_bad l hbig _ (List.getElem_mem hlt) hb
          subst hRR
          clear hb
          have hw : wrap64 (24 - c) = 24 - c := IntWalk.wrap64_in _ (by omega)
          have b0 : decide (c < 1) = false := decide_eq_false (by omega)
          have b1 : decide ((24 : Int) < c) = false := decide_eq_false (by omega)
          have b2 : decide (f < 0) = false := decide_eq_false (by omega)
          have b3 : decide (24 - c < f) = true := decide_eq_true (by omega)
          have c0 := BR.out.cell 0
          have c1 := BR.out.cell 1
          have z0 := BR.out.frozen 0
          have z1 := BR.out.frozen 1
          simp at c0 c1
          go_wp2_with fail
          go_quiet (fail)
          have c0' : (wr.drewN nq).cell? ⟨w.heap.size, 0, none⟩ = some (.slice none 0 0) := c0
          have c1' : (wr.drewN nq).cell? ⟨w.heap.size, 1, none⟩ = some (.int .i64 0) := c1
          have z0' : (wr.drewN nq).frozen? ⟨w.heap.size, 0, none⟩ = false := z0
          have z1' : (wr.drewN nq).frozen? ⟨w.heap.size, 1, none⟩ = false := z1
          go_wp2_with fail
          refine bodyPost_ret (v := .agg #[.slice none 0 0, .int .i64 1]) (by simp [results, Try.results16, go_sem, c0', c1', c0, c1]) rfl ⟨_, rfl, Gr.nil _ _ _ _, ?_⟩
          exact ((below_drewN HBR.out _).setCell (p := ⟨w.heap.size, 0, none⟩) (Nat.le_refl _) _).setCell (p := ⟨w.heap.size, 1, none⟩) (Nat.le_refl _) _
        omega
      · have hgd' : 1 ≤ c ∧ c ≤ 24 ∧ 0 ≤ f ∧ f ≤ 24 - c := Decidable.not_not.1 hgd
        clear hgd
        obtain ⟨g1, g2, g3, g4⟩ := hgd'
        have hgk : goodE l[k] = true := by rw [goodE_iff]; omega
        clear hfit
        have HWR := Lib.hid (good_wraps f c g1 g2 g3 g4)
        obtain ⟨F, rfl⟩ : ∃ F : Nat, f = (F : Int) := ⟨f.toNat, by omega⟩
        obtain ⟨C, rfl⟩ : ∃ C : Nat, c = (C : Int) := ⟨c.toNat, by omega⟩
        have b0 : decide ((C : Int) < 1) = false := decide_eq_false (by omega)
        have b1 : decide ((24 : Int) < (C : Int)) = false := decide_eq_false (by omega)
        have b2 : decide ((F : Int) < 0) = false := decide_eq_false (by omega)
        have b3 : decide (24 - (C : Int) < (F : Int)) = false := decide_eq_false (by omega)
        have HFC := Lib.hid (fun j => cover_full l k F C j hlt hf1 hc1)
        have HGK := Lib.hid hgk
        clear hgk hf1 hc1
        obtain ⟨hw, hw2, hw3⟩ := HWR.out
        go_wp2_with fail
        go_quiet (fail)
        clear hw hw2 hw3
        have r0' : (wr.drewN nq).cell? ⟨b, off + k * 2, none⟩ = some (.int .i64 (F : Int)) := r0
        go_wp2_with fail
        go_loopw [5] (fun i wi => SlIn l k F C w i wi) (fun i _ => F + C - (intOf i).toNat)
        case atStart => exact ⟨0, by omega, by simp, HCS.out.drewN.congr (fun j _ => cover_zero l k F j), BR.out, below_drewN HBR.out _⟩
        case round =>
          clear HCS BR
          obtain ⟨m, hm, rfl, hcs, bx, hb⟩ := hrel
          have HCS := Lib.hid hcs
          have BI := Lib.hid bx
          have HBI := Lib.hid hb
          clear hcs bx hb
          have hszi := HBI.out.size
          have s0 : wr.cell? ⟨b, off + k * 2, none⟩ = some (.int .i64 (F : Int)) := by
            rw [HBI.out.cell (p := ⟨b, off + k * 2, none⟩) hbl, ← r0, HBR.out.cell (p := ⟨b, off + k * 2, none⟩) hbl]
          have s1 : wr.cell? ⟨b, off + k * 2 + 1, none⟩ = some (.int .i64 (C : Int)) := by
            rw [HBI.out.cell (p := ⟨b, off + k * 2 + 1, none⟩) hbl, ← r1, HBR.out.cell (p := ⟨b, off + k * 2 + 1, none⟩) hbl]
          by_cases hm2 : m < C
          · have d3 : decide (((F + m : Nat) : Int) < (F : Int) + (C : Int)) = true := decide_eq_true (by omega)
            have t0 := HCS.out.cell (F + m) (by omega)
            have t1 := HCS.out.frozen (F + m)
            have hct := cnt_take_le l k (F + m)
            obtain ⟨q, hq⟩ : ∃ q : Nat, coverC l k F m (F + m) = .int .i64 (q : Int) ∧ q = covT l k F m (F + m) := ⟨_, rfl, rfl⟩
            rw [hq.1] at t0
            have hq2 : q ≤ l.length + 1 := by
              rw [hq.2]; unfold covT
              split <;> omega
            have e3 : (0 : Int) ≤ ((F + m : Nat) : Int) := by omega
            have e4 : ((F + m : Nat) : Int) < 24 := by omega
            have hnext : covT l k F (m + 1) (F + m) = q + 1 := by
              rw [hq.2]; unfold covT
              rw [if_pos (by omega), if_neg (by omega)]
            have HNX := Lib.hid hnext
            clear hnext hct hq
            obtain ⟨hw, hw2, hw3⟩ := HWR.out
            go_wp2_with fail
            go_quiet (fail)
            clear hw hw2 hw3
            have t0' : (wr.drewN nq).cell? ⟨w.heap.size + 1, F + m, none⟩ = some (.int .i64 (q : Int)) := t0
            have t1' : (wr.drewN nq).frozen? ⟨w.heap.size + 1, F + m, none⟩ = false := t1
            go_wp2_with fail
            go_roundw
            case rel =>
              refine ⟨m + 1, by omega, by go_num, ?_, BI.out.other ⟨w.heap.size + 1, F + m, none⟩ _ (by simp), (below_drewN HBI.out _).setCell (p := ⟨w.heap.size + 1, F + m, none⟩) (by simp) _⟩
              refine HCS.out.drewN.set (F + m) _ ?_ ?_
              · unfold coverC; rw [HNX.out]; go_num
              · intro i hi
                unfold coverC covT
                by_cases h8 : F ≤ i ∧ i < F + m
                · rw [if_pos h8, if_pos (by omega)]
                · rw [if_neg h8, if_neg (by omega)]
            case measure => simp [intOf]; omega
          · obtain rfl : m = C := by omega
            have d3 : decide (((F + m : Nat) : Int) < (F : Int) + (m : Int)) = false := decide_eq_false (by omega)
            obtain ⟨hw, hw2, hw3⟩ := HWR.out
            go_wp2_with fail
            go_quiet (fail)
            clear hw hw2 hw3
            go_wp2_with fail
            go_roundw
            case rel =>
              refine ⟨k + 1, by omega, by go_num, ?_, HCS.out.drewN.congr (fun j _ => HFC.out j), BI.out, below_drewN HBI.out _⟩
              intro j hj hjk
              by_cases h8 : j = k
              · subst h8; exact HGK.out
              · exact HGD.out j hj (by omega)
            case measure => simp [intOf]; omega
    · obtain rfl : k = l.length := by omega
      have HG2 := Lib.hid (fun j hj => HGD.out j hj hj)
      have HW := Lib.hid (listO_twice l hbig HG2.out)
      have HO := Lib.hid (listO_list l hbig HG2.out)
      clear HGD
      have hlt2 := HCS.out.lt
      go_wp2_with fail
      go_loopw [6, 7] (fun lv i wr => SlOut l w lv i wr) (fun _ i _ => 24 - (intOf i).toNat)
      case atStart =>
        refine ⟨0, by omega, rfl, fun _ h => absurd h (by omega), .inr ⟨rfl, rfl, .inr ⟨_, rfl⟩⟩, HCS.out.below (below_alloc1 wr _) hlt2, BR.out.next (below_alloc1 wr _), HBR.out.trans ((below_alloc1 wr _).mono hsz), ?_⟩
        rw [size_alloc1]; omega
      case round =>
        clear HCS BR HBR
        obtain ⟨k, hk, rfl, hle, hg, hcs, bx, hb, hs2⟩ := hrel
        obtain ⟨a3, c3, rfl⟩ := hg.form
        have HLE := Lib.hid hle
        have HG := Lib.hid hg
        have HCS := Lib.hid hcs
        have BI := Lib.hid bx
        have HBI := Lib.hid hb
        clear hle hg hcs bx hb
        by_cases hlt : k < 24
        · have t0 := HCS.out.cell k hlt
          have e1 : (0 : Int) ≤ (k : Int) := by omega
          have e2 : (k : Int) < 24 := by omega
          unfold tookC at t0
          rw [List.take_length] at t0
          obtain ⟨q, hq⟩ : ∃ q, q = cnt l k := ⟨_, rfl⟩
          rw [← hq] at t0
          have HQ := Lib.hid hq
          clear hq
          by_cases q1 : 1 < q
          · have d5 : decide ((1 : Int) < (q : Int)) = true := decide_eq_true (by omega)
            have hRR : R = ([], 12) := by rw [HR.out]; exact HW.out ((twice_iff l).2 ⟨k, hlt, by rw [← HQ.out]; exact q1⟩)
            subst hRR
            have c0 := BI.out.cell 0
            have c1 := BI.out.cell 1
            have z0 := BI.out.frozen 0
            have z1 := BI.out.frozen 1
            simp at c0 c1
            go_wp2_with fail
            refine bodyPost_ret (v := .agg #[.slice none 0 0, .int .i64 12]) (by simp [results, Try.results16, go_sem, c0, c1]) rfl ⟨_, rfl, Gr.nil _ _ _ _, ?_⟩
            exact (HBI.out.setCell (p := ⟨w.heap.size, 0, none⟩) (Nat.le_refl _) _).setCell (p := ⟨w.heap.size, 1, none⟩) (Nat.le_refl _) _
          · have d5 : decide ((1 : Int) < (q : Int)) = false := decide_eq_false (by omega)
            have hlen := onceT_len l k
            have HLE2 : ∀ j, j < k + 1 → cnt l j ≤ 1 := fun j hj => by
              by_cases h8 : j = k
              · subst h8; rw [← HQ.out]; omega
              · exact HLE.out j (by omega)
            have HLE2 := Lib.hid HLE2
            by_cases q2 : q = 1
            · subst q2
              go_wp2_with ((with_reducible show wpList _ _ _ (⟨some 103, _, _, _, _, _⟩ :: _) _ _); refine wpList_append_gr (lo := w.heap.size + 2) (e := 2) (sz := 1) (v := .slice a3 (onceT l k).length c3) (n := (onceT l k).length) (xs := ints (onceT l k)) rfl (.tmp 100) (.tmp 102) 23 rfl i0 _ 8 Try.underlying23 hi hz0 hz1 hz2 rfl (by decide) rfl (by rw [ints_length]; omega) ?_ ⟨wr.heap.size, 0, none⟩ 1 1 rfl [.int .i64 (k : Int)] (by decide) rfl ?_ ?_ (by unfold maxLen; omega) (by omega) (by simp; omega) ?_)
              · exact HG.out.below (below_alloc1 wr _) (Nat.le_refl _)
              · exact one_new wr 2 (.int .i64 (k : Int))
              · intro u hu; simp at hu; subst hu; rfl
              · intro gg cc w4 hgn hgr hloc
                have hbl : ∀ b, blk (.slice a3 (onceT l k).length c3) (onceT l k).length = some b → w.heap.size + 2 ≤ b := fun b hb => (HG.out.own.blk b hb).1
                have hbw : Below (w.heap.size + 2) wr w4 := ((below_alloc1 wr _).mono hs2).trans ((Below.refl _ _).grown hgr (by simp; omega) hbl)
                have G4 := Lib.hid hgn
                have CS4 := Lib.hid (HCS.out.below hbw (by omega))
                have B4 := Lib.hid (BI.out.below hbw (by omega))
                have HB4 := Lib.hid (HBI.out.trans (hbw.mono (by omega)))
                have hs4 := hbw.size
                have ho : onceT l (k + 1) = onceT l k ++ [(k : Int)] := onceT_yes l k HQ.out.symm
                have HOY := Lib.hid ho
                clear hgn hgr hloc hbl hbw ho
                go_wp2_with fail
                go_roundw
                case rel =>
                  refine ⟨k + 1, by omega, by go_num, HLE2.out, ?_, CS4.out, B4.out, HB4.out, by omega⟩
                  rw [HOY.out]
                  have := G4.out
                  simp [ints] at this ⊢
                  exact this
                case measure => simp [intOf]; omega
            · have d6 : decide ((q : Int) = 1) = false := decide_eq_false (by omega)
              have d7 : ((q : Int) == 1) = false := by simp; omega
              have HOY := Lib.hid (onceT_no l k (by rw [← HQ.out]; exact q2))
              go_wp2_with fail
              go_roundw
              case rel =>
                refine ⟨k + 1, by omega, by go_num, HLE2.out, ?_, HCS.out, BI.out, HBI.out, hs2⟩
                rw [HOY.out]; exact HG.out
              case measure => simp [intOf]; omega
        · obtain rfl : k = 24 := by omega
          have hRR : R = (onceT l 24, 0) := by
            rw [HR.out]
            refine HO.out ((twice_not l).2 fun j hj => HLE.out j hj)
          subst hRR
          have c0 := BI.out.cell 0
          have c1 := BI.out.cell 1
          have z0 := BI.out.frozen 0
          have z1 := BI.out.frozen 1
          simp at c0 c1
          go_wp2_with fail
          refine bodyPost_ret (v := .agg #[.slice a3 (onceT l 24).length c3, .int .i64 0]) (by simp [results, Try.results16, go_sem, c0, c1]) rfl ⟨_, rfl, ?_, ?_⟩
          · exact ((HG.out.low _ _ (by simp)).low _ _ (by simp)).lower (by omega)
          · exact (HBI.out.setCell (p := ⟨w.heap.size, 0, none⟩) (Nat.le_refl _) _).setCell (p := ⟨w.heap.size, 1, none⟩) (Nat.le_refl _) _
end Go.Proofs.Ytmhmjofmafeidaa
