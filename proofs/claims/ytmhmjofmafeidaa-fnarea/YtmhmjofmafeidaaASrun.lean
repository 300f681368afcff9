/- spec.l05Runs, spec.ExtentsOf. -/
import Derived.Test.YtmhmjofmafeidaaAExt
namespace Go.Proofs.Ytmhmjofmafeidaa
open Go.RowKit

def MadeE (w : World) (l : List extT) (e : Ending) (w' : World) : Prop := ∃ v, e = .returned v ∧ Gr w' w.heap.size 40 2 v l.length (extCs l) ∧ Below w.heap.size w w'
theorem MadeE.row {w w' : World} {l : List extT} {e : Ending} (h : MadeE w l e w') : MadeRow w l.length 2 (extCs l) e w' := by
  obtain ⟨v, h1, h2, h3⟩ := h
  exact ⟨v, h1, h2.own, h3⟩
def SrRel (l : List Int) (w : World) (lv i : Value) (wr : World) : Prop :=
  ∃ k : Nat, k ≤ l.length ∧ i = .int .i64 k ∧ Gr wr w.heap.size 40 2 lv (rT l k).length (extCs (rT l k)) ∧ Below w.heap.size w wr
theorem extCs_bump (p : List extT) (e : extT) : (extCs (p ++ [e])).set (p.length * 2 + 1) (.int .i64 (e.2 + 1)) = extCs (p ++ [(e.1, e.2 + 1)]) := by
  rw [extCs_snoc, extCs_snoc, List.set_append_right _ _ (by rw [extCs_length]; omega), extCs_length, show p.length * 2 + 1 - p.length * 2 = 1 by omega]
  rfl
set_option maxRecDepth 100000 in
set_option maxHeartbeats 2000000 in
theorem specRuns (v : Value) (l : List Int) (w : World) (h : Rd w v l.length 1 (ints l)) (ho : okL l = true) :
    Calls Try.prog 54 #[v] w (MadeE w (runsL l)) := by
  obtain ⟨i0, hi, hz0, hz1, hz2⟩ := info_parts Try.infoext
  have hn := okL_len l ho
  obtain ⟨a, c, rfl, -⟩ := id h.2
  have HV := Lib.hid h
  clear h
  obtain ⟨R, hR⟩ : ∃ R, R = runsL l := ⟨_, rfl⟩
  rw [← hR]
  have HR := Lib.hid hR
  clear hR
  go_enter Try.func54, Try.ntmps54
  go_wp2_with fail
  go_loopw [3, 4] (fun lv i wr => SrRel l w lv i wr) (fun _ i _ => l.length - (intOf i).toNat)
  case atStart => exact ⟨0, by omega, rfl, .inr ⟨rfl, rfl, .inr ⟨_, rfl⟩⟩, below_alloc1 w _⟩
  case round =>
    obtain ⟨k, hk, rfl, hg, hb⟩ := hrel
    obtain ⟨a3, c3, rfl⟩ := hg.form
    have HG := Lib.hid hg
    have HB := Lib.hid hb
    have hsz := hb.size
    by_cases hlt : k < l.length
    · obtain ⟨b, off, rfl, hbl, hcell⟩ := HV.out.get (by omega)
      have hbk := okL_at l ho k hlt
      have r0 : wr.cell? ⟨b, off + k, none⟩ = some (.int .i64 l[k]) := by rw [hb.cell (p := ⟨b, off + k, none⟩) hbl, hcell k (by omega), ints_at l k hlt]
      have e0 : (k : Int) < (l.length : Int) := by omega
      have e1 : (0 : Int) ≤ (k : Int) := by omega
      have hl1 := rT_len l k
      cases hc : contB l k with
      | true =>
        obtain ⟨c1, c2⟩ := (contB_iff l k).1 hc
        have hb1 := okL_at l ho (k - 1) (by omega)
        have r1 : wr.cell? ⟨b, off + (k - 1), none⟩ = some (.int .i64 l[k - 1]) := by rw [hb.cell (p := ⟨b, off + (k - 1), none⟩) hbl, hcell (k - 1) (by omega), ints_at l (k - 1) (by omega)]
        rw [atL_eq l k hlt, atL_eq l (k - 1) (by omega)] at c2
        rw [← c2] at r0
        obtain ⟨p, e, hp⟩ := rT_last l k c1
        obtain ⟨g1, g2⟩ := rT_ends l ho k (by omega)
        have hge := (goodE_iff e).1 (g1 e (by rw [hp]; simp))
        have hnx : rT l (k + 1) = p ++ [(e.1, e.2 + 1)] := by rw [rT_yes l k hc, hp, bump_snoc]
        have HX := Lib.hid hnx
        have hlenR : (rT l k).length = p.length + 1 := by rw [hp]; simp
        rw [hp] at hg hl1
        have hpl : (p ++ [e]).length = p.length + 1 := by simp
        rw [hpl] at hg hl1
        obtain ⟨g, off3, rfl, hg1, hg2⟩ := hg.own.rd.get (by omega)
        obtain rfl := hg.at0 (by omega)
        have s0 := hg2 (p.length * 2 + 1) (by omega)
        rw [extCs_1 (p ++ [e]) p.length (by simp)] at s0
        simp at s0
        have sf := hg.own.get (by omega)
        obtain ⟨b9, o9, hb9, -, -, -, hf9⟩ := sf
        have sf1 := hf9 (p.length * 2 + 1) (by omega)
        simp at hb9
        obtain ⟨rfl, rfl⟩ := hb9
        have sf2 : wr.frozen? ⟨g, p.length * 2 + 1, none⟩ = false := by simpa using sf1
        clear sf1
        have hlow : w.heap.size ≤ g := (hg.own.blk g (by simp [blk, Value.ownBlock])).1
        have hS : ∀ m, Gr ((wr.drewN m).setCell ⟨g, p.length * 2 + 1, none⟩ (.int .i64 (e.2 + 1))) w.heap.size 40 2 (.slice (some ⟨g, 0, none⟩) (p.length + 1) c3) (p.length + 1) (extCs (p ++ [(e.1, e.2 + 1)])) := fun m => by
          have h9 : Gr (wr.drewN m) w.heap.size 40 2 (.slice (some ⟨g, 0, none⟩) (p.length + 1) c3) (p.length + 1) (extCs (p ++ [e])) := hg
          have h8 := h9.set (by omega) (p.length * 2 + 1) (.int .i64 (e.2 + 1))
          rw [extCs_bump] at h8
          exact h8
        have HS := Lib.hid hS
        clear hS
        have hge2 : e.1 + e.2 ≤ 24 ∧ 1 ≤ e.2 ∧ 0 ≤ e.1 := by omega
        clear hcell hb hg hnx hp g1 g2 hg2 hge hf9 hc
        generalize l[k - 1] = y at *
        generalize e.2 = e2 at *
        have d0 : decide ((0 : Int) < (k : Int)) = true := decide_eq_true (by omega)
        have d1 : decide (0 < k) = true := decide_eq_true c1
        have d2 : ((k : Int) - 1).toNat = k - 1 := by omega
        have d3 : (0 : Int) ≤ (k : Int) - 1 := by omega
        have d4 : (k : Int) - 1 < (l.length : Int) := by omega
        rw [hlenR]
        go_wp2_with fail
        go_quiet (fail)
        go_wp2_with fail
        go_roundw
        case rel =>
          refine ⟨k + 1, by omega, by go_num, ?_, ?_⟩
          · rw [HX.out]
            have := HS.out nq
            simpa using this
          · refine (below_drewN HB.out _).setCell (p := ⟨g, p.length * 2 + 1, none⟩) ?_ _
            exact hlow
        case measure => simp [intOf]; omega
      | false =>
        have HX := Lib.hid (rT_no l k hc)
        rw [atL_eq l k hlt] at HX
        have hbl2 : ∀ b, blk (.slice a3 (rT l k).length c3) (rT l k).length = some b → w.heap.size ≤ b := fun b hb => (HG.out.own.blk b hb).1
        have HBL := Lib.hid hbl2
        clear hbl2
        by_cases hk0 : 0 < k
        · have hb1 := okL_at l ho (k - 1) (by omega)
          have r1 : wr.cell? ⟨b, off + (k - 1), none⟩ = some (.int .i64 l[k - 1]) := by rw [hb.cell (p := ⟨b, off + (k - 1), none⟩) hbl, hcell (k - 1) (by omega), ints_at l (k - 1) (by omega)]
          have hne : ¬ l[k - 1] + 1 = l[k] := fun h => by
            have : contB l k = true := (contB_iff l k).2 ⟨hk0, by rw [atL_eq l k hlt, atL_eq l (k - 1) (by omega)]; exact h⟩
            rw [this] at hc; cases hc
          have d0 : decide ((0 : Int) < (k : Int)) = true := decide_eq_true (by omega)
          have d1 : decide (0 < k) = true := decide_eq_true hk0
          have d2 : ((k : Int) - 1).toNat = k - 1 := by omega
          have d3 : (0 : Int) ≤ (k : Int) - 1 := by omega
          have d4 : (k : Int) - 1 < (l.length : Int) := by omega
          clear hcell hb hg hc
          generalize l[k - 1] = y at *
          generalize l[k] = x at *
          have d5 : decide (y + 1 = x) = false := decide_eq_false hne
          have d6 : (y + 1 == x) = false := by simp; exact hne
          clear hne
          go_wp2_with fail
          go_quiet (fail)
          generalize hwq : wr.drewN nq = wq at *
          have HG1 := Lib.hid (show Gr wq w.heap.size 40 2 (.slice a3 (rT l k).length c3) (rT l k).length (extCs (rT l k)) by rw [← hwq]; exact HG.out)
          have HB1 := Lib.hid (show Below w.heap.size w wq by rw [← hwq]; exact below_drewN HB.out _)
          have hsq := HB1.out.size
          have r0q : wq.cell? ⟨b, off + k, none⟩ = some (.int .i64 x) := by rw [← hwq]; exact r0
          clear hwq
          go_wp2_with ((with_reducible show wpList _ _ _ (⟨some 48, _, _, _, _, _⟩ :: _) _ _); refine wpList_append_gr (lo := w.heap.size) (e := 40) (sz := 2) (v := .slice a3 (rT l k).length c3) (n := (rT l k).length) (xs := extCs (rT l k)) rfl (.tmp 41) (.tmp 47) 26 rfl i0 _ 16 Try.underlying26 hi hz0 hz1 hz2 rfl (by decide) rfl (by rw [extCs_length]) ?_ ⟨wq.heap.size, 0, none⟩ 1 1 rfl [.int .i64 x, .int .i64 1] (by decide) rfl ?_ ?_ (by unfold maxLen; omega) (by omega) (by simp; omega) ?_)
          · exact HG1.out.below (below_alloc1 wq _) (Nat.le_refl _)
          · exact two_new wq (.int .i64 x) (.int .i64 1) 40
          · intro u hu; simp at hu; rcases hu with rfl | rfl <;> rfl
          · intro gg cc w4 hgn hgr hloc
            have hbw : Below w.heap.size wq w4 := ((below_alloc1 wq _).mono hsq).trans ((Below.refl _ _).grown hgr (by simp; omega) HBL.out)
            have G4 := Lib.hid hgn
            have HB4 := Lib.hid (HB1.out.trans hbw)
            clear hgn hgr hloc hbw
            go_wp2_with fail
            go_roundw
            case rel =>
              refine ⟨k + 1, by omega, by go_num, ?_, HB4.out⟩
              rw [HX.out, extCs_snoc]
              have := G4.out
              simpa using this
            case measure => simp [intOf]; omega
        · obtain rfl : k = 0 := by omega
          have d1 : decide ((0 : Int) < 0) = false := by decide
          clear hcell hb hg hc
          generalize l[0] = x at *
          go_wp2_with fail
          go_quiet (fail)
          generalize hwq : wr.drewN nq = wq at *
          have HG1 := Lib.hid (show Gr wq w.heap.size 40 2 (.slice a3 (rT l 0).length c3) (rT l 0).length (extCs (rT l 0)) by rw [← hwq]; exact HG.out)
          have HB1 := Lib.hid (show Below w.heap.size w wq by rw [← hwq]; exact below_drewN HB.out _)
          have hsq := HB1.out.size
          have r0q : wq.cell? ⟨b, off, none⟩ = some (.int .i64 x) := by rw [← hwq]; exact r0
          clear hwq
          go_wp2_with ((with_reducible show wpList _ _ _ (⟨some 48, _, _, _, _, _⟩ :: _) _ _); refine wpList_append_gr (lo := w.heap.size) (e := 40) (sz := 2) (v := .slice a3 (rT l 0).length c3) (n := (rT l 0).length) (xs := extCs (rT l 0)) rfl (.tmp 41) (.tmp 47) 26 rfl i0 _ 16 Try.underlying26 hi hz0 hz1 hz2 rfl (by decide) rfl (by rw [extCs_length]) ?_ ⟨wq.heap.size, 0, none⟩ 1 1 rfl [.int .i64 x, .int .i64 1] (by decide) rfl ?_ ?_ (by unfold maxLen; omega) (by omega) (by simp; omega) ?_)
          · exact HG1.out.below (below_alloc1 wq _) (Nat.le_refl _)
          · exact two_new wq (.int .i64 x) (.int .i64 1) 40
          · intro u hu; simp at hu; rcases hu with rfl | rfl <;> rfl
          · intro gg cc w4 hgn hgr hloc
            have hbw : Below w.heap.size wq w4 := ((below_alloc1 wq _).mono hsq).trans ((Below.refl _ _).grown hgr (by simp; omega) HBL.out)
            have G4 := Lib.hid hgn
            have HB4 := Lib.hid (HB1.out.trans hbw)
            clear hgn hgr hloc hbw
            go_wp2_with fail
            go_roundw
            case rel =>
              refine ⟨0 + 1, by omega, by go_num, ?_, HB4.out⟩
              rw [HX.out, extCs_snoc]
              have := G4.out
              simpa using this
            case measure => simp [intOf]; omega
    · obtain rfl : k = l.length := by omega
      have hRR : R = rT l l.length := HR.out
      subst hRR
      clear hg hb
      go_wp2_with fail
      go_ret
      exact ⟨_, rfl, HG.out, HB.out⟩
set_option maxRecDepth 100000 in
set_option maxHeartbeats 1000000 in
theorem specExt (v : Value) (l : List Int) (w : World) (h : Rd w v l.length 1 (ints l)) (hn : l.length ≤ 1048576) :
    Calls Try.prog 20 #[v] w (MadeE w (extO l)) := by
  obtain ⟨a, c, rfl, -⟩ := id h.2
  have HV := Lib.hid h
  clear h
  cases ho : okL l with
  | false =>
    rw [extO_no l ho]
    go_enter Try.func20, Try.ntmps20
    go_wp2_with fail
    refine (specRightL _ l w HV.out hn).mono ?_
    rintro e w1 ⟨rfl, hst⟩
    have hb := hst.below w.heap.size
    rw [ho]
    clear hst
    go_wp2_with fail
    go_ret
    exact ⟨_, rfl, .inr ⟨rfl, rfl, .inr ⟨_, rfl⟩⟩, hb.trans ((below_alloc1 w1 _).mono hb.size)⟩
  | true =>
    rw [extO_yes l ho]
    go_enter Try.func20, Try.ntmps20
    go_wp2_with fail
    refine (specRightL _ l w HV.out hn).mono ?_
    rintro e w1 ⟨rfl, hst⟩
    have hb := hst.below w.heap.size
    rw [ho]
    clear hst
    go_wp2_with fail
    refine (specRuns _ l w1 (HV.out.below hb (Nat.le_refl _)) ho).mono ?_
    rintro e w2 ⟨v2, rfl, hg2, hb2⟩
    obtain ⟨a2, c2, rfl⟩ := hg2.form
    have hs := hb.size
    have HO := Lib.hid (hg2.lower hs)
    have HB := Lib.hid (hb.trans (hb2.mono hs))
    clear hg2 hb2 hb
    go_wp2_with fail
    go_ret
    exact ⟨_, rfl, HO.out, HB.out⟩
end Go.Proofs.Ytmhmjofmafeidaa
