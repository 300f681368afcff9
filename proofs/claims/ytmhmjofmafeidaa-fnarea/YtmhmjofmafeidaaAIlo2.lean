/- impl.ListOf. -/
import Derived.Test.YtmhmjofmafeidaaAIlo
namespace Go.Proofs.Ytmhmjofmafeidaa
open Go.RowKit

/-- An answer with a list of the call's own. -/
def OutL (w : World) (o : List Int × Int) (e : Ending) (w' : World) : Prop := ∃ v, e = .returned (.agg #[v, .int .i64 o.2]) ∧ Gr w' w.heap.size 2 1 v o.1.length (ints o.1) ∧ Below w.heap.size w w'
theorem covN_nat (f c : Nat) : covN ((f : Int), (c : Int)) = (2 ^ c - 1) * 2 ^ f := by simp [covN]
/-- What the program's loop keeps. -/
def LoRel (l : List extT) (w : World) (b i : Value) (wr : World) : Prop :=
  ∃ k : Nat, k ≤ l.length ∧ i = .int .i64 k ∧ b = .int .i64 ((orT l k : Nat) : Int) ∧ (∀ j, cnt (l.take k) j ≤ 1) ∧ Bx wr w.heap.size 30 #[.slice none 0 0, .int .i64 0] ∧ Below w.heap.size w wr
set_option maxHeartbeats 2000000 in
set_option maxRecDepth 100000 in
theorem implListOf (vl : Value) (l : List extT) (w : World) (hl : Rd w vl l.length 2 (extCs l)) (hn : l.length ≤ 1048576) (hf : FitE l) :
    Calls Try.prog 15 #[vl] w (OutL w (listO l)) := by
  obtain ⟨al, cl, rfl, -⟩ := id hl.2
  have HV := Lib.hid hl
  clear hl
  by_cases hbig : 400 < l.length
  · rw [listO_big l hbig]
    have d : decide ((400 : Int) < (l.length : Int)) = true := decide_eq_true (by omega)
    go_enter Try.func15, Try.ntmps15
    go_wp2_with fail
    refine bodyPost_ret (v := .agg #[.slice none 0 0, .int .i64 2]) (by simp [results, Try.results15, go_sem]) rfl ⟨_, rfl, Gr.nil _ _ _ _, ?_⟩
    exact below_alloc1 w _
  have d : decide ((400 : Int) < (l.length : Int)) = false := decide_eq_false (by omega)
  cases hall : l.all goodE with
  | false =>
    have hR : listO l = ([], 1) := by unfold listO; rw [if_neg hbig, hall]; rfl
    rw [hR]
    clear hR
    go_enter Try.func15, Try.ntmps15
    go_wp2_with fail
    refine (containsE_any _ l _ (HV.out.below (below_alloc1 w _) (Nat.le_refl _)) hn hf).mono ?_
    rintro e w1 ⟨rfl, hb⟩
    rw [hall]
    have bx := (bx_new w 30 #[.slice none 0 0, .int .i64 0]).next hb
    have HB := Lib.hid ((below_alloc1 w (.cells #[.slice none 0 0, .int .i64 0] 30)).trans (hb.mono (by simp)))
    clear hb
    have c0 := bx.cell 0
    have c1 := bx.cell 1
    have z0 := bx.frozen 0
    have z1 := bx.frozen 1
    simp at c0 c1
    go_wp2_with fail
    refine bodyPost_ret (v := .agg #[.slice none 0 0, .int .i64 1]) (by simp [results, Try.results15, go_sem, c0, c1]) rfl ⟨_, rfl, Gr.nil _ _ _ _, ?_⟩
    exact (HB.out.setCell (p := ⟨w.heap.size, 0, none⟩) (Nat.le_refl _) _).setCell (p := ⟨w.heap.size, 1, none⟩) (Nat.le_refl _) _
  | true =>
    have hg : ∀ j (hj : j < l.length), goodE l[j] = true := fun j hj => (List.all_eq_true.1 hall) _ (List.getElem_mem hj)
    have HGD := Lib.hid hg
    have HW := Lib.hid (listO_twice l hbig hg)
    have HO := Lib.hid (listO_list l hbig hg)
    clear hg
    obtain ⟨R, hR⟩ : ∃ R, R = listO l := ⟨_, rfl⟩
    rw [← hR]
    have HR := Lib.hid hR
    clear hR
    go_enter Try.func15, Try.ntmps15
    go_wp2_with fail
    refine (containsE_any _ l _ (HV.out.below (below_alloc1 w _) (Nat.le_refl _)) hn hf).mono ?_
    rintro e w1 ⟨rfl, hb⟩
    rw [hall]
    have BX := Lib.hid ((bx_new w 30 #[.slice none 0 0, .int .i64 0]).next hb)
    have HB := Lib.hid ((below_alloc1 w (.cells #[.slice none 0 0, .int .i64 0] 30)).trans (hb.mono (by simp)))
    clear hb
    go_wp2_with fail
    go_loopw [3, 16] (fun b i wr => LoRel l w b i wr) (fun _ i _ => l.length - (intOf i).toNat)
    case atStart => exact ⟨0, by omega, rfl, rfl, fun j => by simp [cnt], BX.out, HB.out⟩
    case round =>
      obtain ⟨k, hk, rfl, rfl, h1, bx, hb⟩ := hrel
      have H1 := Lib.hid h1
      have BR := Lib.hid bx
      have HBR := Lib.hid hb
      clear h1 bx hb
      have hsz := HBR.out.size
      by_cases hlt : k < l.length
      · obtain ⟨b, off, rfl, hbl, hcell⟩ := HV.out.get (by omega)
        have r0 : wr.cell? ⟨b, off + k * 2, none⟩ = some (.int .i64 l[k].1) := by rw [HBR.out.cell (p := ⟨b, off + k * 2, none⟩) hbl, hcell (k * 2) (by omega), extCs_0 l k hlt]
        have r1 : wr.cell? ⟨b, off + k * 2 + 1, none⟩ = some (.int .i64 l[k].2) := by rw [HBR.out.cell (p := ⟨b, off + k * 2 + 1, none⟩) hbl, Nat.add_assoc, hcell (k * 2 + 1) (by omega), extCs_1 l k hlt]
        clear hcell
        have hgk := (goodE_iff _).1 (HGD.out k hlt)
        obtain ⟨f, hf1⟩ : ∃ f : Nat, l[k].1 = (f : Int) := ⟨l[k].1.toNat, by omega⟩
        obtain ⟨c, hc1⟩ : ∃ c : Nat, l[k].2 = (c : Int) := ⟨l[k].2.toNat, by omega⟩
        have hcov : covN l[k] = (2 ^ c - 1) * 2 ^ f := by rw [← covN_nat, ← hf1, ← hc1]
        have hfc : f + c ≤ 24 := by omega
        have hlt1 := covN_lt _ (HGD.out k hlt)
        have hlt2 := orT_lt l HGD.out k (by omega)
        have hor := i64_or (orT l k) (covN l[k]) (Nat.lt_trans hlt2 (by decide)) (Nat.lt_trans hlt1 (by decide))
        have hand := i64_and (orT l k) (covN l[k]) (Nat.lt_trans hlt2 (by decide)) (Nat.lt_trans hlt1 (by decide))
        rw [← orT_succ l k hlt] at hor
        have HY := Lib.hid (and_yes l HGD.out k hlt)
        have HN := Lib.hid (and_no l HGD.out k hlt)
        have HC := Lib.hid hcov
        rw [hf1] at r0
        rw [hc1] at r1
        clear hgk hf1 hc1 hcov hlt1 hlt2
        generalize covN l[k] = Y at *
        generalize hX : orT l k = X at *
        generalize hX2 : orT l (k + 1) = X2 at *
        have e0 : (k : Int) < (l.length : Int) := by omega
        have e1 : (0 : Int) ≤ (k : Int) := by omega
        go_wp2_with fail
        refine (extBits_any f c _ hfc).mono ?_
        rintro e w2 ⟨rfl, hb2⟩
        rw [← HC.out]
        have BX2 := Lib.hid (BR.out.next ((below_alloc1 wr (.cells #[.int .i64 (f : Int), .int .i64 (c : Int)] 40)).trans (hb2.mono (by simp))))
        have HB2 := Lib.hid (HBR.out.trans (((below_alloc1 wr (.cells #[.int .i64 (f : Int), .int .i64 (c : Int)] 40)).trans (hb2.mono (by simp))).mono hsz))
        clear hb2
        by_cases hz : X &&& Y = 0
        · rw [hz] at hand
          have HN2 := Lib.hid (HN.out hz H1.out)
          clear hz
          go_wp2_with fail
          go_roundw
          case rel => exact ⟨k + 1, by omega, by go_num, by rw [hX2], HN2.out, BX2.out, HB2.out⟩
          case measure => simp [intOf]; omega
        · have HY2 := HY.out hz
          have hRR : R = ([], 12) := by rw [HR.out, HW.out HY2]
          subst hRR
          obtain ⟨z, hz1⟩ : ∃ z, z = X &&& Y := ⟨_, rfl⟩
          rw [← hz1] at hand hz
          clear hz1
          have d9 : ((z : Int) != 0) = true := by simp; exact hz
          have c0 := BX2.out.cell 0
          have c1 := BX2.out.cell 1
          have z0 := BX2.out.frozen 0
          have z1 := BX2.out.frozen 1
          simp at c0 c1
          go_wp2_with fail
          refine bodyPost_ret (v := .agg #[.slice none 0 0, .int .i64 12]) (by simp [results, Try.results15, go_sem, c0, c1]) rfl ⟨_, rfl, Gr.nil _ _ _ _, ?_⟩
          exact (HB2.out.setCell (p := ⟨w.heap.size, 0, none⟩) (Nat.le_refl _) _).setCell (p := ⟨w.heap.size, 1, none⟩) (Nat.le_refl _) _
      · obtain rfl : k = l.length := by omega
        have d1 : decide ((l.length : Int) < (l.length : Int)) = false := decide_eq_false (by omega)
        have h1' : ∀ j, cnt l j ≤ 1 := by have := H1.out; rwa [List.take_length] at this
        have htw : twice l = false := (twice_not l).2 fun j _ => h1' j
        have hRR : R = (onceT l 24, 0) := by rw [HR.out, HO.out htw]
        subst hRR
        have hfr := from_or l HGD.out h1' 24 (Nat.le_refl _)
        have hlt2 := orT_lt l HGD.out l.length (Nat.le_refl _)
        have hfb : fromB ((orT l l.length : Nat) : Int) = onceT l 24 := by
          unfold fromB
          rw [if_pos ⟨by omega, by omega⟩]; exact hfr
        clear hfr h1' htw
        generalize orT l l.length = X at *
        go_wp2_with fail
        have hc := implFromB (X : Int) wr (by omega) (by omega)
        rw [hfb] at hc
        refine hc.mono ?_
        clear hc hfb
        rintro e w6 ⟨v6, rfl, hg6, hb6⟩
        obtain ⟨a6, c6, rfl⟩ := hg6.form
        have BX6 := BR.out.next hb6
        have HB6 := Lib.hid (HBR.out.trans (hb6.mono hsz))
        have hlo : w.heap.size < wr.heap.size := BR.out.lt
        have HG6 := Lib.hid hg6
        clear hg6 hb6
        have c0 := BX6.cell 0
        have c1 := BX6.cell 1
        have z0 := BX6.frozen 0
        have z1 := BX6.frozen 1
        simp at c0 c1
        go_wp2_with fail
        refine bodyPost_ret (v := .agg #[.slice a6 (onceT l 24).length c6, .int .i64 0]) (by simp [results, Try.results15, go_sem, c0, c1]) rfl ⟨_, rfl, ?_, ?_⟩
        · exact ((HG6.out.low _ _ hlo).low _ _ hlo).lower (by omega)
        · exact (HB6.out.setCell (p := ⟨w.heap.size, 0, none⟩) (Nat.le_refl _) _).setCell (p := ⟨w.heap.size, 1, none⟩) (Nat.le_refl _) _
end Go.Proofs.Ytmhmjofmafeidaa
