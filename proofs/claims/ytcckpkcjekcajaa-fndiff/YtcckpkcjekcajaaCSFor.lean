/- The specification's l07For and StepsFor. -/
import Derived.Test.YtcckpkcjekcajaaM3
import Derived.Test.YtcckpkcjekcajaaBWrites
namespace Go.Proofs.Ytcckpkcjekcajaa
open Go.RowKit

theorem text_eq (a b : ByteArray) : (a.toList == b.toList) = decide (a = b) := by
  by_cases h : a = b
  · subst h; simp
  · rw [decide_eq_false h]
    rw [beq_eq_false_iff_ne]
    intro e
    rw [ByteArray.toList_eq, ByteArray.toList_eq] at e
    exact h (ByteArray.ext (Array.toList_inj.1 e))
theorem findIdx_first {l : List ByteArray} {p : ByteArray → Bool} {i : Nat} (hi : i < l.length) (hp : p l[i] = true) (hb : ∀ j (h : j < l.length), j < i → p l[j] = false) : l.findIdx? p = some i :=
  List.findIdx?_eq_some_iff_getElem.2 ⟨hi, hp, fun j hj => by rw [hb j (by omega) hj]; simp⟩
theorem findIdx_no {l : List ByteArray} {p : ByteArray → Bool} (hb : ∀ j (h : j < l.length), p l[j] = false) : l.findIdx? p = none := by
  rw [List.findIdx?_eq_none_iff]
  intro s hs
  obtain ⟨j, hj, rfl⟩ := List.getElem_of_mem hs
  exact hb j hj
theorem stepFor_zero {old : List ByteArray} {to : Nat} {fresh : ByteArray} (h : fresh = zero8) : stepForS old to fresh = (1, (to : Int), 0, ⟨#[]⟩) := by unfold stepForS; rw [if_pos h]
theorem stepFor_copy {old : List ByteArray} {to : Nat} {fresh : ByteArray} (h : fresh ≠ zero8) {i : Nat} (hi : i < old.length) (hp : old[i] = fresh) (hb : ∀ j (h : j < old.length), j < i → old[j] ≠ fresh) : stepForS old to fresh = (3, (to : Int), (i : Int), ⟨#[]⟩) := by
  unfold stepForS; rw [if_neg h, findIdx_first hi (by simpa using hp) (fun j hj hji => by simpa using hb j hj hji)]
theorem stepFor_xor {old : List ByteArray} {to : Nat} {fresh : ByteArray} (h : fresh ≠ zero8) (hn : ∀ j (h : j < old.length), old[j] ≠ fresh) {i : Nat} (hi : i < old.length) (hp : diffN old[i] fresh ≤ 2) (hb : ∀ j (h : j < old.length), j < i → ¬ diffN old[j] fresh ≤ 2) : stepForS old to fresh = (4, (to : Int), (i : Int), xorS old[i] fresh) := by
  unfold stepForS
  rw [if_neg h, findIdx_no (p := fun s => decide (s = fresh)) (fun j hj => by simpa using hn j hj), findIdx_first (p := fun s => decide (diffN s fresh ≤ 2)) hi (by simpa using hp) (fun j hj hji => by simpa using hb j hj hji)]
  have hg : old.getD i ⟨#[]⟩ = old[i] := by rw [List.getD_eq_getElem?_getD, List.getElem?_eq_getElem hi]; rfl
  simp only [hg]
theorem stepFor_put {old : List ByteArray} {to : Nat} {fresh : ByteArray} (h : fresh ≠ zero8) (hn : ∀ j (h : j < old.length), old[j] ≠ fresh) (hb : ∀ j (h : j < old.length), ¬ diffN old[j] fresh ≤ 2) : stepForS old to fresh = (2, (to : Int), 0, fresh) := by
  unfold stepForS
  rw [if_neg h, findIdx_no (p := fun s => decide (s = fresh)) (fun j hj => by simpa using hn j hj), findIdx_no (p := fun s => decide (diffN s fresh ≤ 2)) (fun j hj => by simpa using hb j hj)]
/-- A step as it is returned. -/
def stpW (x : stpT) : Value := .agg #[.int .i64 x.1, .int .i64 x.2.1, .int .i64 x.2.2.1, .string x.2.2.2]
theorem four_set {w w' : World} {g : Nat} (h : Below g w w') (a b c d : Value) : Below g w ((((w'.setCell ⟨g, 0, none⟩ a).setCell ⟨g, 1, none⟩ b).setCell ⟨g, 2, none⟩ c).setCell ⟨g, 3, none⟩ d) :=
  (((h.setCell (p := ⟨g, 0, none⟩) (Nat.le_refl _) a).setCell (p := ⟨g, 1, none⟩) (Nat.le_refl _) b).setCell (p := ⟨g, 2, none⟩) (Nat.le_refl _) c).setCell (p := ⟨g, 3, none⟩) (Nat.le_refl _) d
def FoR1 (old : List ByteArray) (fresh : ByteArray) (i : Value) : Prop := ∃ k : Nat, k ≤ old.length ∧ i = .int .i64 k ∧ ∀ j (h : j < old.length), j < k → old[j] ≠ fresh
def FoR2 (old : List ByteArray) (fresh : ByteArray) (W : World) (i : Value) (wr : World) : Prop := ∃ k : Nat, k ≤ old.length ∧ i = .int .i64 k ∧ (∀ j (h : j < old.length), j < k → ¬ diffN old[j] fresh ≤ 2) ∧ Still W wr
theorem diffN_le (a b : ByteArray) : diffN a b ≤ 8 := by rw [← diffT_all]; exact diffT_le a b 8

set_option maxRecDepth 100000 in
set_option maxHeartbeats 2000000 in
theorem specFor (v : Value) (old : List ByteArray) (to : Nat) (fresh : ByteArray) (w : World) (h : Rd w v old.length 1 (strs old)) (ho : ImgOk old) (hf : fresh.size = 8) (ht : to ≤ 1048576) :
    Calls Try.prog 68 #[v, .int .i64 (to : Int), .string fresh] w fun e w' => e = .returned (stpW (stepForS old to fresh)) ∧ Below w.heap.size w w' := by
  obtain ⟨⟨n0, n1⟩, hsz⟩ := ho
  obtain ⟨a, c, rfl, -⟩ := id h.2
  obtain ⟨R, hR⟩ : ∃ R, R = stepForS old to fresh := ⟨_, rfl⟩
  rw [← hR]
  have HR := Lib.hid hR
  clear hR
  have g0 := below_alloc1 w (.cells #[.int .i64 0, .int .i64 0, .int .i64 0, .string ⟨#[]⟩] 57)
  have X0 := Lib.hid (bx_new w 57 #[.int .i64 0, .int .i64 0, .int .i64 0, .string ⟨#[]⟩])
  have HA := Lib.hid (h.below g0 (Nat.le_refl _))
  have G0 := Lib.hid g0
  have HF := Lib.hid hf
  have HS := Lib.hid hsz
  have hz := size_alloc1 w (.cells #[.int .i64 0, .int .i64 0, .int .i64 0, .string ⟨#[]⟩] 57)
  have htx := text_eq fresh zero8
  clear g0 h hf hsz
  go_enter Try.func68, Try.ntmps68
  go_wp2_with fail
  generalize w.alloc (.cells #[.int .i64 0, .int .i64 0, .int .i64 0, .string ⟨#[]⟩] 57) = W0 at *
  refine (specZero W0).mono ?_
  rintro e W1 ⟨rfl, hb⟩
  have hx := X0.out.next hb
  have RA := Lib.hid (HA.out.below hb (Nat.le_refl _))
  have G1 := Lib.hid (G0.out.trans (hb.mono (by omega)))
  have hz1 := hb.size
  clear HA G0 hb
  by_cases hzero : fresh = zero8
  · have hr : R = (1, (to : Int), 0, ⟨#[]⟩) := by rw [HR.out]; exact stepFor_zero hzero
    subst hr
    rw [decide_eq_true hzero] at htx
    have c0 := hx.q0
    have c1 := hx.q1
    have c2 := hx.q2
    have c3 := hx.q3
    have z0 := hx.frozen 0
    have z1 := hx.frozen 1
    have z2 := hx.frozen 2
    have z3 := hx.frozen 3
    clear HR hzero hx
    go_wp2_with fail
    refine bodyPost_ret (v := stpW (1, (to : Int), 0, ⟨#[]⟩)) (by simp [stpW, results, Try.results68, go_sem, c0, c1, c2, c3]) rfl ⟨rfl, ?_⟩
    exact four_set G1.out _ _ _ _
  rw [decide_eq_false hzero] at htx
  have HX := Lib.hid hx
  have NZ := Lib.hid hzero
  clear hx hzero
  go_wp2_with fail
  go_loop [7] (fun i => FoR1 old fresh i) (fun i => old.length - (intOf i).toNat)
  case atStart => exact ⟨0, by omega, rfl, fun j _ hj => absurd hj (by omega)⟩
  case round =>
    obtain ⟨k, hk, rfl, hno⟩ := hrel
    have NO := Lib.hid hno
    clear hno
    by_cases hlt : k < old.length
    · obtain ⟨b, off, rfl, hbl, hcell⟩ := RA.out.get (by omega)
      have r0 : W1.cell? ⟨b, off + k, none⟩ = some (.string old[k]) := by rw [hcell k (by omega), strs_at old k hlt]
      have hte := text_eq old[k] fresh
      clear hcell
      by_cases he : old[k] = fresh
      · have hr : R = (3, (to : Int), (k : Int), ⟨#[]⟩) := by rw [HR.out]; exact stepFor_copy NZ.out hlt he NO.out
        subst hr
        rw [decide_eq_true he] at hte
        have c0 := HX.out.q0
        have c1 := HX.out.q1
        have c2 := HX.out.q2
        have c3 := HX.out.q3
        have z0 := HX.out.frozen 0
        have z1 := HX.out.frozen 1
        have z2 := HX.out.frozen 2
        have z3 := HX.out.frozen 3
        clear HR he
        go_wp2_with fail
        refine bodyPost_ret (v := stpW (3, (to : Int), (k : Int), ⟨#[]⟩)) (by simp [stpW, results, Try.results68, go_sem, c0, c1, c2, c3]) rfl ⟨rfl, ?_⟩
        exact four_set G1.out _ _ _ _
      · rw [decide_eq_false he] at hte
        have NE := Lib.hid he
        clear he
        go_wp2_with fail
        go_round
        case rel =>
          refine ⟨k + 1, by omega, by go_num, fun j h hj => ?_⟩
          by_cases hjk : j = k
          · subst hjk; exact NE.out
          · exact NO.out j h (by omega)
        case measure => simp [intOf]; omega
    · obtain rfl : k = old.length := by omega
      have NA := Lib.hid (show ∀ j (h : j < old.length), old[j] ≠ fresh from fun j h => NO.out j h h)
      clear NO
      go_wp2_with fail
      go_loopw [8] (fun i wr => FoR2 old fresh W1 i wr) (fun i _ => old.length - (intOf i).toNat)
      case atStart => exact ⟨0, by omega, rfl, fun j _ hj => absurd hj (by omega), Still.refl _⟩
      case round =>
        obtain ⟨k, hk, rfl, hno, hst⟩ := hrel
        have NO := Lib.hid hno
        have ST := Lib.hid hst
        clear hno
        have hwb := hst.below W1.heap.size
        by_cases hlt : k < old.length
        · obtain ⟨b, off, rfl, hbl, hcell⟩ := RA.out.get (by omega)
          have r0 : wr.cell? ⟨b, off + k, none⟩ = some (.string old[k]) := by rw [hwb.cell (p := ⟨b, off + k, none⟩) hbl, hcell k (by omega), strs_at old k hlt]
          have hs8 := HS.out _ (List.getElem_mem hlt)
          clear hcell hst
          go_wp2_with fail
          refine (specOther old[k] fresh wr hs8 HF.out).mono ?_
          rintro e w2 ⟨rfl, hst2⟩
          have ST2 := Lib.hid (ST.out.trans hst2)
          have r1 := ((hst2.below wr.heap.size).cell (p := ⟨b, off + k, none⟩) (show b < wr.heap.size by have := hwb.size; omega)).trans r0
          have hdn := diffN_le old[k] fresh
          clear hst2 r0
          by_cases he : diffN old[k] fresh ≤ 2
          · have hr : R = (4, (to : Int), (k : Int), xorS old[k] fresh) := by rw [HR.out]; exact stepFor_xor NZ.out NA.out hlt he NO.out
            have de : decide ((diffN old[k] fresh : Int) ≤ 2) = true := decide_eq_true (by omega)
            clear HR he hwb
            have s0 : old[k].size ≤ maxLen := by rw [hs8]; decide
            have s1 : fresh.size ≤ maxLen := by rw [HF.out]; decide
            generalize diffN old[k] fresh = dn at *
            have hc := specXored old[k] fresh w2 s0 s1
            obtain ⟨Z, hZ⟩ : ∃ Z, Z = xorS old[k] fresh := ⟨_, rfl⟩
            rw [← hZ] at hc hr
            have HRZ := Lib.hid hr
            clear hZ hr
            generalize old[k] = src at *
            go_wp2_with fail
            refine hc.mono ?_
            clear hc
            rintro e w3 ⟨rfl, hb3⟩
            have hx3 := HX.out.next (((ST2.out).below W1.heap.size).trans (hb3.mono ((ST2.out).below W1.heap.size).size))
            have G3 := Lib.hid (G1.out.trans ((((ST2.out).below W1.heap.size).trans (hb3.mono ((ST2.out).below W1.heap.size).size)).mono (by omega)))
            have c0 := hx3.q0
            have c1 := hx3.q1
            have c2 := hx3.q2
            have c3 := hx3.q3
            have z0 := hx3.frozen 0
            have z1 := hx3.frozen 1
            have z2 := hx3.frozen 2
            have z3 := hx3.frozen 3
            clear hx3 hb3
            go_wp2_with fail
            refine bodyPost_ret (v := stpW (4, (to : Int), (k : Int), Z)) (by simp [stpW, results, Try.results68, go_sem, c0, c1, c2, c3]) rfl ⟨by rw [HRZ.out], ?_⟩
            exact four_set G3.out _ _ _ _
          · have de : decide ((diffN old[k] fresh : Int) ≤ 2) = false := decide_eq_false (by omega)
            have NE := Lib.hid he
            clear he hwb
            go_wp2_with fail
            go_roundw
            case rel =>
              have fin : FoR2 old fresh W1 (.int .i64 ((k : Int) + 1)) w2 := by
                refine ⟨k + 1, by omega, by go_num, fun j h hj => ?_, ST2.out⟩
                by_cases hjk : j = k
                · subst hjk; exact NE.out
                · exact NO.out j h (by omega)
              first | exact fin | ((repeat apply Exists.intro); exact ⟨fin, rfl⟩)
            case measure => simp [intOf]; omega
        · obtain rfl : k = old.length := by omega
          have hr : R = (2, (to : Int), 0, fresh) := by rw [HR.out]; exact stepFor_put NZ.out NA.out (fun j h => NO.out j h h)
          subst hr
          have hx3 := HX.out.next hwb
          have G3 := Lib.hid (G1.out.trans (hwb.mono (by omega)))
          have c0 := hx3.q0
          have c1 := hx3.q1
          have c2 := hx3.q2
          have c3 := hx3.q3
          have z0 := hx3.frozen 0
          have z1 := hx3.frozen 1
          have z2 := hx3.frozen 2
          have z3 := hx3.frozen 3
          clear HR hx3 hwb hst
          go_wp2_with fail
          refine bodyPost_ret (v := stpW (2, (to : Int), 0, fresh)) (by simp [stpW, results, Try.results68, go_sem, c0, c1, c2, c3]) rfl ⟨rfl, ?_⟩
          exact four_set G3.out _ _ _ _

def SfRel (old fresh : List ByteArray) (w : World) (lv i : Value) (wr : World) : Prop :=
  ∃ k : Nat, k ≤ old.length ∧ i = .int .i64 k ∧ Gr wr w.heap.size 57 4 lv (forT old fresh k).length (stpCs (forT old fresh k)) ∧ Below w.heap.size w wr
theorem forT_yes {old fresh : List ByteArray} {k : Nat} (ho : k < old.length) (hf : k < fresh.length) (h : old[k] = fresh[k]) : forT old fresh (k + 1) = forT old fresh k := by
  simp only [forT, List.getD_eq_getElem?_getD, List.getElem?_eq_getElem ho, List.getElem?_eq_getElem hf, Option.getD_some]
  rw [if_pos h]
theorem forT_no {old fresh : List ByteArray} {k : Nat} (ho : k < old.length) (hf : k < fresh.length) (h : old[k] ≠ fresh[k]) : forT old fresh (k + 1) = forT old fresh k ++ [stepForS old k fresh[k]] := by
  simp only [forT, List.getD_eq_getElem?_getD, List.getElem?_eq_getElem ho, List.getElem?_eq_getElem hf, Option.getD_some]
  rw [if_neg h]
/-- What StepsFor gives. -/
def forL (old fresh : List ByteArray) : List stpT := if imgB old = true ∧ imgB fresh = true ∧ old.length = fresh.length then forT old fresh old.length else []
theorem forL_no {old fresh : List ByteArray} (h : ¬ (imgB old = true ∧ imgB fresh = true ∧ old.length = fresh.length)) : forL old fresh = [] := by unfold forL; rw [if_neg h]
theorem forL_yes {old fresh : List ByteArray} (h : imgB old = true ∧ imgB fresh = true ∧ old.length = fresh.length) : forL old fresh = forT old fresh old.length := by unfold forL; rw [if_pos h]
theorem forL_len (old fresh : List ByteArray) : (forL old fresh).length ≤ 8 := by
  unfold forL
  split
  · rename_i h
    have h1 := ((imgB_iff old).1 h.1).1
    have := forT_len old fresh old.length
    omega
  · simp

set_option maxRecDepth 100000 in
set_option maxHeartbeats 2000000 in
theorem specStepsFor (v u : Value) (old fresh : List ByteArray) (w : World) (h : Rd w v old.length 1 (strs old)) (hu : Rd w u fresh.length 1 (strs fresh)) (hn : old.length ≤ 1048576) (hm : fresh.length ≤ 1048576) :
    Calls Try.prog 35 #[v, u] w (MadeS w (forL old fresh)) := by
  obtain ⟨i0, hi, hz0, hz1, hz2⟩ := info_parts Try.infostp
  obtain ⟨a, c, rfl, -⟩ := id h.2
  obtain ⟨a', c', rfl, -⟩ := id hu.2
  obtain ⟨R, hR⟩ : ∃ R, R = forL old fresh := ⟨_, rfl⟩
  rw [← hR]
  have HR := Lib.hid hR
  clear hR
  have g0 := below_alloc1 w (.cells #[] 57)
  have hz := size_alloc1 w (.cells #[] 57)
  have HA := Lib.hid (h.below g0 (Nat.le_refl _))
  have HU := Lib.hid (hu.below g0 (Nat.le_refl _))
  have WA := Lib.hid h
  have WU := Lib.hid hu
  have G0 := Lib.hid g0
  clear g0 h hu
  cases hio : imgB old with
  | false =>
    have hr : R = [] := by rw [HR.out]; exact forL_no (fun h => by rw [hio] at h; cases h.1)
    subst hr
    have HI := Lib.hid hio
    clear HR hio
    go_enter Try.func35, Try.ntmps35
    go_wp2_with fail
    generalize w.alloc (.cells #[] 57) = W0 at *
    refine (specImg _ old W0 HA.out hn).mono ?_
    rintro e w1 ⟨rfl, rfl⟩
    rw [HI.out]
    go_wp2_with fail
    go_ret
    exact ⟨_, rfl, .inr ⟨rfl, rfl, .inr ⟨_, rfl⟩⟩, G0.out⟩
  | true =>
  have HIO := Lib.hid hio
  clear hio
  cases hif : imgB fresh with
  | false =>
    have hr : R = [] := by rw [HR.out]; exact forL_no (fun h => by rw [hif] at h; cases h.2.1)
    subst hr
    have HI := Lib.hid hif
    clear HR hif
    go_enter Try.func35, Try.ntmps35
    go_wp2_with fail
    generalize w.alloc (.cells #[] 57) = W0 at *
    refine (specImg _ old W0 HA.out hn).mono ?_
    rintro e w1 ⟨rfl, rfl⟩
    rw [HIO.out]
    go_wp2_with fail
    refine (specImg _ fresh W0 HU.out hm).mono ?_
    rintro e w1 ⟨rfl, rfl⟩
    rw [HI.out]
    go_wp2_with fail
    go_ret
    exact ⟨_, rfl, .inr ⟨rfl, rfl, .inr ⟨_, rfl⟩⟩, G0.out⟩
  | true =>
  have HIF := Lib.hid hif
  clear hif
  by_cases hlen : old.length = fresh.length
  rotate_left
  · have hr : R = [] := by rw [HR.out]; exact forL_no (fun h => hlen h.2.2)
    subst hr
    have dl : ((old.length : Int) != (fresh.length : Int)) = true := by simp; omega
    clear HR hlen
    go_enter Try.func35, Try.ntmps35
    go_wp2_with fail
    generalize w.alloc (.cells #[] 57) = W0 at *
    refine (specImg _ old W0 HA.out hn).mono ?_
    rintro e w1 ⟨rfl, rfl⟩
    rw [HIO.out]
    go_wp2_with fail
    refine (specImg _ fresh W0 HU.out hm).mono ?_
    rintro e w1 ⟨rfl, rfl⟩
    rw [HIF.out]
    go_wp2_with fail
    go_ret
    exact ⟨_, rfl, .inr ⟨rfl, rfl, .inr ⟨_, rfl⟩⟩, G0.out⟩
  have dl : ((old.length : Int) != (fresh.length : Int)) = false := by simp; omega
  have HLN := Lib.hid hlen
  have OKO := Lib.hid ((imgB_iff _).1 HIO.out)
  have OKF := Lib.hid ((imgB_iff _).1 HIF.out)
  obtain ⟨⟨n0, n1⟩, -⟩ := id OKO.out
  have hr : R = forT old fresh old.length := by rw [HR.out]; exact forL_yes ⟨HIO.out, HIF.out, hlen⟩
  have HRR := Lib.hid hr
  clear HR hr hlen
  go_enter Try.func35, Try.ntmps35
  go_wp2_with fail
  generalize w.alloc (.cells #[] 57) = W0 at *
  refine (specImg _ old W0 HA.out hn).mono ?_
  rintro e w1 ⟨rfl, rfl⟩
  rw [HIO.out]
  go_wp2_with fail
  refine (specImg _ fresh W0 HU.out hm).mono ?_
  rintro e w1 ⟨rfl, rfl⟩
  rw [HIF.out]
  go_wp2_with fail
  go_loopw [5, 6] (fun lv i wr => SfRel old fresh w lv i wr) (fun _ i _ => old.length - (intOf i).toNat)
  case atStart => exact ⟨0, by omega, rfl, .inr ⟨rfl, rfl, .inr ⟨_, rfl⟩⟩, G0.out⟩
  case round =>
    clear HIO HIF
    obtain ⟨k, hk, rfl, hg, hb⟩ := hrel
    obtain ⟨a3, c3, rfl⟩ := gr_form hg
    have HG := Lib.hid hg
    have HB := Lib.hid hb
    have hsz := hb.size
    have lenE := HLN.out
    by_cases hlt : k < old.length
    · have hlt2 : k < fresh.length := by omega
      obtain ⟨b, off, hp, hbl, hcell⟩ := WA.out.get (by omega)
      obtain ⟨b2, off2, hp2, hbl2, hcell2⟩ := WU.out.get (by omega)
      subst hp
      subst hp2
      have r0 : wr.cell? ⟨b, off + k, none⟩ = some (.string old[k]) := by rw [hb.cell (p := ⟨b, off + k, none⟩) hbl, hcell k (by omega), strs_at old k hlt]
      have r1 : wr.cell? ⟨b2, off2 + k, none⟩ = some (.string fresh[k]) := by rw [hb.cell (p := ⟨b2, off2 + k, none⟩) hbl2, hcell2 k (by omega), strs_at fresh k hlt2]
      have e0 : (k : Int) < (fresh.length : Int) := by omega
      have e1 : (k : Int) < (old.length : Int) := by omega
      have e2 : (0 : Int) ≤ (k : Int) := by omega
      have hl1 := forT_len old fresh k
      have RD := Lib.hid (WA.out.below hb (Nat.le_refl _))
      have hbl3 : ∀ b, blk (.slice a3 (forT old fresh k).length c3) (forT old fresh k).length = some b → w.heap.size ≤ b := fun b hb => (HG.out.own.blk b hb).1
      have HBL := Lib.hid hbl3
      have hte := text_eq old[k] fresh[k]
      have hf8 := OKF.out.2 _ (List.getElem_mem hlt2)
      clear hcell hcell2 hb hg hbl3 lenE
      by_cases he : old[k] = fresh[k]
      · have HX := Lib.hid (forT_yes hlt hlt2 he)
        rw [decide_eq_true he] at hte
        clear he hf8
        generalize old[k] = x0 at *
        generalize fresh[k] = x1 at *
        go_wp2_with fail
        go_quiet (fail)
        go_wp2_with fail
        go_roundw
        case rel =>
          have fin : SfRel old fresh w (.slice a3 (forT old fresh k).length c3) (.int .i64 ((k : Int) + 1)) (wr.drewN nq) := by
            refine ⟨k + 1, by omega, by go_num, ?_, below_drewN HB.out _⟩
            rw [HX.out]; exact HG.out.below (below_drewN (Below.refl wr.heap.size wr) nq) (Nat.le_refl _)
          first | exact fin | ((repeat apply Exists.intro); exact ⟨fin, rfl⟩)
        case measure => simp [intOf]; omega
      · have HX := Lib.hid (forT_no hlt hlt2 he)
        rw [decide_eq_false he] at hte
        clear he
        generalize old[k] = x0 at *
        generalize fresh[k] = x1 at *
        go_wp2_with fail
        go_quiet (fail)
        have r2 : (wr.drewN nq).cell? ⟨b2, off2 + k, none⟩ = some (.string x1) := r1
        have HG1 := Lib.hid (HG.out.below (below_drewN (Below.refl wr.heap.size wr) nq) (Nat.le_refl _))
        have HB1 := Lib.hid (below_drewN HB.out nq)
        have RD1 := Lib.hid (RD.out.below (below_drewN (Below.refl wr.heap.size wr) nq) (Nat.le_refl _))
        have hsz1 : w.heap.size ≤ (wr.drewN nq).heap.size := hsz
        clear r0 r1 HG HB RD hsz
        generalize wr.drewN nq = wq at *
        go_wp2_with fail
        refine (specFor _ old k x1 wq RD1.out OKO.out hf8 (by omega)).mono ?_
        rintro e w2 ⟨rfl, hb2⟩
        have HG2 := Lib.hid (HG1.out.below hb2 (Nat.le_refl _))
        have HB2 := Lib.hid (HB1.out.trans (hb2.mono hsz1))
        have hsz2 := hb2.size
        clear hb2 HG1 HB1 RD1
        obtain ⟨x, hx⟩ : ∃ x, x = stepForS old k x1 := ⟨_, rfl⟩
        rw [← hx] at HX ⊢
        clear hx
        unfold stpW
        go_wp2_with ((with_reducible show wpList _ _ _ (⟨some 48, _, _, _, _, _⟩ :: _) _ _); refine wpList_append_gr (lo := w.heap.size) (e := 57) (sz := 4) (v := .slice a3 (forT old fresh k).length c3) (n := (forT old fresh k).length) (xs := stpCs (forT old fresh k)) rfl (.tmp 39) (.tmp 47) 30 rfl i0 _ 40 Try.underlying30 hi hz0 hz1 hz2 rfl (by decide) rfl (by rw [stpCs_length]) ?_ ⟨w2.heap.size, 0, none⟩ 1 1 rfl [.int .i64 x.1, .int .i64 x.2.1, .int .i64 x.2.2.1, .string x.2.2.2] (by decide) rfl ?_ ?_ (by unfold maxLen; omega) (by omega) (by simp; omega) ?_)
        · exact HG2.out.below (below_alloc1 w2 _) (Nat.le_refl _)
        · exact four_new w2 (.int .i64 x.1) (.int .i64 x.2.1) (.int .i64 x.2.2.1) (.string x.2.2.2) 57
        · intro u hu; simp at hu; rcases hu with rfl | rfl | rfl | rfl <;> rfl
        · intro gg cc w4 hgn hgr hloc
          have hbw : Below w.heap.size w2 w4 := ((below_alloc1 w2 _).mono (by omega)).trans ((Below.refl _ _).grown hgr (by simp; omega) HBL.out)
          have G4 := Lib.hid hgn
          have HB4 := Lib.hid (HB2.out.trans hbw)
          clear hgn hgr hloc hbw
          go_wp2_with fail
          go_roundw
          case rel =>
            have fin : SfRel old fresh w (.slice (some ⟨gg, 0, none⟩) ((forT old fresh k).length + 1) cc) (.int .i64 ((k : Int) + 1)) w4 := by
              refine ⟨k + 1, by omega, by go_num, ?_, HB4.out⟩
              rw [HX.out, stpCs_snoc]
              have := G4.out
              simpa using this
            first | exact fin | ((repeat apply Exists.intro); exact ⟨fin, rfl⟩)
          case measure => simp [intOf]; omega
    · obtain rfl : k = old.length := by omega
      have hRR : R = forT old fresh old.length := HRR.out
      clear HRR
      subst hRR
      clear hg hb
      go_wp2_with fail
      go_ret
      exact ⟨_, rfl, HG.out, HB.out⟩
end Go.Proofs.Ytcckpkcjekcajaa
