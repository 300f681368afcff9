/- spec.StepsCode. -/
import Derived.Test.YtcckpkcjekcajaaDoorBCodeM
import Derived.Test.YtcckpkcjekcajaaDoorBSRight
namespace Go.Proofs.YtcckpkcjekcajaaDoor
open Go.RowKit

def ScR1 (l : List stpT) (n : Int) (w : World) (i : Value) (wr : World) : Prop := ∃ k : Nat, k ≤ l.length ∧ i = .int .i64 k ∧ (∀ j (h : j < l.length), j < k → wrongS n l[j] = false) ∧ Below w.heap.size w wr
def ScR2 (l : List stpT) (W : World) (i : Value) (wr : World) : Prop := ∃ k : Nat, k ≤ l.length ∧ i = .int .i64 k ∧ Apart l k ∧ Still W wr
def ScR3 (l : List stpT) (k : Nat) (W : World) (i : Value) (wr : World) : Prop := ∃ m : Nat, m ≤ k ∧ i = .int .i64 m ∧ (∀ j, j < m → ¬ Pair l k j) ∧ Still W wr
def ScR4 (l : List stpT) (W : World) (x i : Value) (wr : World) : Prop := ∃ k : Nat, k ≤ l.length ∧ i = .int .i64 k ∧ x = .int .i64 (lastT l k) ∧ ¬ Low l k ∧ Still W wr

set_option maxRecDepth 100000 in
set_option maxHeartbeats 4000000 in
theorem specCode (v : Value) (l : List stpT) (n : Int) (w : World) (h : Rd w v l.length 4 (stpCs l)) (hn : l.length ≤ 1048576) :
    Calls Tryd.prog 44 #[v, .int .i64 n] w fun e w' => e = .returned (.int .i64 (codeS l n)) ∧ Below w.heap.size w w' := by
  obtain ⟨R, hR⟩ : ∃ R, R = codeS l n := ⟨_, rfl⟩
  rw [← hR]
  have HR := Lib.hid hR
  clear hR
  obtain ⟨a, c, rfl, -⟩ := id h.2
  have HV := Lib.hid h
  clear h
  by_cases hbig : 20 < l.length
  · have hr : R = 1 := by rw [HR.out]; exact codeS_form (.inr (.inl hbig))
    subst hr
    clear HR
    go_enter Tryd.func44, Tryd.ntmps44
    go_wp2_with fail
    go_ret
    exact ⟨rfl, Below.refl _ _⟩
  have d0 : decide ((20 : Int) < (l.length : Int)) = false := decide_eq_false (by omega)
  by_cases hnn : 1 ≤ n ∧ n ≤ 8
  rotate_left
  · have hr : R = 1 := by rw [HR.out]; exact codeS_form (.inl hnn)
    subst hr
    clear HR
    have HN := Lib.hid (show (decide (1 ≤ n) && decide (n ≤ 8)) = false by cases h : (decide (1 ≤ n) && decide (n ≤ 8)) with | false => rfl | true => simp at h; exact absurd h hnn)
    clear hnn
    go_enter Tryd.func44, Tryd.ntmps44
    go_wp2_with fail
    refine (is_dec _ _ _ _ _ HN.out).mono ?_
    rintro e w1 ⟨rfl, rfl⟩
    go_wp2_with fail
    go_ret
    exact ⟨rfl, Below.refl _ _⟩
  obtain ⟨n0, n1⟩ := hnn
  go_enter Tryd.func44, Tryd.ntmps44
  go_wp2_with fail
  refine (is_yes _ _ _ _ n0 n1).mono ?_
  rintro e w1 ⟨rfl, rfl⟩
  go_wp2_with fail
  go_loopw [5] (fun i wr => ScR1 l n w1 i wr) (fun i _ => l.length - (intOf i).toNat)
  case atStart => exact ⟨0, by omega, rfl, fun j _ hj => absurd hj (by omega), Below.refl _ _⟩
  case round =>
    obtain ⟨k, hk, rfl, hseen, hb⟩ := hrel
    have SEEN := Lib.hid hseen
    have HB := Lib.hid hb
    have hsz := hb.size
    clear hseen
    by_cases hlt : k < l.length
    · obtain ⟨b, off, rfl, hbl, hcell⟩ := HV.out.get (by omega)
      have r0 : wr.cell? ⟨b, off + k * 4, none⟩ = some (.int .i64 l[k].1) := by rw [hb.cell (p := ⟨b, off + k * 4, none⟩) hbl, hcell (k * 4) (by omega), stpCs_0 l k hlt]
      have r1 : wr.cell? ⟨b, off + k * 4 + 1, none⟩ = some (.int .i64 l[k].2.1) := by rw [hb.cell (p := ⟨b, off + k * 4 + 1, none⟩) hbl, Nat.add_assoc, hcell (k * 4 + 1) (by omega), stpCs_1 l k hlt]
      have r2 : wr.cell? ⟨b, off + k * 4 + 2, none⟩ = some (.int .i64 l[k].2.2.1) := by rw [hb.cell (p := ⟨b, off + k * 4 + 2, none⟩) hbl, Nat.add_assoc, hcell (k * 4 + 2) (by omega), stpCs_2 l k hlt]
      have r3 : wr.cell? ⟨b, off + k * 4 + 3, none⟩ = some (.string l[k].2.2.2) := by rw [hb.cell (p := ⟨b, off + k * 4 + 3, none⟩) hbl, Nat.add_assoc, hcell (k * 4 + 3) (by omega), stpCs_3 l k hlt]
      have e0 : (k : Int) < (l.length : Int) := by omega
      have e1 : (0 : Int) ≤ (k : Int) := by omega
      clear hcell hb
      go_wp2_with fail
      refine (specRightS _ _ _ n _ _).mono ?_
      rintro e w2 ⟨rfl, hb2⟩
      have HB2 := Lib.hid (HB.out.trans (hb2.mono hsz))
      clear hb2 r0 r1 r2 r3
      cases hs : stepB n l[k].1 l[k].2.1 l[k].2.2.1 l[k].2.2.2 with
      | false =>
        have hr : R = 1 := by rw [HR.out]; exact codeS_form (.inr (.inr ⟨_, List.getElem_mem hlt, by unfold wrongS; rw [hs]; rfl⟩))
        subst hr
        clear hs HR
        go_wp2_with fail
        go_ret
        exact ⟨rfl, HB2.out⟩
      | true =>
        have HS := Lib.hid (show wrongS n l[k] = false by unfold wrongS; rw [hs]; rfl)
        clear hs
        go_wp2_with fail
        go_roundw
        case rel =>
          refine ⟨k + 1, by omega, by go_num, fun j h hj => ?_, HB2.out⟩
          by_cases hjk : j = k
          · subst hjk; exact HS.out
          · exact SEEN.out j h (by omega)
        case measure => simp [intOf]; omega
    · obtain rfl : k = l.length := by omega
      have NF := Lib.hid (show ¬ FormBad l n from by
        rintro (h | h | ⟨s, hs, hw⟩)
        · exact h ⟨n0, n1⟩
        · omega
        · obtain ⟨j, hj, rfl⟩ := List.mem_iff_getElem.1 hs
          rw [SEEN.out j hj hj] at hw; cases hw)
      have RV := Lib.hid (HV.out.below HB.out (Nat.le_refl _))
      clear SEEN hb hlt hk
      obtain ⟨W1, rfl⟩ : ∃ W, W = wr := ⟨_, rfl⟩
      go_wp2_with fail
      go_loopw [6] (fun i wq => ScR2 l W1 i wq) (fun i _ => l.length - (intOf i).toNat)
      case atStart => exact ⟨0, by omega, rfl, fun i j hi _ => absurd hi (by omega), Still.refl _⟩
      case round =>
        obtain ⟨wq, rfl⟩ : ∃ W, W = wr := ⟨_, rfl⟩
        obtain ⟨k, hk, rfl, hap, hst⟩ := hrel
        have AP := Lib.hid hap
        have ST := Lib.hid hst
        clear hap
        by_cases hlt : k < l.length
        · clear hst
          go_wp2_with fail
          go_loopw [7] (fun i wz => ScR3 l k wq i wz) (fun i _ => k - (intOf i).toNat)
          case atStart => exact ⟨0, by omega, rfl, fun j hj => absurd hj (by omega), Still.refl _⟩
          case round =>
            obtain ⟨wz, rfl⟩ : ∃ W, W = wr := ⟨_, rfl⟩
            obtain ⟨m, hm, rfl, hno, hst3⟩ := hrel
            have NO := Lib.hid hno
            have ST3 := Lib.hid hst3
            clear hno
            by_cases hmk : m < k
            · obtain ⟨b, off, rfl, hbl, hcell⟩ := RV.out.get (by omega)
              have hq := (ST.out.trans hst3).below W1.heap.size
              have rk0 : wz.cell? ⟨b, off + k * 4, none⟩ = some (.int .i64 l[k].1) := by rw [hq.cell (p := ⟨b, off + k * 4, none⟩) hbl, hcell (k * 4) (by omega), stpCs_0 l k hlt]
              have rk1 : wz.cell? ⟨b, off + k * 4 + 1, none⟩ = some (.int .i64 l[k].2.1) := by rw [hq.cell (p := ⟨b, off + k * 4 + 1, none⟩) hbl, Nat.add_assoc, hcell (k * 4 + 1) (by omega), stpCs_1 l k hlt]
              have rm0 : wz.cell? ⟨b, off + m * 4, none⟩ = some (.int .i64 l[m].1) := by rw [hq.cell (p := ⟨b, off + m * 4, none⟩) hbl, hcell (m * 4) (by omega), stpCs_0 l m (by omega)]
              have rm1 : wz.cell? ⟨b, off + m * 4 + 1, none⟩ = some (.int .i64 l[m].2.1) := by rw [hq.cell (p := ⟨b, off + m * 4 + 1, none⟩) hbl, Nat.add_assoc, hcell (m * 4 + 1) (by omega), stpCs_1 l m (by omega)]
              have e0 : (k : Int) < (l.length : Int) := by omega
              have e1 : (0 : Int) ≤ (k : Int) := by omega
              have e2 : (m : Int) < (l.length : Int) := by omega
              have e3 : (0 : Int) ≤ (m : Int) := by omega
              have PP := Lib.hid (show Pair l k m ↔ l[k].1 ≠ 5 ∧ l[m].1 ≠ 5 ∧ l[k].2.1 = l[m].2.1 from ⟨fun ⟨_, _, r⟩ => r, fun r => ⟨hlt, by omega, r⟩⟩)
              clear hcell hq hst3
              generalize l[k].1 = x0 at *
              generalize l[k].2.1 = x1 at *
              generalize l[m].1 = y0 at *
              generalize l[m].2.1 = y1 at *
              by_cases hx : x0 = 5
              · have dx : (x0 != 5) = false := by simpa using hx
                have HX := Lib.hid hx
                clear hx
                have NP := Lib.hid (show ¬ Pair l k m from fun h => by have := PP.out.1 h; exact this.1 HX.out)
                go_wp2_with fail
                go_quiet (fail)
                go_wp2_with fail
                go_roundw
                case rel =>
                  have fin : ScR3 l k wq (.int .i64 ((m : Int) + 1)) (wz.drewN nq) := by
                    refine ⟨m + 1, by omega, by go_num, fun j hj => ?_, ST3.out.trans ⟨_, rfl⟩⟩
                    by_cases hjm : j = m
                    · subst hjm; exact NP.out
                    · exact NO.out j (by omega)
                  first | exact fin | ((repeat apply Exists.intro); exact ⟨fin, rfl⟩)
                case measure => simp [intOf]; omega
              have dx : (x0 != 5) = true := by simpa using hx
              have HX := Lib.hid hx
              clear hx
              by_cases hy : y0 = 5
              · have dy : (y0 != 5) = false := by simpa using hy
                have HY := Lib.hid hy
                clear hy
                have NP := Lib.hid (show ¬ Pair l k m from fun h => by have := PP.out.1 h; exact this.2.1 HY.out)
                go_wp2_with fail
                go_quiet (fail)
                go_wp2_with fail
                go_roundw
                case rel =>
                  have fin : ScR3 l k wq (.int .i64 ((m : Int) + 1)) (wz.drewN nq) := by
                    refine ⟨m + 1, by omega, by go_num, fun j hj => ?_, ST3.out.trans ⟨_, rfl⟩⟩
                    by_cases hjm : j = m
                    · subst hjm; exact NP.out
                    · exact NO.out j (by omega)
                  first | exact fin | ((repeat apply Exists.intro); exact ⟨fin, rfl⟩)
                case measure => simp [intOf]; omega
              have dy : (y0 != 5) = true := by simpa using hy
              have HY := Lib.hid hy
              clear hy
              by_cases he : x1 = y1
              · have de : (x1 == y1) = true := by simpa using he
                have hr : R = 12 := by rw [HR.out]; exact codeS_twice NF.out ⟨k, m, hmk, PP.out.2 ⟨HX.out, HY.out, he⟩⟩
                subst hr
                clear he HR
                go_wp2_with fail
                go_quiet (fail)
                go_wp2_with fail
                go_ret
                exact ⟨rfl, below_drewN (HB.out.trans (((ST.out.trans ST3.out).below W1.heap.size).mono hsz)) _⟩
              have de : (x1 == y1) = false := by simpa using he
              have HE := Lib.hid he
              clear he
              have NP := Lib.hid (show ¬ Pair l k m from fun h => by have := PP.out.1 h; exact HE.out this.2.2)
              go_wp2_with fail
              go_quiet (fail)
              go_wp2_with fail
              go_roundw
              case rel =>
                have fin : ScR3 l k wq (.int .i64 ((m : Int) + 1)) (wz.drewN nq) := by
                  refine ⟨m + 1, by omega, by go_num, fun j hj => ?_, ST3.out.trans ⟨_, rfl⟩⟩
                  by_cases hjm : j = m
                  · subst hjm; exact NP.out
                  · exact NO.out j (by omega)
                first | exact fin | ((repeat apply Exists.intro); exact ⟨fin, rfl⟩)
              case measure => simp [intOf]; omega
            · obtain rfl : m = k := by omega
              clear hst3
              go_wp2_with fail
              go_roundw
              case rel =>
                have fin : ScR2 l W1 (.int .i64 ((m : Int) + 1)) wz := ⟨m + 1, by omega, by go_num, AP.out.next NO.out, ST.out.trans ST3.out⟩
                first | exact fin | ((repeat apply Exists.intro); exact ⟨fin, rfl⟩)
              case measure => simp [intOf]; omega
        · obtain rfl : k = l.length := by omega
          have NT := Lib.hid (apart_all AP.out)
          clear AP hst hlt hk
          go_wp2_with fail
          go_loopw [8, 9] (fun x i wz => ScR4 l wq x i wz) (fun _ i _ => l.length - (intOf i).toNat)
          case atStart => exact ⟨0, by omega, rfl, rfl, fun ⟨j, hj, _⟩ => absurd hj (by omega), Still.refl _⟩
          case round =>
            obtain ⟨wz, rfl⟩ : ∃ W, W = wr := ⟨_, rfl⟩
            obtain ⟨m, hm, rfl, rfl, hno, hst3⟩ := hrel
            have NO := Lib.hid hno
            have ST3 := Lib.hid hst3
            clear hno
            by_cases hlt : m < l.length
            · obtain ⟨b, off, rfl, hbl, hcell⟩ := RV.out.get (by omega)
              have hq := (ST.out.trans hst3).below W1.heap.size
              have rm0 : wz.cell? ⟨b, off + m * 4, none⟩ = some (.int .i64 l[m].1) := by rw [hq.cell (p := ⟨b, off + m * 4, none⟩) hbl, hcell (m * 4) (by omega), stpCs_0 l m (by omega)]
              have rm2 : wz.cell? ⟨b, off + m * 4 + 2, none⟩ = some (.int .i64 l[m].2.2.1) := by rw [hq.cell (p := ⟨b, off + m * 4 + 2, none⟩) hbl, Nat.add_assoc, hcell (m * 4 + 2) (by omega), stpCs_2 l m (by omega)]
              have e2 : (m : Int) < (l.length : Int) := by omega
              have e3 : (0 : Int) ≤ (m : Int) := by omega
              clear hcell hq hst3
              by_cases h5 : l[m].1 = 5
              · have LY := Lib.hid (lastT_yes hlt h5)
                have LA := Lib.hid (show LowAt l m ↔ l[m].2.2.1 ≤ lastT l m from ⟨fun ⟨_, _, r⟩ => r, fun r => ⟨hlt, h5, r⟩⟩)
                rw [h5] at rm0
                clear h5
                generalize l[m].2.2.1 = y2 at *
                by_cases hle : y2 ≤ lastT l m
                · have hr : R = 8 := by rw [HR.out]; exact codeS_low NF.out NT.out ⟨m, hlt, LA.out.2 hle⟩
                  subst hr
                  have dl : decide (y2 ≤ lastT l m) = true := decide_eq_true hle
                  clear HR
                  generalize lastT l m = z2 at *
                  go_wp2_with fail
                  go_ret
                  exact ⟨rfl, HB.out.trans (((ST.out.trans ST3.out).below W1.heap.size).mono hsz)⟩
                · have dl : decide (y2 ≤ lastT l m) = false := decide_eq_false hle
                  have NL := Lib.hid (show ¬ Low l (m + 1) from fun h => NO.out ((low_no (fun h' => hle (LA.out.1 h'))).1 h))
                  clear hle LA
                  generalize lastT l m = z2 at *
                  go_wp2_with fail
                  go_roundw
                  case rel =>
                    have fin : ScR4 l wq (.int .i64 y2) (.int .i64 ((m : Int) + 1)) wz := ⟨m + 1, by omega, by go_num, by rw [LY.out], NL.out, ST3.out⟩
                    first | exact fin | ((repeat apply Exists.intro); exact ⟨fin, rfl⟩)
                  case measure => simp [intOf]; omega
              · have LY := Lib.hid (lastT_no hlt h5)
                have NL := Lib.hid (show ¬ Low l (m + 1) from fun h => NO.out ((low_no (fun h' => h5 h'.2.1)).1 h))
                have d5 : (l[m].1 != 5) = true := by simpa using h5
                clear h5
                generalize l[m].1 = y0 at *
                obtain ⟨z2, hz2⟩ : ∃ z, z = lastT l m := ⟨_, rfl⟩
                rw [← hz2] at LY
                rw [← hz2]
                clear hz2
                go_wp2_with fail
                go_roundw
                case rel =>
                  have fin : ScR4 l wq (.int .i64 z2) (.int .i64 ((m : Int) + 1)) wz := ⟨m + 1, by omega, by go_num, by rw [LY.out], NL.out, ST3.out⟩
                  first | exact fin | ((repeat apply Exists.intro); exact ⟨fin, rfl⟩)
                case measure => simp [intOf]; omega
            · obtain rfl : m = l.length := by omega
              have hr : R = 0 := by rw [HR.out]; exact codeS_ok NF.out NT.out NO.out
              subst hr
              clear hst3 HR
              go_wp2_with fail
              go_ret
              exact ⟨rfl, HB.out.trans (((ST.out.trans ST3.out).below W1.heap.size).mono hsz)⟩
end Go.Proofs.YtcckpkcjekcajaaDoor
