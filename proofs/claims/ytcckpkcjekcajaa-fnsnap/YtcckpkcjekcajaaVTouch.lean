/- Touches: the specification's and the program's. -/
import Derived.Test.YtcckpkcjekcajaaVSnM
import Derived.StillTailTactics
namespace Go.Proofs.Ytcckpkcjekcajaa
open Go.RowKit

def FitTo (l : List stpT) : Prop := ∀ d ∈ l, -9223372036854775808 ≤ d.2.1 ∧ d.2.1 ≤ 9223372036854775807
def ToRel (l : List stpT) (b : Int) (W : World) (i : Value) (wr : World) : Prop := ∃ k : Nat, k ≤ l.length ∧ i = .int .i64 k ∧ (∀ j (h : j < l.length), j < k → ¬ hitS b l[j]) ∧ Still W wr
set_option maxRecDepth 100000 in
set_option maxHeartbeats 4000000 in
theorem specTouch (v : Value) (l : List stpT) (b : Int) (w : World) (h : Rd w v l.length 4 (stpCs l)) (hn : l.length ≤ 1048576) :
    Calls Try.prog 40 #[v, .int .i64 b] w fun e w' => e = .returned (.int .i64 (touchI l b)) ∧ Still w w' := by
  obtain ⟨R, hR⟩ : ∃ R, R = touchI l b := ⟨_, rfl⟩
  rw [← hR]
  have HR := Lib.hid hR
  clear hR
  obtain ⟨a, c, rfl, -⟩ := id h.2
  have HV := Lib.hid h
  clear h
  go_enter Try.func40, Try.ntmps40
  go_wp2_with fail
  go_loopw [5] (fun i wr => ToRel l b w i wr) (fun i _ => l.length - (intOf i).toNat)
  case atStart => exact ⟨0, by omega, rfl, fun j _ hj => absurd hj (by omega), Still.refl _⟩
  case round =>
    obtain ⟨k, hk, rfl, hno, hst⟩ := hrel
    have NO := Lib.hid hno
    have ST := Lib.hid hst
    clear hno
    by_cases hlt : k < l.length
    · obtain ⟨bb, off, rfl, hbl, hcell⟩ := HV.out.get (by omega)
      have hq := hst.below w.heap.size
      have r0 : wr.cell? ⟨bb, off + k * 4, none⟩ = some (.int .i64 l[k].1) := by rw [hq.cell (p := ⟨bb, off + k * 4, none⟩) hbl, hcell (k * 4) (by omega), stpCs_0 l k hlt]
      have r1 : wr.cell? ⟨bb, off + k * 4 + 1, none⟩ = some (.int .i64 l[k].2.1) := by rw [hq.cell (p := ⟨bb, off + k * 4 + 1, none⟩) hbl, Nat.add_assoc, hcell (k * 4 + 1) (by omega), stpCs_1 l k hlt]
      have e0 : (k : Int) < (l.length : Int) := by omega
      have e1 : (0 : Int) ≤ (k : Int) := by omega
      have PP := Lib.hid (show hitS b l[k] ↔ l[k].1 ≠ 5 ∧ l[k].2.1 = b from Iff.rfl)
      clear hcell hq hst
      generalize l[k].1 = x0 at *
      generalize l[k].2.1 = x1 at *
      by_cases hx : x0 = 5
      · have dx : (x0 != 5) = false := by simpa using hx
        have NP := Lib.hid (show ¬ hitS b l[k] from fun h => (PP.out.1 h).1 hx)
        clear hx
        go_wp2_with fail
        go_roundw
        case rel =>
          have fin : ToRel l b w (.int .i64 ((k : Int) + 1)) wr := by
            refine ⟨k + 1, by omega, by go_num, fun j hj hjk => ?_, ST.out⟩
            by_cases hjm : j = k
            · subst hjm; exact NP.out
            · exact NO.out j hj (by omega)
          first | exact fin | ((repeat apply Exists.intro); exact ⟨fin, rfl⟩)
        case measure => simp [intOf]; omega
      have dx : (x0 != 5) = true := by simpa using hx
      have HX := Lib.hid hx
      clear hx
      by_cases he : x1 = b
      · have de : (x1 == b) = true := by simpa using he
        have hr : R = (k : Int) := HR.out.trans (touchI_at hlt (PP.out.2 ⟨HX.out, he⟩) (fun j hj => NO.out j (by omega) hj))
        subst hr
        clear he HR
        go_wp2_with fail
        go_ret
        exact ⟨rfl, ST.out⟩
      have de : (x1 == b) = false := by simpa using he
      have NP := Lib.hid (show ¬ hitS b l[k] from fun h => he (PP.out.1 h).2)
      clear he
      go_wp2_with fail
      go_roundw
      case rel =>
        have fin : ToRel l b w (.int .i64 ((k : Int) + 1)) wr := by
          refine ⟨k + 1, by omega, by go_num, fun j hj hjk => ?_, ST.out⟩
          by_cases hjm : j = k
          · subst hjm; exact NP.out
          · exact NO.out j hj (by omega)
        first | exact fin | ((repeat apply Exists.intro); exact ⟨fin, rfl⟩)
      case measure => simp [intOf]; omega
    · obtain rfl : k = l.length := by omega
      have hr : R = -1 := HR.out.trans (touchI_none (fun x hx => by obtain ⟨j, hj, rfl⟩ := List.getElem_of_mem hx; exact NO.out j hj hj))
      subst hr
      clear HR hst
      go_wp2_with fail
      go_ret
      exact ⟨rfl, ST.out⟩
set_option maxRecDepth 100000 in
set_option maxHeartbeats 1000000 in
theorem specTouches (v : Value) (l : List stpT) (b : Int) (w : World) (h : Rd w v l.length 4 (stpCs l)) (hn : l.length ≤ 1048576) :
    Calls Try.prog 25 #[v, .int .i64 b] w fun e w' => e = .returned (.int .i64 (touchS l b)) ∧ Below w.heap.size w w' := by
  obtain ⟨a, c, rfl, -⟩ := id h.2
  have HV := Lib.hid h
  clear h
  unfold touchS
  by_cases hb : 20 < l.length
  · rw [if_pos hb]
    have d0 : decide ((20 : Int) < (l.length : Int)) = true := decide_eq_true (by omega)
    go_enter Try.func25, Try.ntmps25
    go_wp2_with fail
    go_ret
    exact ⟨rfl, Below.refl _ _⟩
  · rw [if_neg hb]
    have d0 : decide ((20 : Int) < (l.length : Int)) = false := decide_eq_false (by omega)
    go_enter Try.func25, Try.ntmps25
    go_wp2_with fail
    refine (specTouch _ l b w HV.out hn).mono ?_
    rintro e w1 ⟨rfl, hst⟩
    have HB := Lib.hid (hst.below w.heap.size)
    clear hst
    go_wp2_with fail
    go_ret
    exact ⟨rfl, HB.out⟩
end Go.Proofs.Ytcckpkcjekcajaa
