/- impl.ListOf, impl.isOutside, and the search for an extent outside. -/
import Derived.Test.YtmhmjofmafeidaaALoM
import Derived.Test.YtmhmjofmafeidaaAFree
namespace Go.Proofs.Ytmhmjofmafeidaa
open Go.RowKit

/-- Every From of the list is a number of 64 bits. -/
def FitE (l : List extT) : Prop := ∀ j (h : j < l.length), -9223372036854775808 ≤ l[j].1 ∧ l[j].1 ≤ 9223372036854775807
set_option maxHeartbeats 1000000 in
set_option maxRecDepth 100000 in
theorem outside_any (f c : Int) (w : World) (h1 : -9223372036854775808 ≤ f) (h2 : f ≤ 9223372036854775807) :
    Calls Try.prog 52 #[.agg #[.int .i64 f, .int .i64 c]] w fun e w' => e = .returned (.bool (!goodE (f, c))) ∧ Below w.heap.size w w' := by
  by_cases h3 : f < 0
  · have hb : goodE (f, c) = false := by
      cases h : goodE (f, c) with
      | false => rfl
      | true => have := (goodE_iff _).1 h; simp only at this; omega
    have d : decide (f < 0) = true := decide_eq_true h3
    rw [hb]
    clear hb
    go_enter Try.func52, Try.ntmps52
    go_wp2_with fail
    go_ret
    exact ⟨rfl, below_alloc1 w _⟩
  · have d : decide (f < 0) = false := decide_eq_false h3
    by_cases h4 : c < 1
    · have hb : goodE (f, c) = false := by
        cases h : goodE (f, c) with
        | false => rfl
        | true => have := (goodE_iff _).1 h; simp only at this; omega
      have d2 : decide (c < 1) = true := decide_eq_true h4
      rw [hb]
      clear hb
      go_enter Try.func52, Try.ntmps52
      go_wp2_with fail
      go_ret
      exact ⟨rfl, below_alloc1 w _⟩
    · have d2 : decide (c < 1) = false := decide_eq_false h4
      have hw : wrap64 (24 - f) = 24 - f := IntWalk.wrap64_in _ (by omega)
      have hb : (!goodE (f, c)) = decide (24 - f < c) := by
        cases h : goodE (f, c) with
        | false =>
          have : ¬ goodE (f, c) = true := by rw [h]; simp
          rw [goodE_iff] at this
          simp only at this
          simp; omega
        | true => have := (goodE_iff _).1 h; simp only at this; simp; omega
      rw [hb]
      clear hb
      go_enter Try.func52, Try.ntmps52
      go_wp2_with fail
      go_ret
      exact ⟨rfl, below_alloc1 w _⟩

def OutRel (l : List extT) (w : World) (i : Value) (wr : World) : Prop := ∃ k : Nat, k ≤ l.length ∧ i = .int .i64 k ∧ (∀ j (h : j < l.length), j < k → goodE l[j] = true) ∧ Below w.heap.size w wr
/-- What IndexFunc gives: whether there is one outside, by the sign. -/
def FoundE (l : List extT) (w : World) (e : Ending) (w' : World) : Prop := ∃ r : Int, e = .returned (.int .i64 r) ∧ decide (0 ≤ r) = !l.all goodE ∧ -1 ≤ r ∧ r ≤ 1048576 ∧ Below w.heap.size w w'
theorem all_bad (l : List extT) (k : Nat) (h : k < l.length) (hb : goodE l[k] = false) : l.all goodE = false := by
  cases ha : l.all goodE with
  | false => rfl
  | true => have := (List.all_eq_true.1 ha) _ (List.getElem_mem h); rw [hb] at this; cases this

set_option maxHeartbeats 2000000 in
set_option maxRecDepth 100000 in
theorem indexE_any (vl : Value) (l : List extT) (w : World) (hl : Rd w vl l.length 2 (extCs l)) (hn : l.length ≤ 1048576) (hf : FitE l) :
    Calls Try.prog 65 #[vl, .func (.func 52) #[] #[]] w (FoundE l w) := by
  obtain ⟨al, cl, rfl, -⟩ := id hl.2
  have HV := Lib.hid hl
  clear hl
  have HFit := Lib.hid hf
  clear hf
  go_enter Try.func65, Try.ntmps65
  go_wp2_with fail
  go_loopw [8] (fun i wr => OutRel l w i wr) (fun i _ => l.length - (intOf i).toNat)
  case atStart => exact ⟨0, by omega, rfl, fun j _ hj => absurd hj (by omega), Below.refl _ _⟩
  case round =>
    obtain ⟨k, hk, rfl, hseen, hb⟩ := hrel
    have HSEEN := Lib.hid hseen
    have HB := Lib.hid hb
    clear hseen hb
    by_cases hlt : k < l.length
    · obtain ⟨b, off, rfl, hbl, hcell⟩ := HV.out.get (by omega)
      have r0 : wr.cell? ⟨b, off + k * 2, none⟩ = some (.int .i64 l[k].1) := by rw [HB.out.cell (p := ⟨b, off + k * 2, none⟩) hbl, hcell (k * 2) (by omega), extCs_0 l k hlt]
      have r1 : wr.cell? ⟨b, off + k * 2 + 1, none⟩ = some (.int .i64 l[k].2) := by rw [HB.out.cell (p := ⟨b, off + k * 2 + 1, none⟩) hbl, Nat.add_assoc, hcell (k * 2 + 1) (by omega), extCs_1 l k hlt]
      have e0 : (k : Int) < (l.length : Int) := by omega
      have e1 : (0 : Int) ≤ (k : Int) := by omega
      have hsz := HB.out.size
      clear hcell
      go_wp2_with fail
      refine (outside_any l[k].1 l[k].2 _ (HFit.out k hlt).1 (HFit.out k hlt).2).mono ?_
      rintro e w2 ⟨rfl, hb2⟩
      have HB2 := Lib.hid (HB.out.trans (hb2.mono hsz))
      clear hb2
      obtain ⟨q, hq⟩ : ∃ q, goodE (l[k].1, l[k].2) = q := ⟨_, rfl⟩
      have hq' : goodE l[k] = q := hq
      rw [hq]
      have HQ := Lib.hid hq'
      clear hq hq'
      cases q with
      | false =>
        go_wp2_with fail
        go_ret
        exact ⟨k, rfl, by rw [all_bad l k hlt HQ.out]; simp, by omega, by omega, HB2.out⟩
      | true =>
        go_wp2_with fail
        go_roundw
        case rel =>
          refine ⟨k + 1, by omega, by go_num, fun j h hj => ?_, HB2.out⟩
          by_cases hjk : j = k
          · subst hjk; exact HQ.out
          · exact HSEEN.out j h (by omega)
        case measure => simp [intOf]; omega
    · obtain rfl : k = l.length := by omega
      have d1 : decide ((l.length : Int) < (l.length : Int)) = false := decide_eq_false (by omega)
      go_wp2_with fail
      go_ret
      exact ⟨-1, rfl, by rw [all_good l fun j hj => HSEEN.out j hj hj]; rfl, by omega, by omega, HB.out⟩
set_option maxHeartbeats 2000000 in
set_option maxRecDepth 100000 in
theorem containsE_any (vl : Value) (l : List extT) (w : World) (hl : Rd w vl l.length 2 (extCs l)) (hn : l.length ≤ 1048576) (hf : FitE l) :
    Calls Try.prog 51 #[vl, .func (.func 52) #[] #[]] w fun e w' => e = .returned (.bool (!l.all goodE)) ∧ Below w.heap.size w w' := by
  obtain ⟨al, cl, rfl, -⟩ := id hl.2
  have HV := Lib.hid hl
  clear hl
  go_enter Try.func51, Try.ntmps51
  go_wp2_with fail
  refine (indexE_any _ l w HV.out hn hf).mono ?_
  rintro e w1 ⟨r, rfl, hq, q1, q2, hb⟩
  have HB := Lib.hid hb
  have HQ := Lib.hid hq
  clear hb hq
  go_wp2_with fail
  go_ret
  exact ⟨by rw [← HQ.out]; rfl, HB.out⟩
end Go.Proofs.Ytmhmjofmafeidaa
