/- Lists of steps: which code they have; free of any program. -/
import Derived.Test.YtcckpkcjekcajaaDoorBStepM
namespace Go.Proofs.YtcckpkcjekcajaaDoor
open Go.RowKit

/-- Steps i and j write the same block. -/
def Pair (l : List stpT) (i j : Nat) : Prop := ∃ (hi : i < l.length) (hj : j < l.length), l[i].1 ≠ 5 ∧ l[j].1 ≠ 5 ∧ l[i].2.1 = l[j].2.1
def Twice (l : List stpT) : Prop := ∃ i j, j < i ∧ Pair l i j
/-- The number of the last label among the first k. -/
def lastT (l : List stpT) : Nat → Int
  | 0 => -1
  | k + 1 => if (l.getD k (0, 0, 0, ⟨#[]⟩)).1 = 5 then (l.getD k (0, 0, 0, ⟨#[]⟩)).2.2.1 else lastT l k
theorem lastT_yes {l : List stpT} {k : Nat} (h : k < l.length) (h5 : l[k].1 = 5) : lastT l (k + 1) = l[k].2.2.1 := by
  simp only [lastT, List.getD_eq_getElem?_getD, List.getElem?_eq_getElem h, Option.getD_some, h5, if_true]
theorem lastT_no {l : List stpT} {k : Nat} (h : k < l.length) (h5 : l[k].1 ≠ 5) : lastT l (k + 1) = lastT l k := by
  simp only [lastT, List.getD_eq_getElem?_getD, List.getElem?_eq_getElem h, Option.getD_some, h5, if_false]
/-- A label's number is no greater than that of the one ahead of it. -/
def LowAt (l : List stpT) (k : Nat) : Prop := ∃ h : k < l.length, l[k].1 = 5 ∧ l[k].2.2.1 ≤ lastT l k
def Low (l : List stpT) (n : Nat) : Prop := ∃ k, k < n ∧ LowAt l k
theorem Low.more {l : List stpT} {n : Nat} (h : Low l n) : Low l (n + 1) := by obtain ⟨k, h1, h2⟩ := h; exact ⟨k, by omega, h2⟩
theorem low_yes {l : List stpT} {n : Nat} (h : LowAt l n) : Low l (n + 1) := ⟨n, by omega, h⟩
theorem low_no {l : List stpT} {n : Nat} (h : ¬ LowAt l n) : Low l (n + 1) ↔ Low l n := by
  constructor
  · rintro ⟨k, h1, h2⟩
    by_cases hk : k = n
    · subst hk; exact absurd h2 h
    · exact ⟨k, by omega, h2⟩
  · exact Low.more
def wrongS (n : Int) (s : stpT) : Bool := !stepB n s.1 s.2.1 s.2.2.1 s.2.2.2
def FormBad (l : List stpT) (n : Int) : Prop := ¬ (1 ≤ n ∧ n ≤ 8) ∨ 20 < l.length ∨ ∃ s ∈ l, wrongS n s = true
open Classical in
noncomputable def codeS (l : List stpT) (n : Int) : Int := if FormBad l n then 1 else if Twice l then 12 else if Low l l.length then 8 else 0
theorem codeS_form {l : List stpT} {n : Int} (h : FormBad l n) : codeS l n = 1 := by unfold codeS; rw [if_pos h]
theorem codeS_twice {l : List stpT} {n : Int} (h : ¬ FormBad l n) (h2 : Twice l) : codeS l n = 12 := by unfold codeS; rw [if_neg h, if_pos h2]
theorem codeS_low {l : List stpT} {n : Int} (h : ¬ FormBad l n) (h2 : ¬ Twice l) (h3 : Low l l.length) : codeS l n = 8 := by unfold codeS; rw [if_neg h, if_neg h2, if_pos h3]
theorem codeS_ok {l : List stpT} {n : Int} (h : ¬ FormBad l n) (h2 : ¬ Twice l) (h3 : ¬ Low l l.length) : codeS l n = 0 := by unfold codeS; rw [if_neg h, if_neg h2, if_neg h3]
/-- No two of the first k write the same block. -/
def Apart (l : List stpT) (k : Nat) : Prop := ∀ i j, i < k → j < i → ¬ Pair l i j
theorem apart_all {l : List stpT} (h : Apart l l.length) : ¬ Twice l := by
  rintro ⟨i, j, hji, hp⟩
  exact h i j hp.1 hji hp
theorem Apart.next {l : List stpT} {k : Nat} (h : Apart l k) (hk : ∀ j, j < k → ¬ Pair l k j) : Apart l (k + 1) := by
  intro i j hi hj
  by_cases h' : i = k
  · subst h'; exact hk j hj
  · exact h i j (by omega) hj
/-- What one of the first k writes. -/
def Wrote (l : List stpT) (k : Nat) (b : Nat) : Prop := ∃ j, j < k ∧ ∃ h : j < l.length, l[j].1 ≠ 5 ∧ l[j].2.1 = (b : Int)
open Classical in
noncomputable def wroteB (l : List stpT) (k b : Nat) : Bool := decide (Wrote l k b)
theorem wroteB_iff (l : List stpT) (k b : Nat) : wroteB l k b = true ↔ Wrote l k b := by unfold wroteB; simp
theorem wroteB_zero (l : List stpT) (b : Nat) : wroteB l 0 b = false := by
  cases h : wroteB l 0 b with
  | false => rfl
  | true => obtain ⟨j, hj, _⟩ := (wroteB_iff ..).1 h; omega
theorem wroteB_label {l : List stpT} {k : Nat} (h : k < l.length) (h5 : l[k].1 = 5) (b : Nat) : wroteB l (k + 1) b = wroteB l k b := by
  rw [Bool.eq_iff_iff, wroteB_iff, wroteB_iff]
  constructor
  · rintro ⟨j, hj, hjl, h1, h2⟩
    by_cases h' : j = k
    · subst h'; exact absurd h5 h1
    · exact ⟨j, by omega, hjl, h1, h2⟩
  · rintro ⟨j, hj, r⟩; exact ⟨j, by omega, r⟩
theorem wroteB_same {l : List stpT} {k : Nat} (h : k < l.length) (h5 : l[k].1 ≠ 5) {b : Nat} (hb : l[k].2.1 = (b : Int)) : wroteB l (k + 1) b = true := (wroteB_iff ..).2 ⟨k, by omega, h, h5, hb⟩
theorem wroteB_other {l : List stpT} {k : Nat} (h : k < l.length) {b c : Nat} (hb : l[k].2.1 = (b : Int)) (hc : c ≠ b) : wroteB l (k + 1) c = wroteB l k c := by
  rw [Bool.eq_iff_iff, wroteB_iff, wroteB_iff]
  constructor
  · rintro ⟨j, hj, hjl, h1, h2⟩
    by_cases h' : j = k
    · subst h'; rw [hb] at h2; exact absurd (by omega) hc
    · exact ⟨j, by omega, hjl, h1, h2⟩
  · rintro ⟨j, hj, r⟩; exact ⟨j, by omega, r⟩
theorem wrote_pair {l : List stpT} {k : Nat} (h : k < l.length) (h5 : l[k].1 ≠ 5) {b : Nat} (hb : l[k].2.1 = (b : Int)) (hw : wroteB l k b = true) : Twice l := by
  obtain ⟨j, hj, hjl, h1, h2⟩ := (wroteB_iff ..).1 hw
  exact ⟨k, j, hj, h, hjl, h5, h1, by rw [hb, h2]⟩
theorem wrote_apart {l : List stpT} {k : Nat} (h : k < l.length) {b : Nat} (hb : l[k].2.1 = (b : Int)) (hw : wroteB l k b = false) : ∀ j, j < k → ¬ Pair l k j := by
  rintro j hj ⟨_, hjl, h5, h1, h2⟩
  have : wroteB l k b = true := (wroteB_iff ..).2 ⟨j, hj, hjl, h1, by rw [← h2, hb]⟩
  rw [this] at hw; cases hw
end Go.Proofs.YtcckpkcjekcajaaDoor
