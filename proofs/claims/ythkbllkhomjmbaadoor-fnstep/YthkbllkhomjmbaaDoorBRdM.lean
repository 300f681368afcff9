/- What StepRead gives; free of any program. -/
import Derived.Test.YthkbllkhomjmbaaDoorMMath
import Derived.Test.YthkbllkhomjmbaaDoorBBytes
namespace Go.Proofs.YthkbllkhomjmbaaDoor
open Go.RowKit

/-- One number read behind a flag. -/
def numS (s : ByteArray) (x : Int) (bad : Bool) : Int × Int × Bool := if bad = false ∧ (getR s x).2.2 = 0 then ((getR s x).1, (getR s x).2.1, false) else (0, x, true)
def txtS (s : ByteArray) (x : Int) (bad : Bool) : ByteArray × Int × Bool := if bad = false ∧ (textR s x).2.2 = 0 then ((textR s x).1, (textR s x).2.1, false) else (⟨#[]⟩, x, true)
theorem numS_bad (s : ByteArray) (x : Int) : numS s x true = (0, x, true) := by unfold numS; rw [if_neg (by simp)]
theorem numS_no {s : ByteArray} {x : Int} (h : ¬ (getR s x).2.2 = 0) : numS s x false = (0, x, true) := by unfold numS; rw [if_neg (fun h' => h h'.2)]
theorem numS_yes {s : ByteArray} {x : Int} (h : (getR s x).2.2 = 0) : numS s x false = ((getR s x).1, (getR s x).2.1, false) := by unfold numS; rw [if_pos ⟨rfl, h⟩]
theorem txtS_bad (s : ByteArray) (x : Int) : txtS s x true = (⟨#[]⟩, x, true) := by unfold txtS; rw [if_neg (by simp)]
theorem txtS_no {s : ByteArray} {x : Int} (h : ¬ (textR s x).2.2 = 0) : txtS s x false = (⟨#[]⟩, x, true) := by unfold txtS; rw [if_neg (fun h' => h h'.2)]
theorem txtS_yes {s : ByteArray} {x : Int} (h : (textR s x).2.2 = 0) : txtS s x false = ((textR s x).1, (textR s x).2.1, false) := by unfold txtS; rw [if_pos ⟨rfl, h⟩]
theorem numS_lim (s : ByteArray) (x : Int) (bad : Bool) (hs : s.size ≤ maxLen) (hx : x ≤ 9223372036854775807) : (numS s x bad).2.1 ≤ 9223372036854775807 := by
  unfold numS
  split
  · have := getR_at s x hs; simp only; omega
  · exact hx
/-- The four parts read one behind the other, whatever their codes. -/
def p1 (s : ByteArray) : Int × Int × Int := getR s 0
def p2 (s : ByteArray) : Int × Int × Int := getR s (p1 s).2.1
def p3 (s : ByteArray) : Int × Int × Int := getR s (p2 s).2.1
def p4 (s : ByteArray) : ByteArray × Int × Int := textR s (p3 s).2.1
def rdB (s : ByteArray) : Bool := stepB 8 (p1 s).1 (p2 s).1 (p3 s).1 (p4 s).1 && ((stepBs (p1 s).1 (p2 s).1 (p3 s).1 (p4 s).1).toList == s.toList)
def rdStp (s : ByteArray) : stpT := ((p1 s).1, (p2 s).1, (p3 s).1, (p4 s).1)
def rdR (s : ByteArray) : stpT × Int := if 8000 < s.size then ((0, 0, 0, ⟨#[]⟩), 2) else if rdB s = true then (rdStp s, 0) else ((0, 0, 0, ⟨#[]⟩), 3)
theorem stepS_list (k t f : Int) (d : ByteArray) : (stepS k t f d).data.toList = (putS k).data.toList ++ ((putS t).data.toList ++ ((putS f).data.toList ++ ((putS d.size).data.toList ++ d.data.toList))) := by
  unfold stepS; simp
theorem stepS_size (k t f : Int) (d : ByteArray) : (stepS k t f d).size = (putS k).size + (putS t).size + (putS f).size + ((putS d.size).size + d.size) := by
  unfold stepS; simp only [ByteArray.size_append]
theorem stepS_reads {k t f : Int} {d : ByteArray} (h : stepB 8 k t f d = true) (s : ByteArray) (hs : stepS k t f d = s) :
    p1 s = (k, (((putS k).size : Nat) : Int), 0) ∧ p2 s = (t, (((putS k).size + (putS t).size : Nat) : Int), 0) ∧ p3 s = (f, (((putS k).size + (putS t).size + (putS f).size : Nat) : Int), 0) ∧ (p4 s).1 = d ∧ (p4 s).2.2 = 0 := by
  obtain ⟨k0, k1, t0, t1, f0, f1, d1⟩ := ok_bounds h
  have z1 := putS_size k (by omega) (by omega)
  have z2 := putS_size t (by omega) (by omega)
  have z3 := putS_size f (by omega) (by omega)
  have z4 := putS_size d.size (by omega) (by omega)
  have hz : s.size ≤ 8000 := by rw [← hs, stepS_size]; omega
  have hl := stepS_list k t f d
  rw [hs] at hl
  have sz : ∀ x : ByteArray, x.data.toList.length = x.size := fun x => (Lib.size_eq x).symm
  have e1 : p1 s = (k, (((putS k).size : Nat) : Int), 0) := by
    have h9 := mread k (by omega) (by omega) s [] _ (by rw [hl]; rfl)
    have h8 := mgetR s 0 hz
    unfold p1
    rw [show (0 : Int) = ((0 : Nat) : Int) from rfl, h8]
    simpa using h9
  have e2 : p2 s = (t, (((putS k).size + (putS t).size : Nat) : Int), 0) := by
    have h9 := mread t (by omega) (by omega) s (putS k).data.toList _ hl
    rw [sz] at h9
    unfold p2
    rw [e1, mgetR s _ hz]
    exact h9
  have e3 : p3 s = (f, (((putS k).size + (putS t).size + (putS f).size : Nat) : Int), 0) := by
    have h9 := mread f (by omega) (by omega) s ((putS k).data.toList ++ (putS t).data.toList) ((putS d.size).data.toList ++ d.data.toList) (by rw [hl]; simp)
    rw [List.length_append, sz, sz] at h9
    unfold p3
    rw [e2, mgetR s _ hz]
    exact h9
  have e4 : getR s (((putS k).size + (putS t).size + (putS f).size : Nat) : Int) = ((d.size : Int), (((putS k).size + (putS t).size + (putS f).size + (putS d.size).size : Nat) : Int), 0) := by
    have h9 := mread (d.size : Int) (by omega) (by omega) s ((putS k).data.toList ++ (putS t).data.toList ++ (putS f).data.toList) d.data.toList (by rw [hl]; simp)
    rw [List.length_append, List.length_append, sz, sz, sz] at h9
    rw [mgetR s _ hz]
    exact h9
  refine ⟨e1, e2, e3, ?_⟩
  unfold p4 textR
  rw [e3]
  simp only [e4, if_true, Int.toNat_natCast]
  rw [if_neg (by omega), if_pos (by rw [← hs, stepS_size]; omega)]
  refine ⟨?_, rfl⟩
  apply ByteArray.ext
  apply Array.toList_inj.1
  rw [Lib.extract_data]
  have hd : s.data.toList.drop ((putS k).size + (putS t).size + (putS f).size + (putS d.size).size) = d.data.toList := by
    rw [hl, ← List.append_assoc, ← List.append_assoc, ← List.append_assoc, List.drop_left' (by simp only [List.length_append, sz])]
  rw [hd, List.take_of_length_le (by rw [sz]; omega)]
/-- What the model reads, one behind the other. -/
def a1 (s : ByteArray) : Int × Int × Bool := numS s 0 false
def a2 (s : ByteArray) : Int × Int × Bool := numS s (a1 s).2.1 (a1 s).2.2
def a3 (s : ByteArray) : Int × Int × Bool := numS s (a2 s).2.1 (a2 s).2.2
def a4 (s : ByteArray) : ByteArray × Int × Bool := txtS s (a3 s).2.1 (a3 s).2.2
def spR (s : ByteArray) : stpT × Int := if (a4 s).2.2 = false ∧ ((stepBs (a1 s).1 (a2 s).1 (a3 s).1 (a4 s).1).toList == s.toList) = true then (((a1 s).1, (a2 s).1, (a3 s).1, (a4 s).1), 0) else ((0, 0, 0, ⟨#[]⟩), 3)
theorem rdB_codes {s : ByteArray} (h : rdB s = true) : (p1 s).2.2 = 0 ∧ (p2 s).2.2 = 0 ∧ (p3 s).2.2 = 0 ∧ (p4 s).2.2 = 0 := by
  unfold rdB at h
  rw [Bool.and_eq_true] at h
  obtain ⟨h1, h2⟩ := h
  have h3 := toList_inj h2
  unfold stepBs at h3
  rw [if_pos h1] at h3
  obtain ⟨e1, e2, e3, -, e4⟩ := stepS_reads h1 s h3
  exact ⟨by rw [e1], by rw [e2], by rw [e3], e4⟩
theorem p1_empty {s : ByteArray} (h : s.size = 0) : ¬ (p1 s).2.2 = 0 := by
  have h9 := mgetR s 0 (by omega)
  unfold p1
  rw [show (0 : Int) = ((0 : Nat) : Int) from rfl, h9, goN_short (by omega)]
  simp
theorem spR_eq (s : ByteArray) (hs : ¬ 8000 < s.size) : spR s = rdR s := by
  unfold rdR
  rw [if_neg hs]
  unfold spR
  by_cases c1 : (p1 s).2.2 = 0
  · have e1 : a1 s = ((p1 s).1, (p1 s).2.1, false) := numS_yes c1
    by_cases c2 : (p2 s).2.2 = 0
    · have e2 : a2 s = ((p2 s).1, (p2 s).2.1, false) := by unfold a2; rw [e1]; exact numS_yes c2
      by_cases c3 : (p3 s).2.2 = 0
      · have e3 : a3 s = ((p3 s).1, (p3 s).2.1, false) := by unfold a3; rw [e2]; exact numS_yes c3
        by_cases c4 : (p4 s).2.2 = 0
        · have e4 : a4 s = ((p4 s).1, (p4 s).2.1, false) := by unfold a4; rw [e3]; exact txtS_yes c4
          rw [e1, e2, e3, e4]
          simp only [true_and]
          have hiff : ((stepBs (p1 s).1 (p2 s).1 (p3 s).1 (p4 s).1).toList == s.toList) = rdB s := by
            unfold rdB
            cases hb : stepB 8 (p1 s).1 (p2 s).1 (p3 s).1 (p4 s).1 with
            | true => simp
            | false =>
              rw [Bool.false_and]
              cases hq : ((stepBs (p1 s).1 (p2 s).1 (p3 s).1 (p4 s).1).toList == s.toList) with
              | false => rfl
              | true =>
                have h3 := toList_inj hq
                unfold stepBs at h3
                rw [hb] at h3
                exact absurd c1 (p1_empty (by rw [← h3]; rfl))
          rw [hiff]
          rfl
        · have e4 : (a4 s).2.2 = true := by unfold a4; rw [e3]; unfold txtS; rw [if_neg (fun h => c4 h.2)]
          rw [if_neg (by rw [e4]; simp), if_neg (fun h => c4 (rdB_codes h).2.2.2)]
      · have e3 : a3 s = (0, (p2 s).2.1, true) := by unfold a3; rw [e2]; exact numS_no c3
        have e4 : (a4 s).2.2 = true := by unfold a4; rw [e3, txtS_bad]
        rw [if_neg (by rw [e4]; simp), if_neg (fun h => c3 (rdB_codes h).2.2.1)]
    · have e2 : a2 s = (0, (p1 s).2.1, true) := by unfold a2; rw [e1]; exact numS_no c2
      have e3 : (a3 s).2.2 = true := by unfold a3; rw [e2, numS_bad]
      have e4 : (a4 s).2.2 = true := by unfold a4; rw [e3, txtS_bad]
      rw [if_neg (by rw [e4]; simp), if_neg (fun h => c2 (rdB_codes h).2.1)]
  · have e1 : a1 s = (0, 0, true) := numS_no c1
    have e2 : (a2 s).2.2 = true := by unfold a2; rw [e1, numS_bad]
    have e3 : (a3 s).2.2 = true := by unfold a3; rw [e2, numS_bad]
    have e4 : (a4 s).2.2 = true := by unfold a4; rw [e3, txtS_bad]
    rw [if_neg (by rw [e4]; simp), if_neg (fun h => c1 (rdB_codes h).1)]
end Go.Proofs.YthkbllkhomjmbaaDoor
