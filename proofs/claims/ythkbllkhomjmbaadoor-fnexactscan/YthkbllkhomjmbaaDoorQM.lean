/- Records: a number and a step under a seal; free of any program. -/
import Derived.Test.YthkbllkhomjmbaaDoorKM
import Derived.Test.YthkbllkhomjmbaaDoorQM0
namespace Go.Proofs.YthkbllkhomjmbaaDoor
open Go.RowKit

/-- The number in front; what stands behind it; the step there. -/
def rN (t : ByteArray) : Int × Int × Bool := numS t 0 false
def rT (t : ByteArray) : ByteArray := t.extract (rN t).2.1.toNat t.size
def rX (t : ByteArray) : stpT × Int := rdR (rT t)
def recRd (s : ByteArray) (n : Int) : stpT × Int :=
  if (unsealT s).2 = 0 then
    (if (rN (unsealT s).1).2.2 = false ∧ isT (rN (unsealT s).1).1 = true ∧ (rX (unsealT s).1).2 = 0 then
      (if (rN (unsealT s).1).1 = n then ((rX (unsealT s).1).1, 0) else (noStp, 6)) else (noStp, 3))
  else (noStp, (unsealT s).2)
theorem rN_at (t : ByteArray) : ∃ q : Nat, (rN t).2.1 = q ∧ q ≤ t.size ∧ rT t = t.extract q t.size := by
  unfold rT
  cases hb : (rN t).2.2 with
  | false =>
    obtain ⟨-, hc, he⟩ := numS_ok (show (numS t 0 false).2.2 = false from hb)
    obtain ⟨q, hq, -, -, hz, ha⟩ := getR_canon hc
    have e : (rN t).2.1 = ((q + (putS (getR t 0).1).size : Nat) : Int) := by unfold rN; rw [he]; exact ha
    exact ⟨_, e, hz, by rw [e, Int.toNat_natCast]⟩
  | true =>
    have e : (rN t).2.1 = ((0 : Nat) : Int) := by
      unfold rN numS at *
      split at hb
      · cases hb
      · rename_i h; rw [if_neg h]; rfl
    exact ⟨0, e, Nat.zero_le _, by rw [e]; rfl⟩
theorem getR_at0 (t : ByteArray) : ∃ q : Nat, (getR t 0).2.1 = q ∧ q ≤ t.size := by
  by_cases hc : (getR t 0).2.2 = 0
  · obtain ⟨q, hq, -, -, hz, ha⟩ := getR_canon hc
    exact ⟨_, ha, hz⟩
  · refine ⟨0, ?_, Nat.zero_le _⟩
    unfold getR at *
    split
    · rfl
    · rename_i h8
      rw [if_neg h8] at hc
      split
      · rfl
      · rename_i h0
        rw [if_neg h0] at hc
        rw [goN_bad _ _ _ _ _ hc]; rfl
theorem rN_yes {t : ByteArray} (h : (getR t 0).2.2 = 0) : rN t = ((getR t 0).1, (getR t 0).2.1, false) := numS_yes h
theorem rN_no {t : ByteArray} (h : ¬ (getR t 0).2.2 = 0) : rN t = (0, 0, true) := numS_no h
/-- What is read is what stands there. -/
theorem rec_enc {t : ByteArray} (hb : (rN t).2.2 = false) (hx : (rX t).2 = 0) : t = recE (rN t).1 (rX t).1 := by
  obtain ⟨-, hc, he⟩ := numS_ok (show (numS t 0 false).2.2 = false from hb)
  obtain ⟨q, hq, -, hA, hz, ha⟩ := getR_canon hc
  obtain rfl : q = 0 := by omega
  have g1 : (rN t).1 = (getR t 0).1 := by unfold rN; rw [he]
  have g2 : rT t = t.extract (putS (rN t).1).size t.size := by
    unfold rT
    rw [g1]
    unfold rN
    rw [he]
    simp only
    rw [ha, Nat.zero_add]; rfl
  rw [← g1] at hA hz
  have hf := rdR_full (show (rdR (rT t)).2 = 0 from hx)
  have hE := at_extract t (putS (rN t).1).size t.size (Nat.le_refl _)
  rw [← g2] at hE
  have hsz : (rT t).size = t.size - (putS (rN t).1).size := by rw [g2]; simp
  have hall : At t 0 (putS (rN t).1 ++ rT t).data.toList := by
    rw [ByteArray.data_append, Array.toList_append]
    refine hA.join ?_
    rw [szl, Nat.zero_add]
    exact hE
  have h1 := hall.whole (by rw [szl, ByteArray.size_append]; omega)
  have h2 : t = putS (rN t).1 ++ rT t := ByteArray.ext (Array.toList_inj.1 h1)
  have h3 : recE (rN t).1 (rX t).1 = putS (rN t).1 ++ rT t := by
    unfold recE rX
    rw [← hf]
  rw [h3]
  exact h2
theorem mtail (t u : ByteArray) : (t ++ u).extract t.size (t ++ u).size = u := by
  apply ByteArray.ext
  apply Array.toList_inj.1
  rw [Lib.extract_data]
  simp only [ByteArray.data_append, Array.toList_append]
  rw [List.drop_left' (szl t), List.take_of_length_le (by rw [szl, ByteArray.size_append]; omega)]
/-- An encoding reads as what it is of. -/
theorem rec_reads {n : Int} {s : stpT} (h : recB n s = true) {t : ByteArray} (ht : t = recE n s) : (rN t).1 = n ∧ (rN t).2.2 = false ∧ rX t = (s, 0) := by
  have hz := recE_size h
  obtain ⟨⟨n0, n1⟩, hs⟩ := (recB_iff _ _).1 h
  have hA := at_self t
  have h8 : t.size ≤ 8000 := by rw [ht]; omega
  have el : t.data.toList = (putS n).data.toList ++ (stepS s.1 s.2.1 s.2.2.1 s.2.2.2).data.toList := by
    rw [ht]; unfold recE; simp only [ByteArray.data_append, Array.toList_append]
  have ez : t.size = (putS n).size + (stepS s.1 s.2.1 s.2.2.1 s.2.2.2).size := by rw [ht]; unfold recE; rw [ByteArray.size_append]
  rw [el] at hA
  have e1 : getR t 0 = (n, (((putS n).size : Nat) : Int), 0) := by
    have := getR_read (q := 0) (by omega) (by omega) h8 hA.left (by omega)
    simpa using this
  have f1 := rN_yes (t := t) (by rw [e1])
  rw [e1] at f1
  have f2 : rT t = stepS s.1 s.2.1 s.2.2.1 s.2.2.2 := by
    unfold rT
    rw [f1]
    simp only [Int.toNat_natCast]
    rw [ht]
    exact mtail _ _
  refine ⟨by rw [f1], by rw [f1], ?_⟩
  unfold rX
  rw [f2, rdR_back hs]
/-- A record is read under its number. -/
theorem rec_back {n : Int} {s : stpT} (h : recB n s = true) (m : Int) : recRd (recBs n s) m = if n = m then (s, 0) else (noStp, 6) := by
  have hz := recE_size h
  have hn := ((recB_iff _ _).1 h).1
  rw [recBs_yes h]
  unfold recRd
  rw [unsealT_sealS (by omega)]
  obtain ⟨a, b, c⟩ := rec_reads h rfl
  simp only [if_true]
  rw [if_pos ⟨b, by rw [a]; exact (isT_iff _).2 hn, by rw [c]⟩, a, c]
theorem recRd_seal {s : ByteArray} (h : ¬ (unsealT s).2 = 0) (n : Int) : recRd s n = (noStp, (unsealT s).2) := if_neg h
theorem recRd_odd {s : ByteArray} (h0 : (unsealT s).2 = 0) (hg : ¬ ((rN (unsealT s).1).2.2 = false ∧ isT (rN (unsealT s).1).1 = true ∧ (rX (unsealT s).1).2 = 0)) (n : Int) : recRd s n = (noStp, 3) := (if_pos h0).trans (if_neg hg)
theorem recRd_good {s : ByteArray} (h0 : (unsealT s).2 = 0) (hg : (rN (unsealT s).1).2.2 = false ∧ isT (rN (unsealT s).1).1 = true ∧ (rX (unsealT s).1).2 = 0) (n : Int) : recRd s n = if (rN (unsealT s).1).1 = n then ((rX (unsealT s).1).1, 0) else (noStp, 6) := (if_pos h0).trans (if_pos hg)
theorem rdR_right {u : ByteArray} (h : (rdR u).2 = 0) : stepB 8 (rdR u).1.1 (rdR u).1.2.1 (rdR u).1.2.2.1 (rdR u).1.2.2.2 = true := by
  unfold rdR at *
  split at h
  · simp at h
  · rename_i h8
    rw [if_neg h8]
    split at h
    · rename_i hb
      rw [if_pos hb]
      unfold rdB at hb
      rw [Bool.and_eq_true] at hb
      exact hb.1
    · simp at h
theorem rX_right {t : ByteArray} (h : (rX t).2 = 0) : stepB 8 (rX t).1.1 (rX t).1.2.1 (rX t).1.2.2.1 (rX t).1.2.2.2 = true := by unfold rX at *; exact rdR_right h
theorem recB_of {n : Int} {s : stpT} (h : isT n = true) (h' : stepB 8 s.1 s.2.1 s.2.2.1 s.2.2.2 = true) : recB n s = true := by unfold recB; rw [h, h']; rfl
theorem rec_good {s : ByteArray} (h0 : (unsealT s).2 = 0) (hg : (rN (unsealT s).1).2.2 = false ∧ isT (rN (unsealT s).1).1 = true ∧ (rX (unsealT s).1).2 = 0) : recB (rN (unsealT s).1).1 (rX (unsealT s).1).1 = true ∧ recBs (rN (unsealT s).1).1 (rX (unsealT s).1).1 = s := by
  have hrb := recB_of hg.2.1 (rX_right hg.2.2)
  refine ⟨hrb, ?_⟩
  rw [recBs_yes hrb, ← rec_enc hg.1 hg.2.2]
  exact (unsealT_back h0).symm
theorem rec_ok_of {s : ByteArray} {n : Int} {x : stpT} {R : stpT × Int} (e : R = (x, 0)) (h : recB n x = true ∧ recBs n x = s) : recB n R.1 = true ∧ recBs n R.1 = s := by subst e; exact h
theorem two_ne {x : stpT} {c : Int} {R : stpT × Int} (e : R = (x, c)) (h : R.2 = 0) : c = 0 := by subst e; exact h
/-- What is accepted is the record of what is read. -/
theorem rec_ok {s : ByteArray} {n : Int} (h : (recRd s n).2 = 0) : recB n (recRd s n).1 = true ∧ recBs n (recRd s n).1 = s := by
  by_cases h0 : (unsealT s).2 = 0
  · by_cases hg : (rN (unsealT s).1).2.2 = false ∧ isT (rN (unsealT s).1).1 = true ∧ (rX (unsealT s).1).2 = 0
    · have e := recRd_good h0 hg n
      by_cases hn : (rN (unsealT s).1).1 = n
      · rw [if_pos hn] at e
        have := rec_good h0 hg
        rw [hn] at this
        exact rec_ok_of e this
      · rw [if_neg hn] at e
        exact absurd (two_ne e h) (by decide)
    · exact absurd (two_ne (recRd_odd h0 hg n) h) (by decide)
  · exact absurd (two_ne (recRd_seal h0 n) h) h0
/-- How the model decides: it reads, and then it compares. -/
theorem rec_cmp {s : ByteArray} (h0 : (unsealT s).2 = 0) (n : Int) :
    recRd s n = if (rN (unsealT s).1).2.2 = false ∧ (rX (unsealT s).1).2 = 0 ∧ ((recBs (rN (unsealT s).1).1 (rX (unsealT s).1).1).toList == s.toList) = true then (if (rN (unsealT s).1).1 = n then ((rX (unsealT s).1).1, 0) else (noStp, 6)) else (noStp, 3) := by
  obtain ⟨hs8, hs4, -⟩ := unsealT_ok h0
  by_cases hc : (rN (unsealT s).1).2.2 = false ∧ isT (rN (unsealT s).1).1 = true ∧ (rX (unsealT s).1).2 = 0
  · rw [recRd_good h0 hc]
    have e := rec_good h0 hc
    exact (if_pos ⟨hc.1, hc.2.2, by rw [e.2]; simp⟩).symm
  · rw [recRd_odd h0 hc]
    refine (if_neg fun hg => hc ⟨hg.1, ?_, hg.2.1⟩).symm
    have he := toList_inj hg.2.2
    cases hb : recB (rN (unsealT s).1).1 (rX (unsealT s).1).1 with
    | true => exact (isT_iff _).2 ((recB_iff _ _).1 hb).1
    | false =>
      rw [recBs_no hb] at he
      rw [← he] at hs4
      exact absurd hs4 (by decide)
/-- At one place stands one step. -/
theorem step_one {t : ByteArray} {q : Nat} (h8 : t.size ≤ 8000) {s s' : stpT} (h : stepB 8 s.1 s.2.1 s.2.2.1 s.2.2.2 = true) (h' : stepB 8 s'.1 s'.2.1 s'.2.2.1 s'.2.2.2 = true)
    (A : At t q (stepS s.1 s.2.1 s.2.2.1 s.2.2.2).data.toList) (z : q + (stepS s.1 s.2.1 s.2.2.1 s.2.2.2).size ≤ t.size)
    (A' : At t q (stepS s'.1 s'.2.1 s'.2.2.1 s'.2.2.2).data.toList) (z' : q + (stepS s'.1 s'.2.1 s'.2.2.1 s'.2.2.2).size ≤ t.size) : s = s' := by
  obtain ⟨k, to, f, d⟩ := s
  obtain ⟨k', to', f', d'⟩ := s'
  dsimp only at *
  obtain ⟨k0, k1, t0, t1, f0, f1, d1⟩ := ok_bounds h
  obtain ⟨k0', k1', t0', t1', f0', f1', d1'⟩ := ok_bounds h'
  rw [stepS_list] at A A'
  rw [stepS_size2] at z z'
  have e := getR_read (n := k) (by omega) (by omega) h8 A.left (by omega)
  rw [getR_read (n := k') (by omega) (by omega) h8 A'.left (by omega)] at e
  obtain rfl : k' = k := congrArg Prod.fst e
  have B := A.right
  have B' := A'.right
  rw [szl] at B B'
  have e := getR_read (n := to) (by omega) (by omega) h8 B.left (by omega)
  rw [getR_read (n := to') (by omega) (by omega) h8 B'.left (by omega)] at e
  obtain rfl : to' = to := congrArg Prod.fst e
  have C := B.right
  have C' := B'.right
  rw [szl] at C C'
  have e := getR_read (n := f) (by omega) (by omega) h8 C.left (by omega)
  rw [getR_read (n := f') (by omega) (by omega) h8 C'.left (by omega)] at e
  obtain rfl : f' = f := congrArg Prod.fst e
  have D := C.right
  have D' := C'.right
  rw [szl] at D D'
  rw [← txS_list] at D D'
  have e := textR_read (d := d) (by omega) h8 D (by rw [txS_size]; omega)
  rw [textR_read (d := d') (by omega) h8 D' (by rw [txS_size]; omega)] at e
  obtain rfl : d' = d := congrArg Prod.fst e
  rfl
/-- No prefix of a record is one. -/
theorem rec_prefix {n : Int} {s : stpT} (h : recB n s = true) (q : Nat) (hq : q < (recBs n s).size) : ¬ (recRd ((recBs n s).extract 0 q) n).2 = 0 := fun hk => by
  obtain ⟨hb, he⟩ := rec_ok hk
  obtain ⟨s', hs'⟩ : ∃ s', s' = (recRd ((recBs n s).extract 0 q) n).1 := ⟨_, rfl⟩
  rw [← hs'] at hb he
  clear hk hs'
  have hz := recE_size h
  have hz' := recE_size hb
  have e1 : (recBs n s).size = (recE n s).size + 4 := by rw [recBs_yes h]; unfold sealS; rw [ByteArray.size_append, fourS_size]
  have e2 : (recBs n s').size = (recE n s').size + 4 := by rw [recBs_yes hb]; unfold sealS; rw [ByteArray.size_append, fourS_size]
  have e3 : ((recBs n s).extract 0 q).size = q := by simp; omega
  rw [← he, e2] at e3
  have hlt : (recE n s').size < (recE n s).size := by omega
  -- what is sealed stands in front
  have A0 : At (recBs n s) 0 (recBs n s').data.toList := by rw [he]; exact at_extract _ 0 q (by omega)
  have A1 : At (recBs n s) 0 (recE n s').data.toList := by
    rw [recBs_yes hb] at A0
    unfold sealS at A0
    rw [ByteArray.data_append, Array.toList_append] at A0
    exact A0.left
  have A2 : At (recBs n s) 0 (recE n s).data.toList := by
    have := at_self (recBs n s)
    rw [recBs_yes h] at this ⊢
    unfold sealS at this ⊢
    rw [ByteArray.data_append, Array.toList_append] at this
    exact this.left
  unfold recE at A1 A2 hlt hz hz' e1
  rw [ByteArray.data_append, Array.toList_append] at A1 A2
  rw [ByteArray.size_append] at e1 hz hz' hlt
  rw [ByteArray.size_append] at hlt
  have B1 := A1.right
  have B2 := A2.right
  rw [szl, Nat.zero_add] at B1 B2
  have hst := ((recB_iff _ _).1 h).2
  have hst' := ((recB_iff _ _).1 hb).2
  have e := step_one (by omega) hst hst' B2 (by omega) B1 (by omega)
  rw [e] at hlt
  exact Nat.lt_irrefl _ hlt

/-- The steps of a log, read up to the first sector that has not the next one. -/
def scanF : List ByteArray → Nat → List stpT
  | [], _ => []
  | s :: l, i => if (recRd s i).2 = 0 then (recRd s i).1 :: scanF l (i + 1) else []
theorem scanF_cons (s : ByteArray) (l : List ByteArray) (i : Nat) : scanF (s :: l) i = if (recRd s i).2 = 0 then (recRd s i).1 :: scanF l (i + 1) else [] := rfl
theorem scanF_len : ∀ (l : List ByteArray) (i : Nat), (scanF l i).length ≤ l.length
  | [], _ => Nat.le_refl _
  | s :: l, i => by
    rw [scanF_cons]
    split
    · have := scanF_len l (i + 1); simp; omega
    · simp
theorem scanF_go {l : List ByteArray} {pre : List stpT} {k : Nat} (h : scanF l 0 = pre ++ scanF (l.drop k) k) (hk : k < l.length) (hc : (recRd l[k] (k : Int)).2 = 0) :
    scanF l 0 = (pre ++ [(recRd l[k] (k : Int)).1]) ++ scanF (l.drop (k + 1)) (k + 1) := by
  rw [List.drop_eq_getElem_cons hk, scanF_cons, if_pos hc] at h
  rw [h]; simp
theorem scanF_stop {l : List ByteArray} {pre : List stpT} {k : Nat} (h : scanF l 0 = pre ++ scanF (l.drop k) k) (hk : k < l.length) (hc : ¬ (recRd l[k] (k : Int)).2 = 0) : scanF l 0 = pre := by
  rw [List.drop_eq_getElem_cons hk, scanF_cons, if_neg hc] at h
  rw [h]; simp
theorem scanF_end {l : List ByteArray} {pre : List stpT} (h : scanF l 0 = pre ++ scanF (l.drop l.length) l.length) : scanF l 0 = pre := by
  rw [List.drop_length, scanF] at h
  rw [h]; simp
/-- What Scan gives. -/
def scanR (l : List ByteArray) : List stpT × Int := if 24 < l.length then ([], 0) else (scanF l 0, (keptS (scanF l 0) : Int))
theorem scanR_len (l : List ByteArray) : (scanR l).1.length ≤ 24 := by
  unfold scanR
  split
  · exact Nat.zero_le _
  · have := scanF_len l 0
    simp only; omega
/-- What was scanned is a row of records. -/
theorem scanF_get : ∀ (l : List ByteArray) (i k : Nat) (h : k < (scanF l i).length), ∃ hk : k < l.length, recRd l[k] ((i + k : Nat) : Int) = ((scanF l i)[k], 0)
  | [], _, k, h => absurd h (by simp [scanF])
  | s :: l, i, k, h => by
    by_cases hc : (recRd s (i : Int)).2 = 0
    · have e : scanF (s :: l) i = (recRd s (i : Int)).1 :: scanF l (i + 1) := by rw [scanF_cons, if_pos hc]
      match k with
      | 0 =>
        refine ⟨by simp, ?_⟩
        simp only [e, List.getElem_cons_zero, Nat.add_zero]
        rw [← hc]
      | k + 1 =>
        have h2 : k < (scanF l (i + 1)).length := by rw [e] at h; simpa using h
        obtain ⟨hk, hr⟩ := scanF_get l (i + 1) k h2
        refine ⟨by simpa using hk, ?_⟩
        simp only [e, List.getElem_cons_succ]
        rw [← hr]
        congr 2
        omega
    · rw [show scanF (s :: l) i = [] by rw [scanF_cons, if_neg hc]] at h
      exact absurd h (by simp)
/-- Where a sector is torn, the scan ends. -/
theorem scanF_cut : ∀ (l : List ByteArray) (i k : Nat) (s : ByteArray), k < (scanF l i).length → ¬ (recRd s ((i + k : Nat) : Int)).2 = 0 → scanF (l.set k s) i = (scanF l i).take k
  | [], _, k, _, h, _ => absurd h (by simp [scanF])
  | x :: l, i, k, s, h, hb => by
    by_cases hc : (recRd x (i : Int)).2 = 0
    · have e : scanF (x :: l) i = (recRd x (i : Int)).1 :: scanF l (i + 1) := by rw [scanF_cons, if_pos hc]
      match k with
      | 0 =>
        rw [List.set_cons_zero, List.take_zero]
        rw [scanF_cons, if_neg (by simpa using hb)]
      | k + 1 =>
        have h2 : k < (scanF l (i + 1)).length := by rw [e] at h; simpa using h
        have ih := scanF_cut l (i + 1) k s h2 (by rw [show i + 1 + k = i + (k + 1) by omega]; exact hb)
        rw [List.set_cons_succ, e, List.take_succ_cons, ← ih]
        show scanF (x :: l.set k s) i = _
        rw [scanF_cons, if_pos hc]
    · rw [show scanF (x :: l) i = [] by rw [scanF_cons, if_neg hc]] at h
      exact absurd h (by simp)
end Go.Proofs.YthkbllkhomjmbaaDoor
