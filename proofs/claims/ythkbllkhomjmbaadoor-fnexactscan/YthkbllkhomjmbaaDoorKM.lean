/- Packages: what is read of an encoding; free of any program. -/
import Derived.Test.YthkbllkhomjmbaaDoorBStM
import Derived.Test.YthkbllkhomjmbaaDoorKM0
namespace Go.Proofs.YthkbllkhomjmbaaDoor
open Go.RowKit

/- What is read is what stands there: each number and text has only one encoding. -/
theorem At.cons {s : ByteArray} {p : Nat} {b : UInt8} {l : List UInt8} (h : byt s p = b.toNat) (hl : At s (p + 1) l) : At s p (b :: l) := fun j hj => by
  match j with
  | 0 => simpa using h
  | j + 1 =>
    have := hl j (by simpa using hj)
    rw [show p + (j + 1) = p + 1 + j by omega, this]; simp
theorem At.nil (s : ByteArray) (p : Nat) : At s p [] := fun j hj => absurd hj (by simp)
theorem At.left {s : ByteArray} {p : Nat} {l q : List UInt8} (h : At s p (l ++ q)) : At s p l := fun j hj => by
  rw [h j (by simp; omega), List.getElem_append_left hj]
theorem At.right {s : ByteArray} {p : Nat} {l q : List UInt8} (h : At s p (l ++ q)) : At s (p + l.length) q := fun j hj => by
  rw [show p + l.length + j = p + (l.length + j) by omega, h (l.length + j) (by simp; omega), List.getElem_append_right (by omega)]
  simp
theorem At.join {s : ByteArray} {p : Nat} {l q : List UInt8} (h : At s p l) (k : At s (p + l.length) q) : At s p (l ++ q) := fun j hj => by
  by_cases h1 : j < l.length
  · rw [List.getElem_append_left h1]; exact h j h1
  · rw [List.getElem_append_right (by omega)]
    have := k (j - l.length) (by simp at hj; omega)
    rw [← this]; congr 1; omega
theorem At.whole {s : ByteArray} {l : List UInt8} (h : At s 0 l) (hl : l.length = s.size) : s.data.toList = l := by
  have hz : s.data.toList.length = s.size := (Lib.size_eq s).symm
  apply List.ext_getElem (by omega)
  intro j h1 h2
  have := h j h2
  unfold byt at this
  rw [Nat.zero_add, Array.getD_eq_getD_getElem?, ← Array.getElem?_toList, List.getElem?_eq_getElem h1] at this
  exact UInt8.toNat_inj.1 (by simpa using this)
theorem at_self (s : ByteArray) : At s 0 s.data.toList := At.of (p := []) (q := []) (by simp)
theorem at_extract (s : ByteArray) (p q : Nat) (hq : q ≤ s.size) : At s p (s.extract p q).data.toList := fun j hj => by
  have hz : (s.extract p q).data.toList.length = (s.extract p q).size := (Lib.size_eq _).symm
  have hz2 : (s.extract p q).size = q - p := by simp; omega
  unfold byt
  have e : (s.extract p q).data.toList[j]? = s.data.toList[p + j]? := by
    rw [Lib.extract_data, List.getElem?_take_of_lt (by omega), List.getElem?_drop]
  rw [List.getElem?_eq_getElem hj] at e
  rw [Array.getD_eq_getD_getElem?, ← Array.getElem?_toList, ← e]; rfl
theorem zigzag_unz (x : Nat) : Lib.zigzag (unz x) = x := by
  unfold unz
  by_cases h : x % 2 = 1
  · rw [if_pos h]; unfold Lib.zigzag; rw [if_neg (by omega)]; omega
  · rw [if_neg h]; unfold Lib.zigzag; rw [if_pos (by omega)]; omega
theorem goN_canon (s : ByteArray) (a : Nat) : ∀ f i u, (goN s a f i u).2.2 = 0 →
    ∃ x, (0 < x ∨ i = 0) ∧ At s (a + i) (Lib.uvarint x) ∧ a + i + (Lib.uvarint x).length ≤ s.size ∧ goN s a f i u = (unz (u + x * 2 ^ (7 * i)), ((a + i + (Lib.uvarint x).length : Nat) : Int), 0)
  | 0, i, u, h => by simp [goN] at h
  | f + 1, i, u, h => by
    by_cases h1 : s.size ≤ a + i
    · rw [goN_short h1] at h; simp at h
    by_cases h2 : i = 9 ∧ 1 < byt s (a + i)
    · rw [goN_ten h1 h2.1 h2.2] at h; simp at h
    have hlt := byt_lt s (a + i)
    by_cases h3 : 128 ≤ byt s (a + i)
    · by_cases h9 : i < 9
      · rw [goN_more h1 h9 h3] at h ⊢
        obtain ⟨x, hx, hA, hz, he⟩ := goN_canon s a f (i + 1) _ h
        have hx0 : 0 < x := hx.resolve_right (by omega)
        obtain ⟨y, hy⟩ : ∃ y, y = byt s (a + i) % 128 + 128 * x := ⟨_, rfl⟩
        have y128 : 128 ≤ y := by omega
        have yd : y / 128 = x := by omega
        have ym : y % 128 + 128 = byt s (a + i) := by omega
        refine ⟨y, .inl (by omega), ?_, ?_, ?_⟩
        · rw [Lib.uvarint_big y128, yd]
          refine At.cons ?_ (by rw [Nat.add_assoc]; exact hA)
          rw [more_val, ym]
        · rw [Lib.uvarint_big y128, yd, List.length_cons]; omega
        · rw [he, Lib.uvarint_big y128, yd, List.length_cons]
          have hs := addU_step u y i
          rw [ym, yd] at hs
          rw [hs]
          congr 2
          omega
      · have hi : i = 9 ∨ 9 < i := by omega
        rcases hi with hi | hi
        · exact absurd ⟨hi, by omega⟩ h2
        · by_cases h10 : s.size ≤ a + i
          · exact absurd h10 h1
          · rw [goN, if_neg h1, if_neg h2, if_pos h3] at h ⊢
            obtain ⟨x, hx, hA, hz, he⟩ := goN_canon s a f (i + 1) _ h
            have hx0 : 0 < x := hx.resolve_right (by omega)
            obtain ⟨y, hy⟩ : ∃ y, y = byt s (a + i) % 128 + 128 * x := ⟨_, rfl⟩
            have y128 : 128 ≤ y := by omega
            have yd : y / 128 = x := by omega
            have ym : y % 128 + 128 = byt s (a + i) := by omega
            refine ⟨y, .inl (by omega), ?_, ?_, ?_⟩
            · rw [Lib.uvarint_big y128, yd]
              refine At.cons ?_ (by rw [Nat.add_assoc]; exact hA)
              rw [more_val, ym]
            · rw [Lib.uvarint_big y128, yd, List.length_cons]; omega
            · rw [he, Lib.uvarint_big y128, yd, List.length_cons]
              have hs := addU_step u y i
              rw [ym, yd] at hs
              rw [hs]
              congr 2
              omega
    · by_cases h4 : byt s (a + i) = 0 ∧ 0 < i
      · rw [goN_long h1 h4.1 h4.2] at h; simp at h
      · have hb : byt s (a + i) < 128 := by omega
        rw [goN_last h1 h2 hb h4]
        refine ⟨byt s (a + i), by omega, ?_, ?_, ?_⟩
        · rw [Lib.uvarint_small hb]
          exact At.cons (last_val _ hb).symm (At.nil _ _)
        · rw [Lib.uvarint_small hb]; simp; omega
        · rw [Lib.uvarint_small hb]
          unfold addU
          rw [Nat.mod_eq_of_lt hb]
          simp
theorem szl (x : ByteArray) : x.data.toList.length = x.size := (Lib.size_eq x).symm
theorem getR_canon {s : ByteArray} {x : Int} (h : (getR s x).2.2 = 0) : ∃ q : Nat, x = q ∧ s.size ≤ 8000 ∧ At s q (putS (getR s x).1).data.toList ∧ q + (putS (getR s x).1).size ≤ s.size ∧ (getR s x).2.1 = ((q + (putS (getR s x).1).size : Nat) : Int) := by
  unfold getR at *
  split at h
  · simp at h
  · rename_i h8
    rw [if_neg h8]
    split at h
    · simp at h
    · rename_i h0
      rw [if_neg h0]
      obtain ⟨u, -, hA, hz, he⟩ := goN_canon s x.toNat 10 0 0 h
      refine ⟨x.toNat, by omega, by omega, ?_⟩
      simp only [Nat.add_zero, Nat.mul_zero, Nat.pow_zero, Nat.mul_one, Nat.zero_add] at hA hz he
      rw [he]
      simp only
      rw [mputS_list, mputS_len, zigzag_unz]
      exact ⟨hA, hz, rfl⟩
theorem getR_read {s : ByteArray} {q : Nat} {n : Int} (h0 : -9223372036854775808 ≤ n) (h1 : n ≤ 9223372036854775807) (hs : s.size ≤ 8000) (hA : At s q (putS n).data.toList) (hz : q + (putS n).size ≤ s.size) :
    getR s (q : Int) = (n, ((q + (putS n).size : Nat) : Int), 0) := by
  rw [mgetR s q hs]
  rw [mputS_list] at hA
  rw [mputS_len] at hz
  have := goN_read s q 10 0 0 (Lib.zigzag n) (.inr rfl) (by simpa using zz_lt n h0 h1) (by omega) (by simpa using hA) (by omega)
  rw [this]
  simp [unz_zigzag n, mputS_len]
theorem txS_list (d : ByteArray) : (txS d).data.toList = (putS d.size).data.toList ++ d.data.toList := by unfold txS; simp
theorem txS_size (d : ByteArray) : (txS d).size = (putS d.size).size + d.size := by unfold txS; rw [ByteArray.size_append]
theorem textR_canon {s : ByteArray} {x : Int} (h : (textR s x).2.2 = 0) : ∃ q : Nat, x = q ∧ s.size ≤ 8000 ∧ At s q (txS (textR s x).1).data.toList ∧ q + (txS (textR s x).1).size ≤ s.size ∧ (textR s x).2.1 = ((q + (txS (textR s x).1).size : Nat) : Int) := by
  unfold textR at *
  split at h
  · rename_i h1
    obtain ⟨q, hq, h8, hA, hz, he⟩ := getR_canon h1
    rw [if_pos h1]
    split at h
    · simp at h
    · rename_i h2
      rw [if_neg h2]
      split at h
      · rename_i h3
        rw [if_pos h3]
        refine ⟨q, hq, h8, ?_⟩
        simp only
        obtain ⟨m, hm⟩ : ∃ m : Nat, (getR s x).1 = (m : Int) := ⟨(getR s x).1.toNat, by omega⟩
        rw [he, hm] at h3 ⊢
        rw [hm] at hA hz
        simp only [Int.toNat_natCast] at h3 ⊢
        have hes : (s.extract (q + (putS (m : Int)).size) (q + (putS (m : Int)).size + m)).size = m := by simp; omega
        rw [txS_list, txS_size, hes]
        refine ⟨hA.join ?_, by omega, by omega⟩
        rw [szl]
        exact at_extract s _ _ h3
      · simp at h
  · rename_i h1; exact absurd h h1
theorem textR_read {s : ByteArray} {q : Nat} {d : ByteArray} (hd : d.size ≤ 8000) (hs : s.size ≤ 8000) (hA : At s q (txS d).data.toList) (hz : q + (txS d).size ≤ s.size) :
    textR s (q : Int) = (d, ((q + (txS d).size : Nat) : Int), 0) := by
  rw [txS_list] at hA
  rw [txS_size] at hz
  have e := getR_read (n := (d.size : Int)) (by omega) (by omega) hs hA.left (by omega)
  have hr := hA.right
  rw [szl] at hr
  unfold textR
  rw [e]
  simp only [Int.toNat_natCast]
  rw [if_pos trivial, if_neg (by omega), if_pos (by omega), txS_size]
  have hes : (s.extract (q + (putS (d.size : Int)).size) (q + (putS (d.size : Int)).size + d.size)) = d := by
    apply ByteArray.ext
    apply Array.toList_inj.1
    have h2 := at_extract s (q + (putS (d.size : Int)).size) (q + (putS (d.size : Int)).size + d.size) (by omega)
    have hl : (s.extract (q + (putS (d.size : Int)).size) (q + (putS (d.size : Int)).size + d.size)).data.toList.length = d.data.toList.length := by rw [szl, szl]; simp; omega
    apply List.ext_getElem hl
    intro j h3 h4
    have a := h2 j h3
    have b := hr j h4
    rw [a] at b
    exact UInt8.toNat_inj.1 b
  rw [hes]
  congr 2
  omega

/-- The steps read one behind the other: what they are, where the next one stands, whether one was bad. -/
def stR (t : ByteArray) (x : Int) : Nat → List stpT × Int × Bool
  | 0 => ([], x, false)
  | k + 1 => ((stR t x k).1 ++ [(rdR (txtS t (stR t x k).2.1 (stR t x k).2.2).1).1], (txtS t (stR t x k).2.1 (stR t x k).2.2).2.1, (txtS t (stR t x k).2.1 (stR t x k).2.2).2.2 || decide ((rdR (txtS t (stR t x k).2.1 (stR t x k).2.2).1).2 ≠ 0))
theorem stR_len (t : ByteArray) (x : Int) : ∀ k, (stR t x k).1.length = k
  | 0 => rfl
  | k + 1 => by simp [stR, stR_len t x k]
theorem stR_bad {t : ByteArray} {x : Int} {k : Nat} (h : (stR t x k).2.2 = true) : (stR t x (k + 1)).2.2 = true := by
  simp only [stR]
  rw [h, txtS_bad]; rfl
theorem stR_good {t : ByteArray} {x : Int} : ∀ {j k : Nat}, j ≤ k → (stR t x k).2.2 = false → (stR t x j).2.2 = false
  | j, 0, hj, h => by rw [Nat.le_zero.1 hj]; exact h
  | j, k + 1, hj, h => by
    by_cases e : j = k + 1
    · rw [e]; exact h
    · refine stR_good (j := j) (k := k) (by omega) ?_
      cases hb : (stR t x k).2.2 with
      | false => rfl
      | true => rw [stR_bad hb] at h; cases h
theorem txtS_ok {s : ByteArray} {x : Int} {bad : Bool} (h : (txtS s x bad).2.2 = false) : bad = false ∧ (textR s x).2.2 = 0 ∧ txtS s x bad = ((textR s x).1, (textR s x).2.1, false) := by
  unfold txtS at *
  split at h
  · rename_i h1; rw [if_pos h1]; exact ⟨h1.1, h1.2, rfl⟩
  · cases h
theorem numS_ok {s : ByteArray} {x : Int} {bad : Bool} (h : (numS s x bad).2.2 = false) : bad = false ∧ (getR s x).2.2 = 0 ∧ numS s x bad = ((getR s x).1, (getR s x).2.1, false) := by
  unfold numS at *
  split at h
  · rename_i h1; rw [if_pos h1]; exact ⟨h1.1, h1.2, rfl⟩
  · cases h
theorem rdR_full {u : ByteArray} (h : (rdR u).2 = 0) : u = stepS (rdR u).1.1 (rdR u).1.2.1 (rdR u).1.2.2.1 (rdR u).1.2.2.2 := by
  have h1 := rdR_ok h
  have h2 : stepB 8 (rdR u).1.1 (rdR u).1.2.1 (rdR u).1.2.2.1 (rdR u).1.2.2.2 = true := by
    unfold rdR at *
    split at h
    · simp at h
    · rename_i h8
      rw [if_neg h8]
      split at h
      · rename_i hb
        rw [if_pos hb]
        unfold rdB at hb
        rw [Bool.and_eq_true] at hb
        exact hb.1
      · simp at h
  unfold stepBs at h1
  rw [if_pos h2] at h1
  exact h1.symm
theorem stR_canon {t : ByteArray} {q : Nat} (h8 : q ≤ t.size) : ∀ k, (stR t (q : Int) k).2.2 = false →
    (stR t (q : Int) k).2.1 = ((q + (cat ((stR t (q : Int) k).1.map stpTx)).size : Nat) : Int) ∧ At t q (cat ((stR t (q : Int) k).1.map stpTx)).data.toList ∧ q + (cat ((stR t (q : Int) k).1.map stpTx)).size ≤ t.size
  | 0, _ => ⟨rfl, by intro j hj; exact absurd hj (by simp [stR, cat]), h8⟩
  | k + 1, h => by
    obtain ⟨h1, h2, h3⟩ := stR_canon h8 k (stR_good (by omega) h)
    have hb : (stR t (q : Int) k).2.2 = false := stR_good (Nat.le_succ k) h
    simp only [stR] at h ⊢
    rw [hb] at h ⊢
    rw [Bool.or_eq_false_iff] at h
    obtain ⟨hx, hr⟩ := h
    have hr0 : (rdR (txtS t (stR t (q : Int) k).2.1 false).1).2 = 0 := by simpa using hr
    obtain ⟨-, hc, he⟩ := txtS_ok hx
    rw [he] at hr0 ⊢
    simp only at hr0 ⊢
    obtain ⟨q', hq', -, hA, hz, ha⟩ := textR_canon hc
    rw [h1] at hq'
    have hq2 : q' = q + (cat ((stR t (q : Int) k).1.map stpTx)).size := by omega
    have e : txS (textR t (stR t (q : Int) k).2.1).1 = stpTx (rdR (textR t (stR t (q : Int) k).2.1).1).1 := by
      unfold stpTx; rw [← rdR_full hr0]
    rw [e] at hA hz ha
    rw [List.map_append, cat_append, List.map_singleton, cat_one, ByteArray.size_append]
    refine ⟨by rw [ha, hq2, Nat.add_assoc], ?_, by omega⟩
    rw [ByteArray.data_append, Array.toList_append]
    refine h2.join ?_
    rw [szl, ← hq2]
    exact hA
theorem stR_read {t : ByteArray} {q : Nat} (ht : t.size ≤ 8000) : ∀ (l : List stpT), (∀ s ∈ l, stepB 8 s.1 s.2.1 s.2.2.1 s.2.2.2 = true) → At t q (cat (l.map stpTx)).data.toList → q + (cat (l.map stpTx)).size ≤ t.size → ∀ k, k ≤ l.length →
    stR t (q : Int) k = (l.take k, ((q + (cat ((l.take k).map stpTx)).size : Nat) : Int), false)
  | l, hl, hA, hz, 0, _ => by
    show (([] : List stpT), (q : Int), false) = ([], ((q + 0 : Nat) : Int), false)
    rw [Nat.add_zero]
  | l, hl, hA, hz, k + 1, hk => by
    have ih := stR_read ht l hl hA hz k (by omega)
    have hkl : k < l.length := by omega
    have hsv := hl l[k] (List.getElem_mem hkl)
    have e1 : l = l.take k ++ (l[k] :: l.drop (k + 1)) := by rw [← List.drop_eq_getElem_cons hkl, List.take_append_drop]
    have hA' := hA
    have hz' := hz
    rw [e1, List.map_append, List.map_cons, cat_append, cat_cons] at hA' hz'
    rw [ByteArray.size_append, ByteArray.size_append] at hz'
    rw [ByteArray.data_append, Array.toList_append, ByteArray.data_append, Array.toList_append] at hA'
    have hA2 := hA'.right.left
    rw [szl] at hA2
    have hsz := stpTx_size hsv
    have hd : (stepS l[k].1 l[k].2.1 l[k].2.2.1 l[k].2.2.2).size ≤ 8000 := by
      have : (stpTx l[k]).size = _ := txS_size (stepS l[k].1 l[k].2.1 l[k].2.2.1 l[k].2.2.2)
      omega
    have hr : textR t ((q + (cat ((l.take k).map stpTx)).size : Nat) : Int) = (stepS l[k].1 l[k].2.1 l[k].2.2.1 l[k].2.2.2, ((q + (cat ((l.take k).map stpTx)).size + (stpTx l[k]).size : Nat) : Int), 0) := textR_read hd ht hA2 (by
      show _ + (stpTx l[k]).size ≤ _
      omega)
    have hx : txtS t ((q + (cat ((l.take k).map stpTx)).size : Nat) : Int) false = (stepS l[k].1 l[k].2.1 l[k].2.2.1 l[k].2.2.2, ((q + (cat ((l.take k).map stpTx)).size + (stpTx l[k]).size : Nat) : Int), false) := by
      rw [txtS_yes (by rw [hr]), hr]
    simp only [stR]
    rw [ih]
    simp only
    rw [hx]
    simp only
    rw [rdR_back hsv]
    rw [List.take_succ_eq_append_getElem hkl, List.map_append, cat_append, List.map_singleton, cat_one, ByteArray.size_append, Nat.add_assoc]
    rfl

/-- The header: how many blocks, the digest, how many steps. -/
def k1 (t : ByteArray) : Int × Int × Bool := numS t 0 false
def k2 (t : ByteArray) : ByteArray × Int × Bool := txtS t (k1 t).2.1 (k1 t).2.2
def k3 (t : ByteArray) : Int × Int × Bool := numS t (k2 t).2.1 (k2 t).2.2
def kS (t : ByteArray) (k : Nat) : List stpT × Int × Bool := stR t (k3 t).2.1 k
def pkGood (t : ByteArray) : Prop := (k3 t).2.2 = false ∧ (0 ≤ (k3 t).1 ∧ (k3 t).1 ≤ 20) ∧ (kS t (k3 t).1.toNat).2.2 = false ∧ (kS t (k3 t).1.toNat).2.1 = (t.size : Int) ∧ pkOk ((k1 t).1, (k2 t).1, (kS t (k3 t).1.toNat).1)
def pkRd (t : ByteArray) (k : Nat) : pkT := ((k1 t).1, (k2 t).1, (kS t k).1)
open Classical in
noncomputable def pkR (s : ByteArray) : pkT × Int := if (unsealT s).2 = 0 then (if pkGood (unsealT s).1 then (pkRd (unsealT s).1 (k3 (unsealT s).1).1.toNat, 0) else (noPk, 3)) else (noPk, (unsealT s).2)
/-- What a good text is. -/
theorem pkGood_enc {t : ByteArray} (h : pkGood t) : t = pkE (pkRd t (k3 t).1.toNat) := by
  obtain ⟨h3, ⟨n0, n1⟩, hb, ha, hok⟩ := h
  obtain ⟨hb2, c3, e3⟩ := numS_ok (show (numS t (k2 t).2.1 (k2 t).2.2).2.2 = false from h3)
  obtain ⟨hb1, c2, e2⟩ := txtS_ok (show (txtS t (k1 t).2.1 (k1 t).2.2).2.2 = false from hb2)
  obtain ⟨-, c1, e1⟩ := numS_ok (show (numS t 0 false).2.2 = false from hb1)
  obtain ⟨q1, hq1, h8, A1, z1, a1⟩ := getR_canon c1
  obtain rfl : q1 = 0 := by omega
  have f1 : k1 t = ((getR t 0).1, (getR t 0).2.1, false) := e1
  have g1 : (k1 t).1 = (getR t 0).1 := by rw [f1]
  have g1a : (k1 t).2.1 = (((putS (k1 t).1).size : Nat) : Int) := by rw [g1, f1, ← Nat.zero_add (putS (getR t 0).1).size]; exact a1
  rw [← g1] at A1 z1
  obtain ⟨q2, hq2, -, A2, z2, a2⟩ := textR_canon c2
  have f2 : k2 t = ((textR t (k1 t).2.1).1, (textR t (k1 t).2.1).2.1, false) := e2
  have g2 : (k2 t).1 = (textR t (k1 t).2.1).1 := by rw [f2]
  rw [← g2] at A2 z2 a2
  obtain rfl : q2 = (putS (k1 t).1).size := by omega
  have g2a : (k2 t).2.1 = (((putS (k1 t).1).size + (txS (k2 t).1).size : Nat) : Int) := by rw [← a2, f2]
  obtain ⟨q3, hq3, -, A3, z3, a3⟩ := getR_canon c3
  have f3 : k3 t = ((getR t (k2 t).2.1).1, (getR t (k2 t).2.1).2.1, false) := e3
  have g3 : (k3 t).1 = (getR t (k2 t).2.1).1 := by rw [f3]
  rw [← g3] at A3 z3 a3
  obtain rfl : q3 = (putS (k1 t).1).size + (txS (k2 t).1).size := by omega
  have g3a : (k3 t).2.1 = (((putS (k1 t).1).size + (txS (k2 t).1).size + (putS (k3 t).1).size : Nat) : Int) := by rw [← a3, f3]
  obtain ⟨b1, b2, b3⟩ := stR_canon (t := t) (q := (putS (k1 t).1).size + (txS (k2 t).1).size + (putS (k3 t).1).size) z3 (k3 t).1.toNat (by rw [← g3a]; exact hb)
  rw [← g3a] at b1 b2 b3
  have hlen : ((stR t (k3 t).2.1 (k3 t).1.toNat).1.length : Int) = (k3 t).1 := by rw [stR_len]; omega
  have hall : At t 0 (pkE (pkRd t (k3 t).1.toNat)).data.toList := by
    unfold pkE pkRd kS pkParts
    simp only
    rw [hlen, cat_cons, cat_cons, cat_cons]
    simp only [ByteArray.data_append, Array.toList_append]
    refine A1.join ?_
    rw [szl, Nat.zero_add]
    refine A2.join ?_
    rw [szl]
    refine A3.join ?_
    rw [szl]
    exact b2
  have hsz : (pkE (pkRd t (k3 t).1.toNat)).size = t.size := by
    have h9 : (stR t (k3 t).2.1 (k3 t).1.toNat).2.1 = (t.size : Int) := ha
    rw [b1] at h9
    unfold pkE pkRd kS pkParts
    simp only
    rw [hlen, cat_cons, cat_cons, cat_cons, ByteArray.size_append, ByteArray.size_append, ByteArray.size_append]
    omega
  exact ByteArray.ext (Array.toList_inj.1 (hall.whole (by rw [szl]; exact hsz)))
/-- The encoding of a valid package is good, and reads as it. -/
theorem pkE_good {p : pkT} (h : pkOk p) {t : ByteArray} (ht : t = pkE p) : pkGood t ∧ (k3 t).1 = (p.2.2.length : Int) ∧ pkRd t p.2.2.length = p := by
  have hz := pkE_size h
  have hn := h.num
  have hd := h.2
  have hl := h.len
  have hA := at_self t
  have h8 : t.size ≤ 8000 := by rw [ht]; omega
  have ez : (pkE p).size = (putS p.1).size + ((txS p.2.1).size + ((putS p.2.2.length).size + (cat (p.2.2.map stpTx)).size)) := by
    unfold pkE pkParts
    rw [cat_cons, cat_cons, cat_cons, ByteArray.size_append, ByteArray.size_append, ByteArray.size_append]
  have ez2 : t.size = (putS p.1).size + ((txS p.2.1).size + ((putS p.2.2.length).size + (cat (p.2.2.map stpTx)).size)) := by rw [ht]; exact ez
  have el : t.data.toList = (putS p.1).data.toList ++ ((txS p.2.1).data.toList ++ ((putS p.2.2.length).data.toList ++ (cat (p.2.2.map stpTx)).data.toList)) := by
    rw [ht]
    unfold pkE pkParts
    rw [cat_cons, cat_cons, cat_cons]
    simp only [ByteArray.data_append, Array.toList_append]
  rw [el] at hA
  have A1 := hA.left
  have r1 := hA.right
  rw [szl, Nat.zero_add] at r1
  have A2 := r1.left
  have r2 := r1.right
  rw [szl] at r2
  have A3 := r2.left
  have A4 := r2.right
  rw [szl] at A4
  have e1 : getR t 0 = (p.1, (((putS p.1).size : Nat) : Int), 0) := by
    have := getR_read (q := 0) (by omega) (by omega) h8 A1 (by omega)
    simpa using this
  have f1 : k1 t = (p.1, (((putS p.1).size : Nat) : Int), false) := by unfold k1; rw [numS_yes (by rw [e1]), e1]
  have e2 := textR_read (q := (putS p.1).size) (by omega) h8 A2 (by omega)
  have f2 : k2 t = (p.2.1, (((putS p.1).size + (txS p.2.1).size : Nat) : Int), false) := by unfold k2; rw [f1]; simp only; rw [txtS_yes (by rw [e2]), e2]
  have e3 := getR_read (q := (putS p.1).size + (txS p.2.1).size) (n := (p.2.2.length : Int)) (by omega) (by omega) h8 A3 (by omega)
  have f3 : k3 t = ((p.2.2.length : Int), (((putS p.1).size + (txS p.2.1).size + (putS p.2.2.length).size : Nat) : Int), false) := by unfold k3; rw [f2]; simp only; rw [numS_yes (by rw [e3]), e3]
  have fS : kS t p.2.2.length = (p.2.2, (t.size : Int), false) := by
    unfold kS
    rw [f3]
    simp only
    rw [stR_read h8 p.2.2 h.steps A4 (by omega) p.2.2.length (Nat.le_refl _), List.take_length]
    congr 2
    omega
  have hr : pkRd t p.2.2.length = p := by unfold pkRd; rw [f1, f2, fS]
  refine ⟨⟨by rw [f3], by rw [f3]; exact ⟨by simp only; omega, by simp only; omega⟩, ?_, ?_, ?_⟩, by rw [f3], hr⟩
  · rw [f3]; simp only [Int.toNat_natCast]; rw [fS]
  · rw [f3]; simp only [Int.toNat_natCast]; rw [fS]
  · rw [f3]; simp only [Int.toNat_natCast]; rw [fS, f1, f2]; exact h
theorem unsealT_sealS {t : ByteArray} (h : t.size ≤ 7996) : unsealT (sealS t) = (t, 0) := by
  have hz : (sealS t).size = t.size + 4 := by unfold sealS; rw [ByteArray.size_append, fourS_size]
  unfold unsealT
  rw [if_neg (by omega), if_neg (by omega), hz, Nat.add_sub_cancel]
  have e1 : (sealS t).extract 0 t.size = t := mhead _ _
  have e2 : (sealS t).extract t.size (t.size + 4) = fourS (crcF 0 t) := by
    unfold sealS
    apply ByteArray.ext
    apply Array.toList_inj.1
    rw [Lib.extract_data]
    simp only [ByteArray.data_append, Array.toList_append]
    rw [List.drop_left' (szl t), List.take_of_length_le (by rw [szl, fourS_size]; omega)]
  rw [e1, e2, if_pos (by simp)]
theorem unsealT_back {s : ByteArray} (h : (unsealT s).2 = 0) : s = sealS (unsealT s).1 := by
  have hk := unsealT_ok h
  obtain ⟨h8, h4, he⟩ := hk
  unfold unsealT at h
  rw [if_neg (by omega), if_neg (by omega)] at h
  split at h
  · rename_i hc
    have e := toList_inj hc
    rw [he]
    unfold sealS
    rw [e]
    apply ByteArray.ext
    apply Array.toList_inj.1
    rw [ByteArray.data_append, Array.toList_append, Lib.extract_data, Lib.extract_data]
    have hl := szl s
    rw [List.drop_zero, Nat.sub_zero, List.take_of_length_le (l := List.drop (s.size - 4) s.data.toList) (by rw [List.length_drop, hl]; omega), List.take_append_drop]
  · cases h
theorem pkBytes_yes {p : pkT} (h : pkOk p) : pkBytes p = sealS (pkE p) := if_pos ((pkB_iff p).2 h)
theorem pkBytes_no {p : pkT} (h : ¬ pkOk p) : pkBytes p = ⟨#[]⟩ := if_neg (by rw [(pkB_no p).2 h]; simp)
/-- A package comes back from its bytes. -/
theorem pkR_back {p : pkT} (h : pkOk p) : pkR (pkBytes p) = (p, 0) := by
  have hz := pkE_size h
  rw [pkBytes_yes h]
  unfold pkR
  rw [unsealT_sealS (by omega)]
  obtain ⟨hg, hn, hr⟩ := pkE_good h rfl
  rw [if_pos rfl, if_pos hg, hn, Int.toNat_natCast, hr]
theorem pkR_ok {s : ByteArray} (h : (pkR s).2 = 0) : pkOk (pkR s).1 ∧ pkBytes (pkR s).1 = s := by
  unfold pkR at *
  split at h
  · rename_i h0
    rw [if_pos h0]
    split at h
    · rename_i hg
      rw [if_pos hg]
      have hok : pkOk (pkRd (unsealT s).1 (k3 (unsealT s).1).1.toNat) := hg.2.2.2.2
      refine ⟨hok, ?_⟩
      simp only
      rw [pkBytes_yes hok, ← pkGood_enc hg]
      exact (unsealT_back h0).symm
    · simp at h
  · rename_i h0; exact absurd h h0
/-- How the model decides: it reads, and then it compares. -/
theorem pkR_cmp {s : ByteArray} (h0 : (unsealT s).2 = 0) (k : Nat) (bad : Bool) (hbad : bad = ((k3 (unsealT s).1).2.2 || (kS (unsealT s).1 k).2.2)) (hk : (k : Int) ≤ (k3 (unsealT s).1).1 ∨ k = 0) (hk20 : k ≤ 20) (hend : bad = true ∨ ¬ ((k : Int) < (k3 (unsealT s).1).1 ∧ (k : Int) < 20)) :
    pkR s = if bad = false ∧ ((pkBytes (pkRd (unsealT s).1 k)).toList == s.toList) = true then (pkRd (unsealT s).1 k, 0) else (noPk, 3) := by
  obtain ⟨hs8, hs4, -⟩ := unsealT_ok h0
  unfold pkR
  rw [if_pos h0]
  by_cases hc : bad = false ∧ ((pkBytes (pkRd (unsealT s).1 k)).toList == s.toList) = true
  · rw [if_pos hc]
    have he := toList_inj hc.2
    have hok : pkOk (pkRd (unsealT s).1 k) := Classical.byContradiction fun hno => by
      rw [pkBytes_no hno] at he
      rw [← he] at hs4
      exact absurd hs4 (by decide)
    have hz := pkE_size hok
    have ht : (unsealT s).1 = pkE (pkRd (unsealT s).1 k) := by
      rw [pkBytes_yes hok] at he
      have := unsealT_sealS (t := pkE (pkRd (unsealT s).1 k)) (by omega)
      rw [he] at this
      exact congrArg Prod.fst this
    obtain ⟨hg, hn, hr⟩ := pkE_good hok ht
    rw [if_pos hg, hn, Int.toNat_natCast, hr]
  · rw [if_neg hc]
    refine if_neg fun hg => hc ?_
    obtain ⟨h3, ⟨n0, n1⟩, hb, ha, hok⟩ := id hg
    have hkn : k ≤ (k3 (unsealT s).1).1.toNat := by omega
    have hbk : (kS (unsealT s).1 k).2.2 = false := stR_good hkn hb
    have hbad0 : bad = false := by rw [hbad, h3, hbk]; rfl
    have hk2 : k = (k3 (unsealT s).1).1.toNat := by
      have := hend.resolve_left (by rw [hbad0]; simp)
      omega
    refine ⟨hbad0, ?_⟩
    have hok2 : pkOk (pkRd (unsealT s).1 k) := by rw [hk2]; exact hok
    have e : pkBytes (pkRd (unsealT s).1 k) = s := by
      rw [pkBytes_yes hok2, hk2, ← pkGood_enc hg]
      exact (unsealT_back h0).symm
    rw [e]; simp
end Go.Proofs.YthkbllkhomjmbaaDoor
