/- What FnArea wants of lists: plain mathematics. -/
import Derived.Test.YtmhmjofmafeidaaAResM
namespace Go.Proofs.Ytmhmjofmafeidaa
open Go.RowKit

/-- The numbers below n that are in l. -/
def memT (l : List Int) : Nat → List Int
  | 0 => []
  | n + 1 => if hasL l n then memT l n ++ [(n : Int)] else memT l n
theorem filt_none (l : List Int) (b n : Int) (h : okF b l = true) (hn : n ≤ b + 1) : l.filter (fun x => decide (x < n)) = [] := by
  rw [List.filter_eq_nil_iff]
  intro x hx
  have := (okF_mem l b h x hx).1
  simp; omega
theorem has_none (l : List Int) (b n : Int) (h : okF b l = true) (hn : n ≤ b) : hasL l n = false := by
  cases hh : hasL l n with
  | false => rfl
  | true =>
    have := (okF_mem l b h n ((hasL_iff l n).1 hh)).1
    omega
theorem filt_step : ∀ (l : List Int) (b : Int) (n : Nat), okF b l = true → l.filter (fun x => decide (x < ((n + 1 : Nat) : Int))) = l.filter (fun x => decide (x < (n : Int))) ++ (if hasL l n then [(n : Int)] else [])
  | [], _, _, _ => by simp [hasL]
  | x :: l, b, n, h => by
    have h' := h
    simp only [okF, Bool.and_eq_true, decide_eq_true_eq] at h
    obtain ⟨⟨h1, h2⟩, h3⟩ := h
    by_cases c1 : x < (n : Int)
    · have hx : x < ((n + 1 : Nat) : Int) := by omega
      have hne : (x == (n : Int)) = false := by simp; omega
      have hh : hasL (x :: l) (n : Int) = hasL l (n : Int) := by simp only [hasL, List.any_cons, hne, Bool.false_or]
      rw [List.filter_cons_of_pos (by simpa using hx), List.filter_cons_of_pos (by simpa using c1), hh, filt_step l x n h3]
      rfl
    · by_cases c2 : x = (n : Int)
      · have hh : hasL (x :: l) (n : Int) = true := by simp [hasL, c2]
        rw [List.filter_cons_of_pos (by simp; omega), List.filter_cons_of_neg (by simp; omega), hh, filt_none l x _ h3 (by omega), filt_none l x _ h3 (by omega)]
        simp [c2]
      · have hh : hasL (x :: l) (n : Int) = false := by
          have := has_none l x n h3 (by omega)
          simp only [hasL, List.any_cons] at this ⊢
          rw [this]; simp [c2]
        rw [hh, List.filter_cons_of_neg (by simp; omega), List.filter_cons_of_neg (by simp; omega), filt_none l x _ h3 (by omega), filt_none l x _ h3 (by omega)]
        rfl
theorem memT_filt (l : List Int) (h : okL l = true) : ∀ n : Nat, memT l n = l.filter (fun x => decide (x < (n : Int)))
  | 0 => by rw [filt_none l (-1) _ h (by omega)]; rfl
  | n + 1 => by
    rw [filt_step l (-1) n h, ← memT_filt l h n, memT]
    split <;> simp
theorem memT_all (l : List Int) (h : okL l = true) : memT l 24 = l := by
  rw [memT_filt l h 24, List.filter_eq_self]
  intro x hx
  have := okL_mem l h x hx
  simp; omega
theorem bits_mem (l : List Int) (h : okL l = true) : ∀ n, bitsL ((maskT l l.length : Nat) : Int) n = memT l n
  | 0 => rfl
  | n + 1 => by
    have ht := maskT_top l h l.length (Nat.le_refl _)
    have hb : bitI ((maskT l l.length : Nat) : Int) n = hasL l n := by rw [bitI_nat _ n (Nat.lt_trans ht (by decide)), mask_has l h n]
    cases hh : hasL l n with
    | true => rw [bitsL_yes _ n (by rw [hb, hh]), bits_mem l h n, memT, hh]; rfl
    | false => rw [bitsL_no _ n (by rw [hb, hh]), bits_mem l h n, memT, hh]; rfl
theorem from_mask (l : List Int) (h : okL l = true) : fromB (maskL l) = l := by
  have ht := maskT_top l h l.length (Nat.le_refl _)
  have : maskL l = ((maskT l l.length : Nat) : Int) := by unfold maskL; rw [if_pos h]
  rw [this]
  unfold fromB
  rw [if_pos (by omega), bits_mem l h, memT_all l h]
/-- How often a number is covered by the runs. -/
theorem okF_split : ∀ (p : List Int) (b x : Int) (q : List Int), okF b (p ++ x :: q) = true → ∀ y ∈ p, y < x
  | [], _, _, _, _, y, hy => by simp at hy
  | z :: p, b, x, q, h, y, hy => by
    simp only [List.cons_append, okF, Bool.and_eq_true, decide_eq_true_eq] at h
    rcases List.mem_cons.1 hy with rfl | hy
    · exact (okF_mem _ _ h.2 x (by simp)).1
    · exact okF_split p z x q h.2 y hy
theorem before_lt (l : List Int) (h : okL l = true) (k : Nat) (hk : k < l.length) (y : Int) (hy : y ∈ l.take k) : y < l[k] :=
  okF_split (l.take k) (-1) l[k] (l.drop (k + 1)) (by rw [List.getElem_cons_drop, List.take_append_drop]; exact h) y hy
theorem cnt_snoc (p : List extT) (e : extT) (j : Nat) : cnt (p ++ [e]) j = cnt p j + (if cov e j then 1 else 0) := by
  simp [cnt, List.countP_append, List.countP_cons]
theorem hasL_take' (l : List Int) (n : Int) (k : Nat) (h : k < l.length) : hasL (l.take (k + 1)) n = (hasL (l.take k) n || l[k] == n) := by
  unfold hasL
  rw [List.take_succ_eq_append_getElem h, List.any_append]
  simp
theorem cnt_rT (l : List Int) (ho : okL l = true) : ∀ k, k ≤ l.length → ∀ j : Nat, cnt (rT l k) j = if hasL (l.take k) (j : Int) then 1 else 0
  | 0, _, j => by simp [rT, cnt, hasL]
  | k + 1, hk, j => by
    have ih := cnt_rT l ho k (by omega) j
    obtain ⟨i1, i2⟩ := rT_ends l ho k (by omega)
    have hat := atL_eq l k (by omega)
    have hnew : l[k] = (j : Int) → hasL (l.take k) (j : Int) = false := fun e => by
      cases hh : hasL (l.take k) (j : Int) with
      | false => rfl
      | true => have := before_lt l ho k (by omega) (j : Int) ((hasL_iff _ _).1 hh); omega
    have goal : cnt (rT l (k + 1)) j = cnt (rT l k) j + (if l[k] = (j : Int) then 1 else 0) := by
      cases h : contB l k with
      | true =>
        obtain ⟨c1, c2⟩ := (contB_iff l k).1 h
        obtain ⟨p, e, hp⟩ := rT_last l k c1
        have he := i2 p e hp
        have hg := (goodE_iff e).1 (i1 e (by rw [hp]; simp))
        rw [rT_yes l k h, hp, bump_snoc, cnt_snoc, cnt_snoc, Nat.add_assoc]
        congr 1
        have c3 : (cov (e.1, e.2 + 1) j = true) ↔ (cov e j = true ∨ l[k] = (j : Int)) := by
          rw [cov_iff, cov_iff]; simp only; omega
        have c4 : ¬ (cov e j = true ∧ l[k] = (j : Int)) := by rw [cov_iff]; omega
        by_cases a1 : cov e j = true
        · have a2 : ¬ l[k] = (j : Int) := fun h => c4 ⟨a1, h⟩
          rw [if_pos (c3.2 (.inl a1)), if_pos a1, if_neg a2]
        · by_cases a2 : l[k] = (j : Int)
          · rw [if_pos (c3.2 (.inr a2)), if_neg a1, if_pos a2]
          · rw [if_neg (fun h => (c3.1 h).elim a1 a2), if_neg a1, if_neg a2]
      | false =>
        rw [rT_no l k h, cnt_snoc]
        congr 1
        have c3 : (cov (atL l k, 1) j = true) ↔ l[k] = (j : Int) := by rw [cov_iff]; simp only; omega
        by_cases a2 : l[k] = (j : Int)
        · rw [if_pos (c3.2 a2), if_pos a2]
        · rw [if_neg (fun h => a2 (c3.1 h)), if_neg a2]
    rw [goal, ih, hasL_take' l j k (by omega)]
    by_cases a2 : l[k] = (j : Int)
    · rw [hnew a2, a2]; simp
    · rw [if_neg a2, beq_eq_false_iff_ne.2 a2, Bool.or_false]; rfl
theorem once_runs (l : List Int) (ho : okL l = true) : ∀ n, onceT (runsL l) n = memT l n
  | 0 => rfl
  | n + 1 => by
    have hc := cnt_rT l ho l.length (Nat.le_refl _) n
    rw [List.take_length] at hc
    cases hh : hasL l n with
    | true => rw [onceT_yes _ n (by unfold runsL; rw [hc, hh]; rfl), once_runs l ho n, memT, hh]; rfl
    | false => rw [onceT_no _ n (by unfold runsL; rw [hc, hh]; decide), once_runs l ho n, memT, hh]; rfl
theorem list_runs (l : List Int) (ho : okL l = true) : listO (runsL l) = (l, 0) := by
  have hl := runsL_len l
  have hk := okL_len l ho
  rw [listO_list _ (by omega) (fun j hj => runsL_good l ho _ (List.getElem_mem hj)) ((twice_not _).2 fun k _ => by
    have hc := cnt_rT l ho l.length (Nat.le_refl _) k
    rw [List.take_length] at hc
    unfold runsL; rw [hc]; split <;> omega), once_runs l ho, memT_all l ho]
/-- No two runs overlap or are adjacent. -/
def sepE (rs : List extT) : Prop := ∀ i x y, rs[i]? = some x → rs[i + 1]? = some y → x.1 + x.2 < y.1
theorem rT_sep (l : List Int) (ho : okL l = true) : ∀ k, k ≤ l.length → sepE (rT l k)
  | 0, _ => fun i x y h => by simp [rT] at h
  | k + 1, hk => by
    have ih := rT_sep l ho k (by omega)
    obtain ⟨i1, i2⟩ := rT_ends l ho k (by omega)
    cases h : contB l k with
    | true =>
      obtain ⟨c1, c2⟩ := (contB_iff l k).1 h
      obtain ⟨p, e, hp⟩ := rT_last l k c1
      rw [rT_yes l k h, hp, bump_snoc]
      rw [hp] at ih
      intro i x y hx hy
      by_cases hi : i + 1 < p.length
      · exact ih i x y (by rw [List.getElem?_append_left (by omega)] at hx ⊢; exact hx) (by rw [List.getElem?_append_left hi] at hy ⊢; exact hy)
      · by_cases hi2 : i + 1 = p.length
        · rw [List.getElem?_append_right (by omega), show i + 1 - p.length = 0 by omega] at hy
          simp at hy
          subst hy
          have := ih i x e (by rw [List.getElem?_append_left (by omega)] at hx ⊢; exact hx) (by rw [List.getElem?_append_right (by omega), show i + 1 - p.length = 0 by omega]; rfl)
          exact this
        · have := (List.getElem?_eq_some_iff.1 hy).1
          simp at this; omega
    | false =>
      rw [rT_no l k h]
      intro i x y hx hy
      by_cases hi : i + 1 < (rT l k).length
      · exact ih i x y (by rw [List.getElem?_append_left (by omega)] at hx; exact hx) (by rw [List.getElem?_append_left hi] at hy; exact hy)
      · by_cases hi2 : i + 1 = (rT l k).length
        · have hk0 : 0 < k := by have := rT_len l k; omega
          obtain ⟨p, e, hp⟩ := rT_last l k hk0
          have he := i2 p e hp
          rw [List.getElem?_append_right (by omega), show i + 1 - (rT l k).length = 0 by omega] at hy
          simp at hy
          subst hy
          have hpl : p.length = i := by rw [hp] at hi2; simp at hi2; omega
          rw [List.getElem?_append_left (by omega), hp, List.getElem?_append_right (by omega), show i - p.length = 0 by omega] at hx
          simp at hx
          subst hx
          have h1 := atL_eq l k (by omega)
          have h2 := atL_eq l (k - 1) (by omega)
          have h3 := okL_prev l ho k (by omega)
          have h4 : prev l k = l[k - 1] := by
            have := prev_succ l (k - 1) (by omega)
            rwa [show k - 1 + 1 = k by omega] at this
          have h5 : ¬ atL l (k - 1) + 1 = atL l k := fun h6 => by
            have := (contB_iff l k).2 ⟨hk0, h6⟩
            rw [this] at h; cases h
          simp only; omega
        · have := (List.getElem?_eq_some_iff.1 hy).1
          simp at this; omega
theorem runs_sep (l : List Int) (ho : okL l = true) (i : Nat) (h : i + 1 < (runsL l).length) : (runsL l)[i].1 + (runsL l)[i].2 < (runsL l)[i + 1].1 :=
  rT_sep l ho l.length (Nat.le_refl _) i _ _ (List.getElem?_eq_getElem (by unfold runsL at h; omega)) (List.getElem?_eq_getElem h)
/-- What is free is what is in neither. -/
theorem has_append (l : List Int) (x n : Int) : hasL (l ++ [x]) n = (hasL l n || x == n) := by simp [hasL]
theorem has_free (a b : List Int) : ∀ n, ∀ k : Nat, hasL (freeT a b n) (k : Int) = (decide (k < n) && !(hasL a k || hasL b k))
  | 0, k => by simp [freeT, hasL]
  | n + 1, k => by
    have ih := has_free a b n k
    by_cases h1 : hasL a n = true
    · rw [freeT_no1 a b n h1, ih]
      by_cases e : k = n
      · subst e; simp [h1]
      · rw [show decide (k < n + 1) = decide (k < n) by simp; omega]
    · by_cases h2 : hasL b n = true
      · rw [freeT_no2 a b n h2, ih]
        by_cases e : k = n
        · subst e; simp [h2]
        · rw [show decide (k < n + 1) = decide (k < n) by simp; omega]
      · rw [freeT_yes a b n (by simpa using h1) (by simpa using h2), has_append, ih]
        by_cases e : k = n
        · subst e
          rw [show hasL a (k : Int) = false by simpa using h1, show hasL b (k : Int) = false by simpa using h2]
          simp
        · rw [show decide (k < n + 1) = decide (k < n) by simp; omega, show ((n : Int) == (k : Int)) = false by simp; omega, Bool.or_false]
/-- The mask of the bits. -/
theorem bits_ok (b : Int) : ∀ n, n ≤ 24 → okF (-1) (bitsL b n) = true ∧ ∀ y ∈ bitsL b n, y < (n : Int)
  | 0, _ => ⟨rfl, by simp [bitsL]⟩
  | n + 1, hn => by
    obtain ⟨i1, i2⟩ := bits_ok b n (by omega)
    have old : ∀ y ∈ bitsL b n, y < ((n + 1 : Nat) : Int) := fun y hy => by have := i2 y hy; omega
    cases h : bitI b n with
    | false => rw [bitsL_no b n h]; exact ⟨i1, old⟩
    | true =>
      rw [bitsL_yes b n h]
      refine ⟨okF_append _ _ _ i1 (fun _ => by omega) i2 (by omega), fun y hy => ?_⟩
      rcases List.mem_append.1 hy with h | h
      · exact old y h
      · simp at h; subst h; omega
theorem has_bits (b : Int) : ∀ n, ∀ k : Nat, hasL (bitsL b n) (k : Int) = (decide (k < n) && bitI b k)
  | 0, k => by simp [bitsL, hasL]
  | n + 1, k => by
    have ih := has_bits b n k
    cases h : bitI b n with
    | false =>
      rw [bitsL_no b n h, ih]
      by_cases e : k = n
      · subst e; simp [h]
      · rw [show decide (k < n + 1) = decide (k < n) by simp; omega]
    | true =>
      rw [bitsL_yes b n h, has_append, ih]
      by_cases e : k = n
      · subst e; simp [h]
      · rw [show decide (k < n + 1) = decide (k < n) by simp; omega, show ((n : Int) == (k : Int)) = false by simp; omega, Bool.or_false]
theorem mask_from (n : Int) (h0 : 0 ≤ n) (h1 : n < 16777216) : maskL (fromB n) = n := by
  obtain ⟨N, rfl⟩ := Int.eq_ofNat_of_zero_le h0
  have hN : N < 16777216 := by omega
  have hf : fromB (N : Int) = bitsL (N : Int) 24 := by unfold fromB; rw [if_pos ⟨by omega, by omega⟩]
  have hok : okL (bitsL (N : Int) 24) = true := (bits_ok _ 24 (Nat.le_refl _)).1
  rw [hf]
  unfold maskL
  rw [if_pos hok]
  refine congrArg (fun (k : Nat) => (k : Int)) (Nat.eq_of_testBit_eq fun j => ?_)
  rw [mask_has _ hok j, has_bits]
  by_cases hj : j < 24
  · rw [bitI_nat N j (Nat.lt_trans hN (by decide))]; simp [hj]
  · simp only [hj, decide_false, Bool.false_and]
    refine (Nat.testBit_lt_two_pow (Nat.lt_of_lt_of_le hN ?_)).symm
    exact Nat.le_trans (by decide : 16777216 ≤ 2 ^ 24) (Nat.pow_le_pow_right (by decide) (by omega))
end Go.Proofs.Ytmhmjofmafeidaa
