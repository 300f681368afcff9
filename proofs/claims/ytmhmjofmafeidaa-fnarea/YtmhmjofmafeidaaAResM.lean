/- Reservations: plain mathematics. -/
import Derived.Test.YtmhmjofmafeidaaARunM
namespace Go.Proofs.Ytmhmjofmafeidaa
open Go.RowKit

/-- n numbers from f on. -/
def spanL (f : Int) (n : Nat) : List Int := (List.range n).map fun (j : Nat) => f + (j : Int)
theorem spanL_len (f : Int) (n : Nat) : (spanL f n).length = n := by simp [spanL]
theorem spanL_take (f : Int) (n m : Nat) (h : n ≤ m) : (spanL f m).take n = spanL f n := by
  unfold spanL
  rw [← List.map_take, List.take_range, Nat.min_eq_left h]
theorem spanL_succ (f : Int) (n : Nat) : spanL f (n + 1) = spanL f n ++ [f + (n : Int)] := by simp [spanL, List.range_succ]
/-- The first run of at least n. -/
def firstR (rs : List extT) (n : Int) : Option extT := rs.find? fun e => decide (n ≤ e.2)
theorem firstR_none (rs : List extT) (n : Int) (h : ∀ e ∈ rs, e.2 < n) : firstR rs n = none := by
  unfold firstR
  rw [List.find?_eq_none]
  intro e he
  have := h e he
  simp; omega
theorem firstR_at (p q : List extT) (e : extT) (n : Int) (h : ∀ x ∈ p, x.2 < n) (he : n ≤ e.2) : firstR (p ++ e :: q) n = some e := by
  unfold firstR
  rw [List.find?_append, show List.find? (fun e => decide (n ≤ e.2)) p = none from firstR_none p n h]
  simp [he]
def selL (free : List Int) (n : Nat) : List Int := match firstR (runsL free) n with
  | some e => spanL e.1 n
  | none => free.take n
theorem selL_some (free : List Int) (n : Nat) (e : extT) (h : firstR (runsL free) n = some e) : selL free n = spanL e.1 n := by unfold selL; rw [h]
theorem selL_none (free : List Int) (n : Nat) (h : firstR (runsL free) n = none) : selL free n = free.take n := by unfold selL; rw [h]
theorem selL_len (free : List Int) (n : Nat) (h : n ≤ free.length) : (selL free n).length = n := by
  unfold selL
  split
  · exact spanL_len _ _
  · rw [List.length_take]; omega
/-- The answer of Reserve. -/
def resO (a b : List Int) (n : Int) : List Int × Int :=
  if 400 < a.length ∨ 400 < b.length then ([], 2)
  else if okL a = true ∧ okL b = true ∧ 0 ≤ n then (if n ≤ ((freeT a b 24).length : Int) then (selL (freeT a b 24) n.toNat, 0) else ([], 11))
  else ([], 1)
theorem resO_big (a b : List Int) (n : Int) (h : 400 < a.length ∨ 400 < b.length) : resO a b n = ([], 2) := by unfold resO; rw [if_pos h]
theorem resO_bad (a b : List Int) (n : Int) (h : ¬ (400 < a.length ∨ 400 < b.length)) (h2 : ¬ (okL a = true ∧ okL b = true ∧ 0 ≤ n)) : resO a b n = ([], 1) := by unfold resO; rw [if_neg h, if_neg h2]
theorem resO_few (a b : List Int) (n : Int) (h : ¬ (400 < a.length ∨ 400 < b.length)) (h2 : okL a = true ∧ okL b = true ∧ 0 ≤ n) (h3 : ((freeT a b 24).length : Int) < n) : resO a b n = ([], 11) := by
  unfold resO; rw [if_neg h, if_pos h2, if_neg (by omega)]
theorem resO_ok (a b : List Int) (n : Nat) (h : ¬ (400 < a.length ∨ 400 < b.length)) (h2 : okL a = true ∧ okL b = true) (h3 : n ≤ (freeT a b 24).length) : resO a b (n : Int) = (selL (freeT a b 24) n, 0) := by
  unfold resO; rw [if_neg h, if_pos ⟨h2.1, h2.2, by omega⟩, if_pos (by omega)]; rfl
theorem resO_len (a b : List Int) (n : Int) : (resO a b n).1.length ≤ 24 := by
  unfold resO
  split
  · simp
  · split
    · split
      · rename_i h1 h2 h3
        show (selL _ _).length ≤ 24
        have := freeT_len a b 24
        rw [selL_len _ _ (by omega)]; omega
      · simp
    · simp
/-- What is free is a right list. -/
theorem okF_append : ∀ (l : List Int) (b x : Int), okF b l = true → (l = [] → b < x) → (∀ y ∈ l, y < x) → x < 24 → okF b (l ++ [x]) = true
  | [], b, x, _, h1, _, h3 => by
    have := h1 rfl
    simp [okF, this, h3]
  | y :: l, b, x, h, _, h2, h3 => by
    simp only [okF, Bool.and_eq_true, decide_eq_true_eq, List.cons_append] at h ⊢
    refine ⟨h.1, okF_append l y x h.2 (fun _ => h2 y (by simp)) (fun z hz => h2 z (by simp [hz])) h3⟩
theorem free_ok (a b : List Int) : ∀ n, n ≤ 24 → okF (-1) (freeT a b n) = true ∧ ∀ y ∈ freeT a b n, y < (n : Int)
  | 0, _ => ⟨rfl, by simp [freeT]⟩
  | n + 1, hn => by
    obtain ⟨i1, i2⟩ := free_ok a b n (by omega)
    have old : ∀ y ∈ freeT a b n, y < ((n + 1 : Nat) : Int) := fun y hy => by have := i2 y hy; omega
    by_cases h1 : hasL a n = true
    · rw [freeT_no1 a b n h1]; exact ⟨i1, old⟩
    · by_cases h2 : hasL b n = true
      · rw [freeT_no2 a b n h2]; exact ⟨i1, old⟩
      · rw [freeT_yes a b n (by simpa using h1) (by simpa using h2)]
        refine ⟨okF_append _ _ _ i1 (fun _ => by omega) i2 (by omega), fun y hy => ?_⟩
        rcases List.mem_append.1 hy with h | h
        · exact old y h
        · simp at h; subst h; omega
theorem freeT_ok (a b : List Int) : okL (freeT a b 24) = true := (free_ok a b 24 (Nat.le_refl _)).1
/-- The bits of a span, and a list of one extent. -/
theorem onceT_one (f c : Nat) (h : f + c ≤ 24) : ∀ n, n ≤ 24 → onceT [((f : Int), (c : Int))] n = spanL f (min n (f + c) - f)
  | 0, _ => by simp [onceT, spanL]
  | n + 1, hn => by
    have ih := onceT_one f c h n (by omega)
    have hc : cnt [((f : Int), (c : Int))] n = if f ≤ n ∧ n < f + c then 1 else 0 := by
      unfold cnt
      by_cases hh : f ≤ n ∧ n < f + c
      · rw [if_pos hh]
        have : cov ((f : Int), (c : Int)) n = true := (cov_iff _ _).2 (by simp only; omega)
        simp [List.countP_cons, this]
      · rw [if_neg hh]
        have : ¬ cov ((f : Int), (c : Int)) n = true := fun hx => hh (by have := (cov_iff _ _).1 hx; simp only at this; omega)
        simp [List.countP_cons, this]
    by_cases hh : f ≤ n ∧ n < f + c
    · rw [onceT_yes _ n (by rw [hc, if_pos hh]), ih, show min (n + 1) (f + c) - f = (min n (f + c) - f) + 1 by omega, spanL_succ]
      rw [show min n (f + c) - f = n - f by omega]
      congr 2
      omega
    · rw [onceT_no _ n (by rw [hc, if_neg hh]; decide), ih]
      congr 1
      omega
theorem good_one (f c : Nat) (h1 : 1 ≤ c) (h : f + c ≤ 24) : goodE ((f : Int), (c : Int)) = true := (goodE_iff _).2 (by simp only; omega)
theorem listO_one (f c : Nat) (h1 : 1 ≤ c) (h : f + c ≤ 24) : listO [((f : Int), (c : Int))] = (spanL f c, 0) := by
  have hg : ∀ j (hj : j < [((f : Int), (c : Int))].length), goodE [((f : Int), (c : Int))][j] = true := fun j hj => by
    have hj0 : j = 0 := by simpa using hj
    subst hj0
    exact good_one f c h1 h
  have ht : twice [((f : Int), (c : Int))] = false := (twice_not _).2 fun k _ => Nat.le_trans List.countP_le_length (by simp)
  rw [listO_list _ (by simp) hg ht, onceT_one f c h 24 (Nat.le_refl _)]
  congr 2
  omega
theorem fromB_span (f c : Nat) (h : f + c ≤ 24) : fromB (((2 ^ c - 1) * 2 ^ f : Nat) : Int) = spanL f c := by
  by_cases h1 : 1 ≤ c
  · have hg : ∀ j (hj : j < [((f : Int), (c : Int))].length), goodE [((f : Int), (c : Int))][j] = true := fun j hj => by
      have hj0 : j = 0 := by simpa using hj
      subst hj0
      exact good_one f c h1 h
    have ht : ∀ k, cnt [((f : Int), (c : Int))] k ≤ 1 := fun k => Nat.le_trans List.countP_le_length (by simp)
    have := from_or _ hg ht 24 (Nat.le_refl _)
    have ho : orT [((f : Int), (c : Int))] 1 = (2 ^ c - 1) * 2 ^ f := by
      have := orT_succ [((f : Int), (c : Int))] 0 (by simp)
      rw [this]
      simp [orT, covN]
    rw [show [((f : Int), (c : Int))].length = 1 from rfl, ho, onceT_one f c h 24 (Nat.le_refl _)] at this
    have hlt := orT_lt _ hg 1 (by simp)
    rw [ho] at hlt
    unfold fromB
    rw [if_pos ⟨by omega, by have : (2 : Nat) ^ 24 = 16777216 := by decide
                             omega⟩, this]
    congr 1
    omega
  · obtain rfl : c = 0 := by omega
    have : fromB 0 = [] := by
      unfold fromB
      rw [if_pos (by omega)]
      decide
    simpa [spanL] using this
end Go.Proofs.Ytmhmjofmafeidaa
