/- Lists of the area: when one is valid; plain mathematics. -/
namespace Go.Proofs.Ytmhmjofmafeidaa

/-- l rises above b and stays below 24. -/
def okF : Int → List Int → Bool
  | _, [] => true
  | b, k :: t => decide (b < k) && decide (k < 24) && okF k t
def okL (l : List Int) : Bool := okF (-1) l
/-- What stands ahead of place k. -/
def prev (l : List Int) (k : Nat) : Int := if k = 0 then -1 else l[k - 1]?.getD 0
theorem prev_zero (l : List Int) : prev l 0 = -1 := rfl
theorem prev_succ (l : List Int) (k : Nat) (h : k < l.length) : prev l (k + 1) = l[k] := by simp [prev, h]
theorem okF_step (l : List Int) (k : Nat) (h : k < l.length) : okF (prev l k) (l.drop k) = (decide (prev l k < l[k]) && decide (l[k] < 24) && okF (prev l (k + 1)) (l.drop (k + 1))) := by
  rw [List.drop_eq_getElem_cons h, prev_succ l k h]; rfl
theorem okF_end (l : List Int) : okF (prev l l.length) (l.drop l.length) = true := by rw [List.drop_length]; rfl
theorem okF_len : ∀ (l : List Int) (b : Int), okF b l = true → l = [] ∨ (l.length : Int) ≤ 23 - b
  | [], _, _ => .inl rfl
  | k :: t, b, h => by
    simp only [okF, Bool.and_eq_true, decide_eq_true_eq] at h
    rcases okF_len t k h.2 with rfl | h1
    · right; simp; omega
    · right; simp; omega
theorem okL_len (l : List Int) (h : okL l = true) : l.length ≤ 24 := by
  rcases okF_len l (-1) h with rfl | h1
  · simp
  · omega
theorem okF_mem : ∀ (l : List Int) (b : Int), okF b l = true → ∀ x ∈ l, b < x ∧ x < 24
  | [], _, _, x, hx => by cases hx
  | k :: t, b, h, x, hx => by
    simp only [okF, Bool.and_eq_true, decide_eq_true_eq] at h
    rcases List.mem_cons.1 hx with rfl | hx
    · exact ⟨h.1.1, h.1.2⟩
    · have := okF_mem t k h.2 x hx
      omega
theorem okL_mem (l : List Int) (h : okL l = true) (x : Int) (hx : x ∈ l) : 0 ≤ x ∧ x < 24 := by
  have := okF_mem l (-1) h x hx; omega
theorem okL_at (l : List Int) (h : okL l = true) (k : Nat) (hk : k < l.length) : 0 ≤ l[k] ∧ l[k] < 24 := okL_mem l h _ (List.getElem_mem hk)
theorem okF_prev : ∀ (l : List Int) (b : Int), okF b l = true → ∀ k (hk : k < l.length), (if k = 0 then b else l[k - 1]?.getD 0) < l[k]
  | [], _, _, k, hk => by simp at hk
  | x :: t, b, h, 0, _ => by
    simp only [okF, Bool.and_eq_true, decide_eq_true_eq] at h
    simpa using h.1.1
  | x :: t, b, h, k + 1, hk => by
    simp only [okF, Bool.and_eq_true, decide_eq_true_eq] at h
    have := okF_prev t x h.2 k (by simpa using hk)
    cases k with
    | zero => simpa using this
    | succ k => simpa using this
theorem okL_prev (l : List Int) (h : okL l = true) (k : Nat) (hk : k < l.length) : prev l k < l[k] := okF_prev l (-1) h k hk
end Go.Proofs.Ytmhmjofmafeidaa
