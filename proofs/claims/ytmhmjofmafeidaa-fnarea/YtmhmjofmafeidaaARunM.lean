/- The runs of a list of numbers: plain mathematics. -/
import Derived.Test.YtmhmjofmafeidaaALoM
import Derived.Test.YtmhmjofmafeidaaLExtent
namespace Go.Proofs.Ytmhmjofmafeidaa
open Go.RowKit

def atL (l : List Int) (k : Nat) : Int := l[k]?.getD 0
theorem atL_eq (l : List Int) (k : Nat) (h : k < l.length) : atL l k = l[k] := by simp [atL, h]
/-- Element k continues the run of the one before it. -/
def contB (l : List Int) (k : Nat) : Bool := decide (0 < k) && decide (atL l (k - 1) + 1 = atL l k)
theorem contB_iff (l : List Int) (k : Nat) : contB l k = true ↔ 0 < k ∧ atL l (k - 1) + 1 = atL l k := by simp [contB]
def bump (xs : List extT) : List extT := match xs.getLast? with
  | some e => xs.dropLast ++ [(e.1, e.2 + 1)]
  | none => []
theorem bump_snoc (p : List extT) (e : extT) : bump (p ++ [e]) = p ++ [(e.1, e.2 + 1)] := by simp [bump]
theorem bump_len (xs : List extT) : (bump xs).length ≤ xs.length := by
  rcases List.eq_nil_or_concat xs with rfl | ⟨p, e, rfl⟩
  · simp [bump]
  · rw [List.concat_eq_append, bump_snoc]; simp
theorem bump_append (p q : List extT) (h : q ≠ []) : bump (p ++ q) = p ++ bump q := by
  rcases List.eq_nil_or_concat q with rfl | ⟨q', e, rfl⟩
  · exact absurd rfl h
  · rw [List.concat_eq_append, ← List.append_assoc, bump_snoc, bump_snoc, List.append_assoc]
theorem bump_ne (q : List extT) (h : q ≠ []) : bump q ≠ [] := by
  rcases List.eq_nil_or_concat q with rfl | ⟨q', e, rfl⟩
  · exact absurd rfl h
  · rw [List.concat_eq_append, bump_snoc]; simp
/-- The runs of the first k elements. -/
def rT (l : List Int) : Nat → List extT
  | 0 => []
  | k + 1 => if contB l k then bump (rT l k) else rT l k ++ [(atL l k, 1)]
theorem rT_yes (l : List Int) (k : Nat) (h : contB l k = true) : rT l (k + 1) = bump (rT l k) := by rw [rT, if_pos h]
theorem rT_no (l : List Int) (k : Nat) (h : contB l k = false) : rT l (k + 1) = rT l k ++ [(atL l k, 1)] := by rw [rT, h]; rfl
theorem rT_len (l : List Int) : ∀ k, (rT l k).length ≤ k
  | 0 => by simp [rT]
  | k + 1 => by
    have ih := rT_len l k
    cases h : contB l k with
    | true => rw [rT_yes l k h]; have := bump_len (rT l k); omega
    | false => rw [rT_no l k h]; simp; omega
theorem rT_pos (l : List Int) : ∀ k, 0 < k → rT l k ≠ []
  | 0, h => absurd h (by omega)
  | k + 1, _ => by
    cases h : contB l k with
    | true => rw [rT_yes l k h]; exact bump_ne _ (rT_pos l k ((contB_iff l k).1 h).1)
    | false => rw [rT_no l k h]; simp
def runsL (l : List Int) : List extT := rT l l.length
theorem runsL_len (l : List Int) : (runsL l).length ≤ l.length := rT_len l l.length
/-- The program's state before element k: the run that is open began at st, and pre has been handed out. -/
structure RunSt (l : List Int) (k st : Nat) (pre : List extT) : Prop where
  le : st ≤ k
  shut : st = k → rT l k = pre ∧ (k < l.length → contB l k = false)
  out : st < k → rT l k = pre ++ [(atL l st, ((k - st : Nat) : Int))] ∧ contB l k = true ∧ k < l.length
theorem RunSt.zero (l : List Int) : RunSt l 0 0 [] := ⟨Nat.le_refl _, fun _ => ⟨rfl, fun _ => by simp [contB]⟩, fun h => absurd h (by omega)⟩
theorem RunSt.step {l : List Int} {k st : Nat} {pre : List extT} (h : RunSt l k st pre) (hk : k < l.length) : rT l (k + 1) = pre ++ [(atL l st, ((k + 1 - st : Nat) : Int))] := by
  have hle := h.le
  by_cases e : st = k
  · obtain ⟨h1, h2⟩ := h.shut e
    rw [rT_no l k (h2 hk), h1, e, show k + 1 - k = 1 by omega]; rfl
  · obtain ⟨h1, h2, _⟩ := h.out (by omega)
    rw [rT_yes l k h2, h1, bump_snoc]
    simp; omega
theorem RunSt.go {l : List Int} {k st : Nat} {pre : List extT} (h : RunSt l k st pre) (hk : k < l.length) (h1 : k + 1 < l.length) (h2 : contB l (k + 1) = true) : RunSt l (k + 1) st pre :=
  ⟨by have := h.le; omega, fun e => by have := h.le; omega, fun _ => ⟨h.step hk, h2, h1⟩⟩
theorem RunSt.cut {l : List Int} {k st : Nat} {pre : List extT} (h : RunSt l k st pre) (hk : k < l.length) (h2 : k + 1 < l.length → contB l (k + 1) = false) : RunSt l (k + 1) (k + 1) (pre ++ [(atL l st, ((k + 1 - st : Nat) : Int))]) :=
  ⟨Nat.le_refl _, fun _ => ⟨h.step hk, h2⟩, fun e => absurd e (by omega)⟩
theorem RunSt.few {l : List Int} {k st : Nat} {pre : List extT} (h : RunSt l k st pre) (hk : k < l.length) : pre.length < l.length := by
  have h1 := h.step hk
  have h2 := rT_len l (k + 1)
  rw [h1] at h2
  simp at h2
  omega
theorem RunSt.all {l : List Int} {st : Nat} {pre : List extT} (h : RunSt l l.length st pre) : pre = runsL l := by
  by_cases e : st = l.length
  · exact (h.shut e).1.symm
  · have := (h.out (by have := h.le; omega)).2.2; omega
theorem rT_more {l : List Int} {j : Nat} (hc : j < l.length → contB l j = false) : ∀ d, j + d ≤ l.length → ∃ q, rT l (j + d) = rT l j ++ q ∧ (0 < d → q ≠ [])
  | 0, _ => ⟨[], by simp, fun h => absurd h (by omega)⟩
  | d + 1, hd => by
    obtain ⟨q, h1, h2⟩ := rT_more hc d (by omega)
    cases hb : contB l (j + d) with
    | false =>
      refine ⟨q ++ [(atL l (j + d), 1)], ?_, fun _ => by simp⟩
      rw [← Nat.add_assoc, rT_no l _ hb, h1, List.append_assoc]
    | true =>
      have hd0 : 0 < d := by
        rcases Nat.eq_zero_or_pos d with rfl | h
        · rw [Nat.add_zero, hc (by omega)] at hb; cases hb
        · exact h
      exact ⟨bump q, by rw [← Nat.add_assoc, rT_yes l _ hb, h1, bump_append _ _ (h2 hd0)], fun _ => bump_ne _ (h2 hd0)⟩
theorem RunSt.pre {l : List Int} {k : Nat} {pre : List extT} (h : RunSt l k k pre) (hk : k ≤ l.length) : pre <+: runsL l := by
  obtain ⟨h1, h2⟩ := h.shut rfl
  obtain ⟨q, h3, _⟩ := rT_more h2 (l.length - k) (by omega)
  rw [show k + (l.length - k) = l.length by omega, h1] at h3
  exact ⟨q, h3.symm⟩
/-- Every run of a right list is a good extent. -/
theorem rT_last (l : List Int) (k : Nat) (h : 0 < k) : ∃ p e, rT l k = p ++ [e] := by
  rcases List.eq_nil_or_concat (rT l k) with h1 | ⟨p, e, h1⟩
  · exact absurd h1 (rT_pos l k h)
  · exact ⟨p, e, by rw [h1, List.concat_eq_append]⟩
theorem rT_ends (l : List Int) (ho : okL l = true) : ∀ k, k ≤ l.length → (∀ e ∈ rT l k, goodE e = true) ∧ (∀ p e, rT l k = p ++ [e] → e.1 + e.2 = atL l (k - 1) + 1)
  | 0, _ => ⟨by simp [rT], fun p e h => by simp [rT] at h⟩
  | k + 1, hk => by
    obtain ⟨i1, i2⟩ := rT_ends l ho k (by omega)
    have hb := okL_at l ho k (by omega)
    rw [← atL_eq l k (by omega)] at hb
    cases h : contB l k with
    | true =>
      obtain ⟨c1, c2⟩ := (contB_iff l k).1 h
      obtain ⟨p, e, hp⟩ := rT_last l k c1
      have he := i2 p e hp
      have hg := (goodE_iff e).1 (i1 e (by rw [hp]; simp))
      have hr : rT l (k + 1) = p ++ [(e.1, e.2 + 1)] := by rw [rT_yes l k h, hp, bump_snoc]
      rw [hr]
      refine ⟨fun x hx => ?_, fun p' e' h' => ?_⟩
      · rcases List.mem_append.1 hx with h3 | h3
        · exact i1 x (by rw [hp]; exact List.mem_append.2 (.inl h3))
        · simp at h3; subst h3
          rw [goodE_iff]; simp only; omega
      · have := List.append_inj_right' h' rfl
        simp at this; subst this
        simp only [Nat.add_sub_cancel]; omega
    | false =>
      rw [rT_no l k h]
      refine ⟨fun x hx => ?_, fun p' e' h' => ?_⟩
      · rcases List.mem_append.1 hx with h3 | h3
        · exact i1 x h3
        · simp at h3; subst h3
          rw [goodE_iff]; simp only; omega
      · have := List.append_inj_right' h' rfl
        simp at this; subst this
        simp
theorem runsL_good (l : List Int) (ho : okL l = true) (e : extT) (he : e ∈ runsL l) : goodE e = true := (rT_ends l ho l.length (Nat.le_refl _)).1 e he
end Go.Proofs.Ytmhmjofmafeidaa
