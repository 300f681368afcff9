/- What FnReserve and FnArea want of lists: plain mathematics. -/
import Derived.Test.YtmhmjofmafeidaaAResM
namespace Go.Proofs.Ytmhmjofmafeidaa
open Go.RowKit

def flatE (rs : List extT) : List Int := rs.flatMap fun e => spanL e.1 e.2.toNat
theorem flatE_append (p q : List extT) : flatE (p ++ q) = flatE p ++ flatE q := by simp [flatE]
theorem take_atL (l : List Int) (k : Nat) (h : k < l.length) : l.take (k + 1) = l.take k ++ [atL l k] := by
  rw [List.take_succ_eq_append_getElem h, atL_eq l k h]
theorem flat_rT (l : List Int) (ho : okL l = true) : ∀ k, k ≤ l.length → flatE (rT l k) = l.take k
  | 0, _ => by simp [rT, flatE]
  | k + 1, hk => by
    have ih := flat_rT l ho k (by omega)
    obtain ⟨i1, i2⟩ := rT_ends l ho k (by omega)
    rw [take_atL l k (by omega)]
    cases h : contB l k with
    | true =>
      obtain ⟨c1, c2⟩ := (contB_iff l k).1 h
      obtain ⟨p, e, hp⟩ := rT_last l k c1
      have he := i2 p e hp
      have hg := (goodE_iff e).1 (i1 e (by rw [hp]; simp))
      rw [rT_yes l k h, hp, bump_snoc, flatE_append, ← ih, hp, flatE_append, List.append_assoc]
      congr 1
      simp only [flatE, List.flatMap_cons, List.flatMap_nil, List.append_nil]
      rw [show (e.2 + 1).toNat = e.2.toNat + 1 by omega, spanL_succ]
      congr 2
      omega
    | false =>
      rw [rT_no l k h, flatE_append, ih]
      congr 1
      simp [flatE, spanL]
theorem flat_runs (l : List Int) (ho : okL l = true) : flatE (runsL l) = l := by
  have := flat_rT l ho l.length (Nat.le_refl _)
  rwa [List.take_length] at this
theorem firstR_mem (rs : List extT) (n : Int) (e : extT) (h : firstR rs n = some e) : e ∈ rs ∧ n ≤ e.2 := by
  unfold firstR at h
  exact ⟨List.mem_of_find?_eq_some h, by simpa using List.find?_some h⟩
theorem span_sub (rs : List extT) (e : extT) (he : e ∈ rs) (n : Nat) (hn : (n : Int) ≤ e.2) : (spanL e.1 n).Sublist (flatE rs) := by
  obtain ⟨p, q, rfl⟩ := List.append_of_mem he
  rw [flatE_append]
  refine List.Sublist.trans ?_ (List.sublist_append_right _ _)
  show (spanL e.1 n).Sublist (spanL e.1 e.2.toNat ++ flatE q)
  refine List.Sublist.trans ?_ (List.sublist_append_left _ _)
  rw [← spanL_take e.1 n e.2.toNat (by omega)]
  exact List.take_sublist _ _
theorem sel_sub (free : List Int) (ho : okL free = true) (n : Nat) : (selL free n).Sublist free := by
  cases h : firstR (runsL free) n with
  | none => rw [selL_none free n h]; exact List.take_sublist _ _
  | some e =>
    rw [selL_some free n e h]
    obtain ⟨h1, h2⟩ := firstR_mem _ _ _ h
    have := span_sub (runsL free) e h1 n h2
    rwa [flat_runs free ho] at this
/-- One step of looking a list up in another. -/
theorem sub_hit {a b : List Int} {i k : Nat} (hi : i < a.length) (hk : k < b.length) (h : (b.drop k).Sublist (a.drop i)) (e : a[i] = b[k]) : (b.drop (k + 1)).Sublist (a.drop (i + 1)) := by
  rw [← List.getElem_cons_drop hi, ← List.getElem_cons_drop hk, e] at h
  exact (List.cons_sublist_cons).1 h
theorem sub_ne {x y : Int} {p q : List Int} (h : (y :: p).Sublist (x :: q)) (e : ¬ x = y) : (y :: p).Sublist q := by
  rcases List.sublist_cons_iff.1 h with h | ⟨r, h1, h2⟩
  · exact h
  · exact absurd (List.cons.inj h1).1.symm e
theorem sub_miss {a b : List Int} {i k : Nat} (hi : i < a.length) (hk : k < b.length) (h : (b.drop k).Sublist (a.drop i)) (e : ¬ a[i] = b[k]) : (b.drop k).Sublist (a.drop (i + 1)) := by
  rw [← List.getElem_cons_drop hi] at h
  rw [← List.getElem_cons_drop hk] at h ⊢
  exact sub_ne h e
theorem sub_end {a b : List Int} {k : Nat} (hk : k ≤ b.length) (h : (b.drop k).Sublist (a.drop a.length)) : k = b.length := by
  rw [List.drop_length] at h
  have := List.eq_nil_of_sublist_nil h
  have h2 := congrArg List.length this
  simp at h2
  omega
/-- The runs of a span. -/
theorem atL_span (f : Int) (n k : Nat) (h : k < n) : atL (spanL f n) k = f + (k : Int) := by
  rw [atL_eq _ k (by rw [spanL_len]; exact h)]
  simp [spanL]
theorem rT_span (f : Int) (n : Nat) : ∀ k, k ≤ n → (rT (spanL f n) k).length ≤ 1
  | 0, _ => by simp [rT]
  | k + 1, hk => by
    by_cases h0 : k = 0
    · subst h0; exact rT_len _ 1
    · have hc : contB (spanL f n) k = true := (contB_iff _ _).2 ⟨by omega, by rw [atL_span f n k (by omega), atL_span f n (k - 1) (by omega)]; omega⟩
      rw [rT_yes _ k hc]
      have := bump_len (rT (spanL f n) k)
      have := rT_span f n k (by omega)
      omega
theorem ext_span (f : Int) (n : Nat) : (if okL (spanL f n) then runsL (spanL f n) else []).length ≤ 1 := by
  split
  · have := rT_span f n n (Nat.le_refl _)
    unfold runsL
    rwa [spanL_len]
  · simp
def longB (rs : List extT) (n : Int) : Bool := rs.any fun e => decide (n ≤ e.2)
theorem long_first (rs : List extT) (n : Int) (h : longB rs n = true) : ∃ e, firstR rs n = some e := by
  unfold longB at h
  obtain ⟨e, h1, h2⟩ := List.any_eq_true.1 h
  cases hf : firstR rs n with
  | some e => exact ⟨e, rfl⟩
  | none =>
    unfold firstR at hf
    rw [List.find?_eq_none] at hf
    exact absurd h2 (hf e h1)
theorem long_take (rs : List extT) (n : Int) (k : Nat) (h : k < rs.length) : longB (rs.take (k + 1)) n = (longB (rs.take k) n || decide (n ≤ rs[k].2)) := by
  unfold longB
  rw [List.take_succ_eq_append_getElem h, List.any_append]
  simp only [List.any_cons, List.any_nil, Bool.or_false]
end Go.Proofs.Ytmhmjofmafeidaa
