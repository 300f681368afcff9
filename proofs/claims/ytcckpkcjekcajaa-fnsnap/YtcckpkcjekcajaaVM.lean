/- Snapshot reads: which step writes a block, and what is read; free of any program. -/
import Derived.Test.YtcckpkcjekcajaaM3
namespace Go.Proofs.Ytcckpkcjekcajaa
open Go.RowKit

/-- A step that is no label writes block b. -/
def hitS (b : Int) (x : stpT) : Prop := x.1 ≠ 5 ∧ x.2.1 = b
instance (b : Int) (x : stpT) : Decidable (hitS b x) := by unfold hitS; infer_instance
/-- The first one, if there is one. -/
def touchL (b : Int) : List stpT → Nat → Option Nat
  | [], _ => none
  | x :: l, k => if hitS b x then some k else touchL b l (k + 1)
theorem touchL_cons (b : Int) (x : stpT) (l : List stpT) (k : Nat) : touchL b (x :: l) k = if hitS b x then some k else touchL b l (k + 1) := rfl
def touchI (l : List stpT) (b : Int) : Int := match touchL b l 0 with | some k => (k : Int) | none => -1
def touchS (l : List stpT) (b : Int) : Int := if 20 < l.length then -1 else touchI l b
theorem touchL_at {b : Int} : ∀ {l : List stpT} {m k : Nat} (hk : k < l.length), hitS b l[k] → (∀ j (hj : j < k), ¬ hitS b (l[j]'(by omega))) → touchL b l m = some (m + k)
  | [], _, _, hk, _, _ => absurd hk (by simp)
  | x :: l, m, 0, _, h, _ => by rw [touchL_cons, if_pos (by simpa using h)]; rfl
  | x :: l, m, k + 1, hk, h, hno => by
    have h0 := hno 0 (by omega)
    rw [touchL_cons, if_neg (by simpa using h0)]
    have := touchL_at (b := b) (l := l) (m := m + 1) (k := k) (by simpa using hk) (by simpa using h) (fun j hj => by have := hno (j + 1) (by omega); simpa using this)
    rw [this, show m + 1 + k = m + (k + 1) by omega]
theorem touchL_none {b : Int} : ∀ {l : List stpT} {m : Nat}, (∀ x ∈ l, ¬ hitS b x) → touchL b l m = none
  | [], _, _ => rfl
  | x :: l, m, h => by rw [touchL_cons, if_neg (h x (List.mem_cons_self ..)), touchL_none (fun y hy => h y (List.mem_cons_of_mem _ hy))]
theorem touchI_at {l : List stpT} {b : Int} {k : Nat} (hk : k < l.length) (h : hitS b l[k]) (hno : ∀ j (hj : j < k), ¬ hitS b (l[j]'(by omega))) : touchI l b = (k : Int) := by
  unfold touchI; rw [touchL_at hk h hno, Nat.zero_add]
theorem touchI_none {l : List stpT} {b : Int} (h : ∀ x ∈ l, ¬ hitS b x) : touchI l b = -1 := by unfold touchI; rw [touchL_none h]
/-- Either no step writes the block, or there is a first one. -/
theorem touch_cases (l : List stpT) (b : Int) : (touchI l b = -1 ∧ ∀ x ∈ l, ¬ hitS b x) ∨ ∃ (k : Nat) (hk : k < l.length), touchI l b = (k : Int) ∧ hitS b l[k] ∧ ∀ j (hj : j < k), ¬ hitS b (l[j]'(by omega)) := by
  have key : ∀ n, n ≤ l.length → (∀ j (hj : j < n) (hl : j < l.length), ¬ hitS b l[j]) ∨ ∃ (k : Nat) (hk : k < l.length), hitS b l[k] ∧ ∀ j (hj : j < k), ¬ hitS b (l[j]'(by omega)) := by
    intro n
    induction n with
    | zero => exact fun _ => .inl fun j hj => absurd hj (by omega)
    | succ n ih =>
      intro hn
      rcases ih (by omega) with h | h
      · by_cases hh : hitS b (l[n]'(by omega))
        · exact .inr ⟨n, by omega, hh, fun j hj => h j hj (by omega)⟩
        · refine .inl fun j hj hl => ?_
          by_cases e : j = n
          · subst e; exact hh
          · exact h j (by omega) hl
      · exact .inr h
  rcases key l.length (Nat.le_refl _) with h | ⟨k, hk, h1, h2⟩
  · have h' : ∀ x ∈ l, ¬ hitS b x := fun x hx => by
      obtain ⟨j, hj, rfl⟩ := List.getElem_of_mem hx
      exact h j hj hj
    exact .inl ⟨touchI_none h', h'⟩
  · exact .inr ⟨k, hk, touchI_at hk h1 h2, h1, h2⟩
theorem touchI_lt (l : List stpT) (b : Int) : -1 ≤ touchI l b ∧ touchI l b < (l.length : Int) := by
  rcases touch_cases l b with ⟨h, -⟩ | ⟨k, hk, h, -⟩ <;> omega
theorem code_apart {l : List stpT} {n : Int} (h : codeS l n = 0) : ¬ Twice l := fun ht => by
  by_cases hf : FormBad l n
  · rw [codeS_form hf] at h; cases h
  · rw [codeS_twice hf ht] at h; cases h
/-- What a block becomes where no step writes it. -/
theorem fold_none {image : List ByteArray} {i : Nat} : ∀ {l : List stpT} {w : ByteArray}, (∀ x ∈ l, ¬ hitS (i : Int) x) → l.foldl (want1 image i) w = w
  | [], _, _ => rfl
  | x :: l, w, h => by
    rw [List.foldl_cons]
    have : want1 image i w x = w := if_neg (h x (List.mem_cons_self ..))
    rw [this]
    exact fold_none fun y hy => h y (List.mem_cons_of_mem _ hy)
theorem fold_one {image : List ByteArray} {i : Nat} {l : List stpT} {k : Nat} (hk : k < l.length) (h : hitS (i : Int) l[k]) (hno : ∀ j (hj : j < l.length), j ≠ k → ¬ hitS (i : Int) l[j]) (w : ByteArray) :
    l.foldl (want1 image i) w = makeS l[k] (image.getD l[k].2.2.1.toNat ⟨#[]⟩) := by
  have e : l = l.take k ++ (l[k] :: l.drop (k + 1)) := by rw [← List.drop_eq_getElem_cons hk, List.take_append_drop]
  have e2 : l.foldl (want1 image i) w = (l.take k ++ (l[k] :: l.drop (k + 1))).foldl (want1 image i) w := by rw [← e]
  rw [e2, List.foldl_append, List.foldl_cons]
  have h1 : want1 image i ((l.take k).foldl (want1 image i) w) l[k] = makeS l[k] (image.getD l[k].2.2.1.toNat ⟨#[]⟩) := if_pos h
  rw [h1]
  refine fold_none fun x hx => ?_
  obtain ⟨j, hj, rfl⟩ := List.getElem_of_mem hx
  rw [List.length_drop] at hj
  rw [List.getElem_drop]
  exact hno (k + 1 + j) (by omega) (by omega)
/-- What is read of a block is what it becomes. -/
def snapB (base : List ByteArray) (l : List stpT) (i : Nat) : ByteArray := match touchL (i : Int) l 0 with | some k => makeS (l.getD k (0, 0, 0, ⟨#[]⟩)) (base.getD (l.getD k (0, 0, 0, ⟨#[]⟩)).2.2.1.toNat ⟨#[]⟩) | none => base.getD i ⟨#[]⟩
theorem snapB_apply {base : List ByteArray} {l : List stpT} {n : Int} (hc : codeS l n = 0) (hto : ∀ x ∈ l, x.1 ≠ 5 → 0 ≤ x.2.1) {i : Nat} (hi : i < base.length) : (applyL base l)[i]? = some (snapB base l i) := by
  have hw := code_apart hc
  have h := fold_at base i l base base[i] hto (List.getElem?_eq_getElem hi)
  unfold applyL
  rw [h]
  congr 1
  unfold snapB
  rcases touch_cases l (i : Int) with ⟨-, h0⟩ | ⟨k, hk, -, h1, h2⟩
  · rw [touchL_none h0, fold_none h0]
    simp [List.getElem?_eq_getElem hi]
  · rw [touchL_at hk h1 h2, Nat.zero_add]
    have hg : l.getD k (0, 0, 0, ⟨#[]⟩) = l[k] := by rw [List.getD_eq_getElem?_getD, List.getElem?_eq_getElem hk]; rfl
    simp only [hg]
    refine fold_one hk h1 (fun j hj hne hh => hw ?_) _
    by_cases hlt : j < k
    · exact ⟨k, j, hlt, hk, hj, h1.1, hh.1, h1.2.trans hh.2.symm⟩
    · exact ⟨j, k, by omega, hj, hk, hh.1, h1.1, hh.2.trans h1.2.symm⟩
theorem snapB_none {base : List ByteArray} {l : List stpT} {i : Nat} (h : touchI l (i : Int) < 0) : snapB base l i = base.getD i ⟨#[]⟩ := by
  unfold snapB
  rcases touch_cases l (i : Int) with ⟨-, h0⟩ | ⟨k, hk, he, -⟩
  · rw [touchL_none h0]
  · omega
theorem snapB_some {base : List ByteArray} {l : List stpT} {i k : Nat} (h : touchI l (i : Int) = (k : Int)) : ∃ (hk : k < l.length), l[k].1 ≠ 5 ∧ l[k].2.1 = (i : Int) ∧ snapB base l i = makeS l[k] (base.getD l[k].2.2.1.toNat ⟨#[]⟩) := by
  rcases touch_cases l (i : Int) with ⟨he, -⟩ | ⟨k', hk, he, h1, h2⟩
  · omega
  · obtain rfl : k' = k := by omega
    refine ⟨hk, h1.1, h1.2, ?_⟩
    unfold snapB
    rw [touchL_at hk h1 h2, Nat.zero_add]
    have hg : l.getD k' (0, 0, 0, ⟨#[]⟩) = l[k'] := by rw [List.getD_eq_getElem?_getD, List.getElem?_eq_getElem hk]; rfl
    simp only [hg]
end Go.Proofs.Ytcckpkcjekcajaa
