/- What the law of steps wants; free of any program. -/
import Derived.Test.YthkbllkhomjmbaaDoorBRdM
import Derived.Test.YthkbllkhomjmbaaDoorM1
import Derived.Test.YthkbllkhomjmbaaDoorBWrites
namespace Go.Proofs.YthkbllkhomjmbaaDoor
open Go.RowKit

theorem stepB_mono {n k t f : Int} {d : ByteArray} (h : stepB n k t f d = true) : stepB 8 k t f d = true := by
  obtain ⟨⟨n0, n1⟩, h⟩ := (stepB_iff ..).1 h
  refine stepB_yes ⟨⟨by omega, by omega⟩, ?_⟩
  have up : ∀ x : Int, inB x n = true → inB x 8 = true := fun x hx => by
    have := (inB_iff _ _).1 hx
    exact (inB_iff _ _).2 ⟨by omega, by omega⟩
  rcases h with ⟨a, b, c, e⟩ | ⟨a, b, c, e⟩ | ⟨a, b, c, e⟩ | ⟨a, b, c, e⟩ | h
  · exact .inl ⟨a, up _ b, c, e⟩
  · exact .inr (.inl ⟨a, up _ b, c, e⟩)
  · exact .inr (.inr (.inl ⟨a, up _ b, up _ c, e⟩))
  · exact .inr (.inr (.inr (.inl ⟨a, up _ b, up _ c, e⟩)))
  · exact .inr (.inr (.inr (.inr h)))
theorem rdR_ok {u : ByteArray} (h : (rdR u).2 = 0) : stepBs (rdR u).1.1 (rdR u).1.2.1 (rdR u).1.2.2.1 (rdR u).1.2.2.2 = u := by
  unfold rdR at *
  split at h
  · simp at h
  · rename_i h8
    rw [if_neg h8]
    split at h
    · rename_i hb
      rw [if_pos hb]
      unfold rdB at hb
      rw [Bool.and_eq_true] at hb
      exact toList_inj hb.2
    · simp at h
theorem rdR_back {k t f : Int} {d : ByteArray} (h : stepB 8 k t f d = true) : rdR (stepS k t f d) = ((k, t, f, d), 0) := by
  obtain ⟨e1, e2, e3, e4, e5⟩ := stepS_reads h (stepS k t f d) rfl
  obtain ⟨k0, k1, t0, t1, f0, f1, d1⟩ := ok_bounds h
  have z1 := putS_size k (by omega) (by omega)
  have z2 := putS_size t (by omega) (by omega)
  have z3 := putS_size f (by omega) (by omega)
  have z4 := putS_size d.size (by omega) (by omega)
  unfold rdR
  rw [if_neg (by rw [stepS_size]; omega)]
  have hb : rdB (stepS k t f d) = true := by
    unfold rdB
    rw [e1, e2, e3, e4]
    simp only [h, Bool.true_and]
    unfold stepBs
    rw [if_pos h]
    simp
  rw [if_pos hb]
  unfold rdStp
  rw [e1, e2, e3, e4]
theorem stepBs_full {k t f : Int} {d : ByteArray} (h : stepBs k t f d ≠ ⟨#[]⟩) : stepB 8 k t f d = true ∧ stepBs k t f d = stepS k t f d := by
  unfold stepBs at *
  split at h
  · rename_i hs; exact ⟨hs, if_pos hs⟩
  · exact absurd rfl h
theorem writesL_mem {l : List stpT} {s : stpT} (h : s ∈ writesL l) : s.1 ≠ 5 := by
  unfold writesL wrT at h
  split at h
  · simp at h
  · have := (List.mem_filter.1 h).2
    simpa using this
theorem writesL_at (l : List stpT) (i : Nat) (h : i < (writesL l).length) : (writesL l)[i].1 ≠ 5 := writesL_mem (List.getElem_mem h)
theorem lastT_take (l : List stpT) : ∀ k, k ≤ l.length - 1 → lastT l.dropLast k = lastT l k
  | 0, _ => rfl
  | k + 1, h => by
    have hk : k < l.dropLast.length := by simp; omega
    have hk2 : k < l.length := by omega
    have e : l.dropLast[k] = l[k] := by simp
    by_cases h5 : l[k].1 = 5
    · rw [lastT_yes hk (by rw [e]; exact h5), lastT_yes hk2 h5, e]
    · rw [lastT_no hk (by rw [e]; exact h5), lastT_no hk2 h5, lastT_take l k (by omega)]
theorem codeS_drop {l : List stpT} {n : Int} (h : codeS l n = 0) : codeS l.dropLast n = 0 := by
  by_cases hf : FormBad l n
  · rw [codeS_form hf] at h; cases h
  by_cases ht : Twice l
  · rw [codeS_twice hf ht] at h; cases h
  by_cases hl : Low l l.length
  · rw [codeS_low hf ht hl] at h; cases h
  refine codeS_ok ?_ ?_ ?_
  · rintro (h1 | h1 | ⟨s, hs, hw⟩)
    · exact hf (.inl h1)
    · exact hf (.inr (.inl (by simp at h1; omega)))
    · exact hf (.inr (.inr ⟨s, (List.dropLast_sublist l).subset hs, hw⟩))
  · rintro ⟨i, j, hji, hi, hj, a, b, c⟩
    have hi' : i < l.length := by simp at hi; omega
    have hj' : j < l.length := by simp at hj; omega
    simp only [List.getElem_dropLast] at a b c
    exact ht ⟨i, j, hji, hi', hj', a, b, c⟩
  · rintro ⟨k, hk, hkl, a, b⟩
    have hk' : k < l.length := by simp at hkl; omega
    have hk2 : k ≤ l.length - 1 := by simp at hkl; omega
    rw [lastT_take l k hk2] at b
    simp only [List.getElem_dropLast] at a b
    exact hl ⟨k, hk', hk', a, b⟩
theorem stpCs_take (l : List stpT) : ∀ n, n ≤ l.length → stpCs (l.take n) = (stpCs l).take (n * 4) := by
  induction l with
  | nil => intro n hn; simp [stpCs]
  | cons a l ih =>
    intro n hn
    match n, hn with
    | 0, _ => simp [stpCs]
    | n + 1, hn =>
      simp only [List.take_succ_cons, stpCs]
      rw [ih n (by simpa using hn), show (n + 1) * 4 = n * 4 + 1 + 1 + 1 + 1 by omega]
      simp
/-- All but the last, read off the same slice. -/
theorem rd_drop {w : World} {a : Option Addr} {c c' : Nat} {l : List stpT} (h : Rd w (.slice a l.length c) l.length 4 (stpCs l)) : Rd w (.slice a (l.length - 1) c') l.dropLast.length 4 (stpCs l.dropLast) := by
  have e : l.dropLast = l.take (l.length - 1) := List.dropLast_eq_take
  have hl : l.dropLast.length = l.length - 1 := by simp
  refine ⟨stpCs_length _, a, c', by rw [hl], fun h0 => ?_⟩
  obtain ⟨b, off, rfl, hb, hc⟩ := h.get (by omega)
  refine ⟨b, off, rfl, hb, fun j hj => ?_⟩
  rw [hc j (by omega), e, stpCs_take l _ (by omega), List.getElem?_take_of_lt (by rw [hl] at hj; exact hj)]
end Go.Proofs.YthkbllkhomjmbaaDoor
