/- What SnapRead and Touches answer, and the map of the first steps that write each block; free of any walk. -/
import Derived.Test.YtcckpkcjekcajaaVM
import Derived.Test.YtcckpkcjekcajaaM3
import Derived.Test.YtcckpkcjekcajaaVMap
namespace Go.Proofs.Ytcckpkcjekcajaa
open Go.RowKit

/-- What SnapRead answers. -/
noncomputable def snapR (base : List ByteArray) (l : List stpT) (b : Int) : ByteArray × Int :=
  if applyC base l = 0 then (if 0 ≤ b ∧ b < (base.length : Int) then (snapB base l b.toNat, 0) else (⟨#[]⟩, 8)) else (⟨#[]⟩, applyC base l)
theorem snapR_no {base : List ByteArray} {l : List stpT} {b : Int} (h : applyC base l ≠ 0) : snapR base l b = (⟨#[]⟩, applyC base l) := by unfold snapR; rw [if_neg h]
theorem snapR_out {base : List ByteArray} {l : List stpT} {b : Int} (h : applyC base l = 0) (hb : ¬ (0 ≤ b ∧ b < (base.length : Int))) : snapR base l b = (⟨#[]⟩, 8) := by unfold snapR; rw [if_pos h, if_neg hb]
theorem snapR_in {base : List ByteArray} {l : List stpT} {i : Nat} (h : applyC base l = 0) (hi : i < base.length) : snapR base l (i : Int) = (snapB base l i, 0) := by
  unfold snapR; rw [if_pos h, if_pos ⟨by omega, by omega⟩, Int.toNat_natCast]
theorem snapB_made {base : List ByteArray} {l : List stpT} {i k : Nat} (h : applyC base l = 0) (ht : touchI l (i : Int) = (k : Int)) : ∃ hk : k < l.length, l[k].1 ≠ 5 ∧ snapB base l i = madeS base l[k] := by
  obtain ⟨h1, h2, -⟩ := applyC_ok h
  obtain ⟨-, -, hok⟩ := code_ok h2
  obtain ⟨hk, h5, -, he⟩ := snapB_some (base := base) ht
  refine ⟨hk, h5, ?_⟩
  rw [he]
  unfold madeS
  rw [if_pos ⟨h1, h5, hok _ (List.getElem_mem hk)⟩]
theorem snapB_base {base : List ByteArray} {l : List stpT} {i : Nat} (ht : touchI l (i : Int) < 0) (hi : i < base.length) : snapB base l i = base[i] := by
  rw [snapB_none ht, List.getD_eq_getElem?_getD, List.getElem?_eq_getElem hi]; rfl
theorem snap_apply {base : List ByteArray} {l : List stpT} (h : applyC base l = 0) {i : Nat} (hi : i < base.length) : (applyL base l)[i]? = some (snapB base l i) := by
  obtain ⟨-, h2, -⟩ := applyC_ok h
  obtain ⟨-, -, hok⟩ := code_ok h2
  exact snapB_apply h2 (fun x hx h5 => (ok_from (hok x hx) h5).2.2.1) hi
theorem makeS_size8 {n k t f : Int} {d src : ByteArray} (h : stepB n k t f d = true) (h5 : k ≠ 5) (hs : src.size = 8) : (makeS (k, t, f, d) src).size = 8 := by
  obtain ⟨-, hc⟩ := (stepB_iff ..).1 h
  unfold makeS
  rcases hc with ⟨rfl, h1, hf, h2⟩ | ⟨rfl, h1, hf, h2⟩ | ⟨rfl, h1, h3, h2⟩ | ⟨rfl, h1, h3, h2⟩ | ⟨h, -⟩
  · rfl
  · exact h2
  · exact hs
  · show (xorS src d).size = 8
    unfold xorS; rw [if_pos ⟨hs, h2⟩, xor8_size]
  · exact absurd h h5
theorem snap_size {base : List ByteArray} {l : List stpT} (h : applyC base l = 0) {i : Nat} (hi : i < base.length) : (snapB base l i).size = 8 := by
  obtain ⟨h1, h2, -⟩ := applyC_ok h
  obtain ⟨-, -, hok⟩ := code_ok h2
  have hi8 := (imgB_iff base).1 h1
  rcases touch_cases l (i : Int) with ⟨e, -⟩ | ⟨k, hk, e, -⟩
  · rw [snapB_base (by omega) hi]; exact hi8.2 _ (List.getElem_mem hi)
  · obtain ⟨hk, h5, -, he⟩ := snapB_some (base := base) e
    rw [he]
    have hst := hok _ (List.getElem_mem hk)
    obtain ⟨f0, f1, -⟩ := ok_from hst h5
    refine makeS_size8 hst h5 ?_
    rw [List.getD_eq_getElem?_getD, List.getElem?_eq_getElem (show l[k].2.2.1.toNat < base.length by omega)]
    exact hi8.2 _ (List.getElem_mem _)
/-- The map that is made of the steps. -/
def mapT (l : List stpT) : Int → Option Int := fun b => (touchL b l 0).map Int.ofNat
theorem touchL_snoc (b : Int) (x : stpT) : ∀ (l : List stpT) (m : Nat), touchL b (l ++ [x]) m = match touchL b l m with | some k => some k | none => if hitS b x then some (m + l.length) else none
  | [], m => by rw [List.nil_append, touchL_cons]; rfl
  | y :: l, m => by
    rw [List.cons_append, touchL_cons, touchL_cons]
    by_cases h : hitS b y
    · rw [if_pos h, if_pos h]
    · rw [if_neg h, if_neg h, touchL_snoc b x l (m + 1), List.length_cons, show m + 1 + l.length = m + (l.length + 1) by omega]
theorem mapT_nil : mapT [] = fun _ => none := rfl
theorem mapT_step {l : List stpT} {k : Nat} (hk : k < l.length) (b : Int) : mapT (l.take (k + 1)) b = match mapT (l.take k) b with | some j => some j | none => if hitS b l[k] then some (k : Int) else none := by
  unfold mapT
  rw [List.take_succ_eq_append_getElem hk, touchL_snoc, List.length_take, Nat.min_eq_left (by omega)]
  cases touchL b (l.take k) 0 with
  | some j => rfl
  | none =>
    simp only [Option.map_none, Nat.zero_add]
    by_cases h : hitS b l[k]
    · rw [if_pos h, if_pos h]; rfl
    · rw [if_neg h, if_neg h]; rfl
theorem mapT_there {l : List stpT} {k : Nat} (hk : k < l.length) {j : Int} (h : mapT (l.take k) l[k].2.1 = some j) : mapT (l.take k) = mapT (l.take (k + 1)) := by
  funext b
  rw [mapT_step hk]
  cases hb : mapT (l.take k) b with
  | some i => rfl
  | none =>
    by_cases hh : hitS b l[k]
    · rw [← hh.2, h] at hb; cases hb
    · rw [if_neg hh]
theorem mapT_label {l : List stpT} {k : Nat} (hk : k < l.length) (h5 : l[k].1 = 5) : mapT (l.take k) = mapT (l.take (k + 1)) := by
  funext b
  rw [mapT_step hk]
  cases mapT (l.take k) b with
  | some i => rfl
  | none => rw [if_neg (fun hh => hh.1 h5)]
theorem mapT_new {l : List stpT} {k : Nat} (hk : k < l.length) (h5 : l[k].1 ≠ 5) (h : mapT (l.take k) l[k].2.1 = none) : updI (mapT (l.take k)) l[k].2.1 (k : Int) = mapT (l.take (k + 1)) := by
  funext b
  rw [mapT_step hk]
  unfold updI
  by_cases hb : b = l[k].2.1
  · subst hb
    rw [if_pos rfl, h]
    simp only
    rw [if_pos ⟨h5, rfl⟩]
  · rw [if_neg hb]
    cases mapT (l.take k) b with
    | some i => rfl
    | none => rw [if_neg (fun hh => hb hh.2.symm)]
theorem mapT_touch (l : List stpT) (b : Int) : touchI l b = match mapT l b with | some j => j | none => -1 := by
  unfold touchI mapT
  cases touchL b l 0 <;> rfl
theorem mapT_lt {l : List stpT} {b j : Int} (h : mapT l b = some j) : 0 ≤ j ∧ j < (l.length : Int) ∧ touchI l b = j := by
  have e := mapT_touch l b
  rw [h] at e
  simp only at e
  have := touchI_lt l b
  refine ⟨?_, by omega, e⟩
  unfold mapT at h
  cases ht : touchL b l 0 with
  | none => rw [ht] at h; cases h
  | some k => rw [ht] at h; cases h; exact Int.natCast_nonneg k
theorem mapT_no {l : List stpT} {b : Int} (h : mapT l b = none) : touchI l b = -1 := by
  have e := mapT_touch l b
  rw [h] at e; exact e
end Go.Proofs.Ytcckpkcjekcajaa
