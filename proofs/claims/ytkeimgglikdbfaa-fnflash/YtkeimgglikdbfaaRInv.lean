/- A drawn region by an invariant over what has come up: one goal an operation, however many orders. -/
import Derived.Test.YtkeimgglikdbfaaM1
import Derived.OrdersHeld
namespace Go.Proofs.Ytkeimgglikdbfaa
open Go.RowKit

/-- What an operation waits for stands ahead of it. -/
def ahead (ops : Array Oper) : Bool := (List.range ops.size).all fun i => (ops[i]?.map fun o => o.after.all fun e => decide (e.on < i)).getD true

section
variable {P : Program} {ops : Array Oper} {Q : Exit → Act → World → Prop}

/-- Operation i keeps the invariant. -/
def RStep (P : Program) (ops : Array Oper) (Q : Exit → Act → World → Prop) (J : (Nat → Bool) → Act → World → Prop) (i : Nat) : Prop :=
  ∀ o, ops[i]? = some o → ∀ l a w, J l a w → l i = false → (∀ e ∈ o.after, Region.binds .any e = true → l e.on = true) → ∀ K : Act → World → Prop, (∀ a' w', J (fun j => j == i || l j) a' w' → K a' w') →
    (if Region.wanted o (yielded ops a.tmps) = true then o.wp P a w K Q else K (a.put o.dst undef) w)
def RSteps (P : Program) (ops : Array Oper) (Q : Exit → Act → World → Prop) (J : (Nat → Bool) → Act → World → Prop) : Nat → Prop
  | 0 => True
  | n + 1 => RSteps P ops Q J n ∧ RStep P ops Q J n
theorem RSteps.get {J : (Nat → Bool) → Act → World → Prop} : ∀ {n i : Nat}, RSteps P ops Q J n → i < n → RStep P ops Q J i
  | n + 1, i, h, hi => if e : i = n then e ▸ h.2 else h.1.get (by omega)

theorem ahead_spec (h : ahead ops = true) {i : Nat} {o : Oper} (ho : ops[i]? = some o) {e : _} (he : e ∈ o.after) : e.on < i := by
  unfold ahead at h
  rw [List.all_eq_true] at h
  have hlt : i < ops.size := (Array.getElem?_eq_some_iff.1 ho).1
  have := h i (List.mem_range.2 hlt)
  rw [ho] at this
  simp only [Option.map_some, Option.getD_some] at this
  rw [Array.all_eq_true'] at this
  exact of_decide_eq_true (this e he)

def falses (l : Array Bool) : Nat := l.toList.countP fun b => !b
theorem falses_set (l : Array Bool) (i : Nat) (h : l.getD i true = false) : falses (l.setIfInBounds i true) + 1 = falses l := by
  have hi : i < l.size := by
    rcases Nat.lt_or_ge i l.size with h' | h'
    · exact h'
    · simp [Array.getElem?_eq_none h'] at h
  have hv : l.toList[i]'(by simpa using hi) = false := by simp [hi] at h; simpa using h
  unfold falses
  rw [Array.toList_setIfInBounds]
  have := List.countP_set (p := fun b => !b) (l := l.toList) (i := i) (a := true) (by simpa using hi)
  rw [this, hv]
  have hp : 0 < l.toList.countP fun b => !b := List.countP_pos_iff.2 ⟨false, hv ▸ List.getElem_mem _, rfl⟩
  have h1 : (if (!false) = true then 1 else 0) = 1 := rfl
  have h2 : (if (!true) = true then 1 else 0) = 0 := rfl
  rw [h1, h2]
  omega

theorem all_listed (ha : ahead ops = true) {listed : Array Bool} (hz : listed.size = ops.size) (hr : Region.ready .any ops listed = []) : ∀ i, listed.getD i true = true := by
  intro i
  induction i using Nat.strongRecOn with
  | _ i ih =>
    cases hl : listed.getD i true with
    | true => rfl
    | false =>
      have hi : i < listed.size := by
        rcases Nat.lt_or_ge i listed.size with h' | h'
        · exact h'
        · simp [Array.getElem?_eq_none h'] at hl
      have : i ∈ Region.ready .any ops listed := by
        refine mem_ready.2 ⟨hl, ops[i]'(by omega), by simp, fun e he _ => ?_⟩
        have hlt := ahead_spec ha (i := i) (o := ops[i]'(by omega)) (by simp) he
        have h1 := ih e.on hlt
        have : e.on < listed.size := by omega
        simp [this] at h1 ⊢
        exact h1
      rw [hr] at this
      cases this

theorem wpAny_inv (J : (Nat → Bool) → Act → World → Prop) (ha : ahead ops = true)
    (hstep : RSteps P ops Q J ops.size) (hdone : ∀ a w, J (fun _ => true) a w → Q .normal a w) :
    ∀ (fuel : Nat) (listed : Array Bool) (a : Act) (w : World), listed.size = ops.size → falses listed ≤ fuel → J (fun i => listed.getD i true) a w → wpAny P .any ops Q fuel listed a w := by
  intro fuel
  induction fuel with
  | zero =>
    intro listed a w hz hf hJ
    have hr : Region.ready .any ops listed = [] := by
      rw [List.eq_nil_iff_forall_not_mem]
      intro i hi
      have := falses_set listed i (mem_ready.1 hi).1
      omega
    refine ⟨hr, hdone a w ?_⟩
    have : (fun i => listed.getD i true) = fun _ => true := funext (all_listed ha hz hr)
    rw [← this]; exact hJ
  | succ fuel ih =>
    intro listed a w hz hf hJ
    refine ⟨fun hr => hdone a w ?_, fun i hi => ?_⟩
    · have : (fun i => listed.getD i true) = fun _ => true := funext (all_listed ha hz hr)
      rw [← this]; exact hJ
    · obtain ⟨hl, o, ho, hall⟩ := mem_ready.1 hi
      have hlt : i < ops.size := (Array.getElem?_eq_some_iff.1 ho).1
      have hs := hstep.get hlt o ho _ a w hJ hl (fun e he hbe => by
        have h1 := hall e he hbe
        rcases Nat.lt_or_ge e.on listed.size with h' | h'
        · simp [h'] at h1 ⊢; exact h1
        · simp [Array.getElem?_eq_none h'] at h1) (wpAny P .any ops Q fuel (listed.setIfInBounds i true)) (fun a' w' hJ' => by
          refine ih _ a' w' (by simpa using hz) (by have := falses_set listed i hl; omega) ?_
          have : (fun j => (listed.setIfInBounds i true).getD j true) = fun j => j == i || listed.getD j true := by
            funext j
            by_cases hji : j = i
            · subst hji
              simp [hz ▸ hlt]
            · rw [getD_set_ne true (Ne.symm hji)]; simp [hji]
          rw [this]; exact hJ')
      unfold wpOp
      rw [ho]
      dsimp only
      split at hs
      · rename_i hw; rw [if_pos hw]; exact .inl hs
      · rename_i hw; rw [if_neg hw]; exact hs

theorem wp_region_inv (J : (Nat → Bool) → Act → World → Prop) {id : Nat} {a : Act} {w : World} (hm : P.follows .mixedOrders = true) (ha : ahead ops = true)
    (h0 : J (fun i => decide (ops.size ≤ i)) a w.drew) (hstep : RSteps P ops Q J ops.size) (hdone : ∀ a w, J (fun _ => true) a w → Q .normal a w) : (Code.region id ops true).wp P Q a w := by
  refine wp_region_any hm (wpAny_inv J ha hstep hdone _ _ _ _ (by simp) (by unfold falses; exact Nat.le_trans List.countP_le_length (by simp)) ?_)
  have : (fun i => (Array.replicate ops.size false).getD i true) = fun i => decide (ops.size ≤ i) := by
    funext i
    rcases Nat.lt_or_ge i ops.size with h | h
    · simp [h]
    · simp [h, Nat.not_lt.2 h]
  rw [this]; exact h0
theorem wp_region_inv0 (J : Act → (Nat → Bool) → Act → World → Prop) {id : Nat} {a : Act} {w : World} (hm : P.follows .mixedOrders = true) (ha : ahead ops = true)
    (h0 : J a (fun i => decide (ops.size ≤ i)) a w.drew) (hstep : RSteps P ops Q (J a) ops.size) (hdone : ∀ a' w, J a (fun _ => true) a' w → Q .normal a' w) : (Code.region id ops true).wp P Q a w := wp_region_inv (J a) hm ha h0 hstep hdone
end
end Go.Proofs.Ytkeimgglikdbfaa
