/- 'append([]T{}, src...)': a copy in memory of the call's own; the model's l03Copy. -/
import Derived.Test.YthkbllkhomjmbaaGreatDoorSRight
import Derived.ArgAppend
import Derived.Deep.AppendLies
namespace Go.Proofs.YthkbllkhomjmbaaGreatDoor
open Go.RowKit

/-- Its run, the source read as xs. -/
theorem run_append_copy {P : Program} (w : World) (t ty e : TypeId) (i : TypeInfo) (z : Value) (sz bytes : Nat) (ht : P.underlying t = some (.slice e)) (hi : P.info? e = some i) (hz : i.zero = some z) (hsize : i.size = sz) (hby : i.bytes = bytes) (hzs : z.cells.size = sz) (hsz : 0 < sz)
    (g : Addr) (src : Value) (n : Nat) (xs : List Value) (hr : Rd w src n sz xs) (h63 : n ≤ maxLen) (hbytes : n * bytes ≤ 140737488355328) :
    ∃ v' w', (Builtin.append_ #[t, t] ty #[.slice (some g) 0 0, src]).run P w = .ok v' w' ∧ Own w' w.heap.size v' n sz xs ∧ w.grownBy w' none := by
  obtain ⟨hl, a, c, rfl, hc⟩ := hr
  by_cases h0 : 0 < n
  · obtain ⟨b, off, rfl, hbl, hcell⟩ := hc h0
    obtain ⟨v', w', h1, h2, h3⟩ := run_append_arg_grows (P := P) w t ty e i z sz bytes ht hi hz hsize hby hzs hsz g 0 0 [] (by simp) (by simp) ⟨b, off, none⟩ n c xs hl (fun j u hj => by
      have hj' : j < n * sz := by have := (List.getElem?_eq_some_iff.1 hj).1; omega
      rw [Addr.add_lit, hcell j hj', hj]) (by omega) (by omega) (by rw [Nat.zero_add]; exact hbytes)
    refine ⟨v', w', h1, ?_, h3⟩
    have := own_of_row h2
    simpa using this
  · obtain rfl : n = 0 := by omega
    have hx : xs = [] := List.eq_nil_of_length_eq_zero (by omega)
    subst hx
    refine ⟨.slice (some g) 0 0, w, ?_, ⟨by simp, _, _, rfl, fun h => absurd h (Nat.lt_irrefl 0)⟩, World.grownBy.refl w none⟩
    cases hsize
    have hfc : (Builtin.firstCells i.size 0 (.slice a 0 c)).run P w = .ok #[] w := by
      cases a with
      | none => exact run_firstCells_none w i.size 0 0 c
      | some a => exact run_firstCells_some w i.size 0 a 0 c [] (by simp) (by simp)
    simp [Builtin.append_, run_underlying ht, sizeOf, typeInfo, hi, Builtin.lenOf, Result.andThen, hfc, storeCells]
/-- For a region that draws. -/
theorem step_append_copy {P : Program} {w : World} {ops : Array Oper} {o : Oper} {a : Act} {K : Act → World → Prop} {Q : Exit → Act → World → Prop} {E : Prop} (hgd : o.guard = none) (s x : Operand) (t : TypeId)
    (ho : o.op = .call { callee := .builtin .append, args := #[s, x], argTypes := #[t, t] })
    (e : TypeId) (i : TypeInfo) (z : Value) (sz bytes : Nat) (ht : P.underlying t = some (.slice e)) (hi : P.info? e = some i) (hz : i.zero = some z) (hsize : i.size = sz) (hby : i.bytes = bytes) (hzs : z.cells.size = sz) (hsz : 0 < sz)
    (g : Addr) (hs : a.eval s = .slice (some g) 0 0) (src : Value) (hx : a.eval x = src) (n : Nat) (xs : List Value) (hr : Rd w src n sz xs) (h63 : n ≤ maxLen) (hbytes : n * bytes ≤ 140737488355328)
    (h : ∀ ad cap w', Own w' w.heap.size (.slice ad n cap) n sz xs → Below w.heap.size w w' → K (a.put o.dst (.slice ad n cap)) w') :
    if Region.wanted o (yielded ops a.tmps) = true then Oper.wp P o a w K Q else E := by
  have hw : Region.wanted o (yielded ops a.tmps) = true := by simp [Region.wanted, hgd]
  rw [if_pos hw]
  obtain ⟨v', w', hrun, h1, h2⟩ := run_append_copy (P := P) w t o.type e i z sz bytes ht hi hz hsize hby hzs hsz g src n xs hr h63 hbytes
  obtain ⟨ad, cap, rfl, _⟩ := id h1.2
  unfold Oper.wp
  simp [execOp, ho, resolve, invoke, builtin, hs, hx, hrun, Result.andThen]
  exact h ad cap w' h1 ⟨h2.os, h2.tape, h2.output, h2.size, fun k hk => h2.block k hk (by simp)⟩

theorem keep_alloc {W w1 : World} (hb : Below W.heap.size W w1) (o : Obj) : Below W.heap.size W (w1.alloc o) := hb.alloc hb.size o
theorem keep_next {W w1 w2 : World} (hb : Below W.heap.size W w1) (hn : Below w1.heap.size w1 w2) : Below W.heap.size W w2 := hb.trans (hn.mono hb.size)
theorem keepN {W w1 w2 : World} {n : Nat} {sv dv : Value} (hz : n + 2 ≤ W.heap.size) (hn : Below w1.heap.size w1 w2) (h : w1.cell? ⟨n, 0, none⟩ = some sv ∧ w1.cell? ⟨n, 1, none⟩ = some dv ∧ (w1.cell? ⟨n + 1, 0, none⟩).isSome = true ∧ (w1.cell? ⟨n + 1, 1, none⟩).isSome = true ∧ w1.frozen? ⟨n + 1, 0, none⟩ = false ∧ w1.frozen? ⟨n + 1, 1, none⟩ = false ∧ Below (n + 1) W w1) :
    w2.cell? ⟨n, 0, none⟩ = some sv ∧ w2.cell? ⟨n, 1, none⟩ = some dv ∧ (w2.cell? ⟨n + 1, 0, none⟩).isSome = true ∧ (w2.cell? ⟨n + 1, 1, none⟩).isSome = true ∧ w2.frozen? ⟨n + 1, 0, none⟩ = false ∧ w2.frozen? ⟨n + 1, 1, none⟩ = false ∧ Below (n + 1) W w2 := by
  obtain ⟨h0, h1, h2, h3, h4, h5, h6⟩ := h
  have hs := h6.size
  exact ⟨(hn.cell (p := ⟨n, 0, none⟩) (by simp; omega)).trans h0, (hn.cell (p := ⟨n, 1, none⟩) (by simp; omega)).trans h1, (hn.cell (p := ⟨n + 1, 0, none⟩) (by simp; omega)).symm ▸ h2, (hn.cell (p := ⟨n + 1, 1, none⟩) (by simp; omega)).symm ▸ h3, (hn.frozen (p := ⟨n + 1, 0, none⟩) (by simp; omega)).trans h4, (hn.frozen (p := ⟨n + 1, 1, none⟩) (by simp; omega)).trans h5, h6.trans (hn.mono (by omega))⟩
theorem alloc_below (w : World) (o : Obj) : Below w.heap.size w (w.alloc o) := (Below.refl _ w).alloc (Nat.le_refl _) o
theorem drew_below (w : World) : Below w.heap.size w w.drew := (Below.refl _ w).drew
theorem keepSet {W w1 : World} {n : Nat} {sv dv x y : Value} (h : w1.cell? ⟨n, 0, none⟩ = some sv ∧ w1.cell? ⟨n, 1, none⟩ = some dv ∧ (w1.cell? ⟨n + 1, 0, none⟩).isSome = true ∧ (w1.cell? ⟨n + 1, 1, none⟩).isSome = true ∧ w1.frozen? ⟨n + 1, 0, none⟩ = false ∧ w1.frozen? ⟨n + 1, 1, none⟩ = false ∧ Below (n + 1) W w1) :
    ((w1.setCell ⟨n + 1, 0, none⟩ x).setCell ⟨n + 1, 1, none⟩ y).cell? ⟨n, 0, none⟩ = some sv ∧ ((w1.setCell ⟨n + 1, 0, none⟩ x).setCell ⟨n + 1, 1, none⟩ y).cell? ⟨n, 1, none⟩ = some dv ∧ (((w1.setCell ⟨n + 1, 0, none⟩ x).setCell ⟨n + 1, 1, none⟩ y).cell? ⟨n + 1, 0, none⟩).isSome = true ∧ (((w1.setCell ⟨n + 1, 0, none⟩ x).setCell ⟨n + 1, 1, none⟩ y).cell? ⟨n + 1, 1, none⟩).isSome = true ∧ ((w1.setCell ⟨n + 1, 0, none⟩ x).setCell ⟨n + 1, 1, none⟩ y).frozen? ⟨n + 1, 0, none⟩ = false ∧ ((w1.setCell ⟨n + 1, 0, none⟩ x).setCell ⟨n + 1, 1, none⟩ y).frozen? ⟨n + 1, 1, none⟩ = false ∧ Below (n + 1) W ((w1.setCell ⟨n + 1, 0, none⟩ x).setCell ⟨n + 1, 1, none⟩ y) := by
  obtain ⟨h0, h1, h2, h3, h4, h5, h6⟩ := h
  refine ⟨?_, ?_, ?_, ?_, by simpa using h4, by simpa using h5, (h6.setCell (p := ⟨n + 1, 0, none⟩) (Nat.le_refl _) x).setCell (p := ⟨n + 1, 1, none⟩) (Nat.le_refl _) y⟩
  · rw [World.cell?_setCell_other (h := by simp), World.cell?_setCell_other (h := by simp)]; exact h0
  · rw [World.cell?_setCell_other (h := by simp), World.cell?_setCell_other (h := by simp)]; exact h1
  · rw [World.cell?_setCell_other (h := by simp), World.cell?_setCell_same' w1 _ x h2]; rfl
  · rw [World.cell?_setCell_same' _ _ y (by rw [World.cell?_setCell_other (h := by simp)]; exact h3)]; rfl

end Go.Proofs.YthkbllkhomjmbaaGreatDoor
