/- The model's l03Copy, with what an append to the copy wants; l03Put. -/
import Derived.Test.YthkbllkhomjmbaaGreatDoorLOut
namespace Go.Proofs.YthkbllkhomjmbaaGreatDoor
open Go.RowKit

/-- What a slice of the call's own may be appended to by. -/
def Grow (w : World) (lo e sz : Nat) (v : Value) (n : Nat) (xs : List Value) : Prop := (0 < n → w.ownsRow lo e sz v n xs) ∧ (n = 0 → ∃ a, v = .slice (some a) 0 0)
theorem Grow.lower {w : World} {lo lo' e sz n : Nat} {v : Value} {xs : List Value} (h : Grow w lo e sz v n xs) (hl : lo' ≤ lo) : Grow w lo' e sz v n xs := by
  refine ⟨fun h0 => ?_, h.2⟩
  obtain ⟨h1, h2 | ⟨g, cap, cur, q1, q2, q3⟩⟩ := h.1 h0
  · exact ⟨h1, .inl h2⟩
  · exact ⟨h1, .inr ⟨g, cap, cur, q1, by omega, q3⟩⟩
theorem Grow.keep {w w' : World} {lo e sz n : Nat} {v : Value} {xs : List Value} (h : Grow w lo e sz v n xs) (hk : ∀ k, lo ≤ k → k < w.heap.size → w'.heap[k]? = w.heap[k]?) : Grow w' lo e sz v n xs := by
  refine ⟨fun h0 => ?_, h.2⟩
  obtain ⟨h1, h2 | ⟨g, cap, cur, q1, q2, q3, q4⟩⟩ := h.1 h0
  · exact ⟨h1, .inl h2⟩
  · exact ⟨h1, .inr ⟨g, cap, cur, q1, q2, (hk g q2 (Array.getElem?_eq_some_iff.1 q3).1).trans q3, q4⟩⟩
theorem Grow.below {w w' : World} {lo e sz n B : Nat} {v : Value} {xs : List Value} (h : Grow w lo e sz v n xs) (hb : Below B w w') (hB : w.heap.size ≤ B) : Grow w' lo e sz v n xs :=
  h.keep fun k _ hk => hb.block k (by omega)
theorem Grow.set {w : World} {lo e sz n b i : Nat} {v x : Value} {xs : List Value} (h : Grow w lo e sz v n xs) (hp : b < lo) : Grow (w.setCell ⟨b, i, none⟩ x) lo e sz v n xs :=
  h.keep fun k h1 h2 => (grown_set (World.grownBy.refl w (some b)) (i := i) (x := x)).block k h2 (by simp; omega)
theorem run_append_copyA {P : Program} (w : World) (t ty e : TypeId) (i : TypeInfo) (z : Value) (sz bytes : Nat) (ht : P.underlying t = some (.slice e)) (hi : P.info? e = some i) (hz : i.zero = some z) (hsize : i.size = sz) (hby : i.bytes = bytes) (hzs : z.cells.size = sz) (hsz : 0 < sz)
    (g : Addr) (src : Value) (n : Nat) (xs : List Value) (hr : Rd w src n sz xs) (h63 : n ≤ maxLen) (hbytes : n * bytes ≤ 140737488355328) :
    ∃ v' w', (Builtin.append_ #[t, t] ty #[.slice (some g) 0 0, src]).run P w = .ok v' w' ∧ Own w' w.heap.size v' n sz xs ∧ Grow w' w.heap.size e sz v' n xs ∧ w.grownBy w' none := by
  obtain ⟨hl, a, c, rfl, hc⟩ := hr
  by_cases h0 : 0 < n
  · obtain ⟨b, off, rfl, hbl, hcell⟩ := hc h0
    obtain ⟨v', w', h1, h2, h3⟩ := run_append_arg_grows (P := P) w t ty e i z sz bytes ht hi hz hsize hby hzs hsz g 0 0 [] (by simp) (by simp) ⟨b, off, none⟩ n c xs hl (fun j u hj => by
      have hj' : j < n * sz := by have := (List.getElem?_eq_some_iff.1 hj).1; omega
      rw [Addr.add_lit, hcell j hj', hj]) (by omega) (by omega) (by rw [Nat.zero_add]; exact hbytes)
    rw [Nat.zero_add, List.nil_append] at h2
    exact ⟨v', w', h1, own_of_row h2, ⟨fun _ => h2, fun e => absurd e (by omega)⟩, h3⟩
  · obtain rfl : n = 0 := by omega
    have hx : xs = [] := List.eq_nil_of_length_eq_zero (by omega)
    subst hx
    refine ⟨.slice (some g) 0 0, w, ?_, ⟨by simp, _, _, rfl, fun h => absurd h (Nat.lt_irrefl 0)⟩, ⟨fun h => absurd h (Nat.lt_irrefl 0), fun _ => ⟨_, rfl⟩⟩, World.grownBy.refl w none⟩
    cases hsize
    have hfc : (Builtin.firstCells i.size 0 (.slice a 0 c)).run P w = .ok #[] w := by
      cases a with
      | none => exact run_firstCells_none w i.size 0 0 c
      | some a => exact run_firstCells_some w i.size 0 a 0 c [] (by simp) (by simp)
    simp [Builtin.append_, run_underlying ht, sizeOf, typeInfo, hi, Builtin.lenOf, Result.andThen, hfc, storeCells]
def FMadeA (e : TypeId) (w : World) (F : FM) (x : Ending) (w' : World) : Prop := ∃ sv dv, x = .returned (.agg #[sv, dv]) ∧ FOwn w' w.heap.size sv dv F ∧ Grow w' w.heap.size e 2 dv F.dir.length (dirs F.dir) ∧ Below w.heap.size w w'
/-- For a region that draws. -/
theorem step_append_copyA {P : Program} {w : World} {ops : Array Oper} {o : Oper} {a : Act} {K : Act → World → Prop} {Q : Exit → Act → World → Prop} {E : Prop} (hgd : o.guard = none) (s x : Operand) (t : TypeId)
    (ho : o.op = .call { callee := .builtin .append, args := #[s, x], argTypes := #[t, t] })
    (e : TypeId) (i : TypeInfo) (z : Value) (sz bytes : Nat) (ht : P.underlying t = some (.slice e)) (hi : P.info? e = some i) (hz : i.zero = some z) (hsize : i.size = sz) (hby : i.bytes = bytes) (hzs : z.cells.size = sz) (hsz : 0 < sz)
    (g : Addr) (hs : a.eval s = .slice (some g) 0 0) (src : Value) (hx : a.eval x = src) (n : Nat) (xs : List Value) (hr : Rd w src n sz xs) (h63 : n ≤ maxLen) (hbytes : n * bytes ≤ 140737488355328)
    (h : ∀ ad cap w', Own w' w.heap.size (.slice ad n cap) n sz xs → Grow w' w.heap.size e sz (.slice ad n cap) n xs → Below w.heap.size w w' → K (a.put o.dst (.slice ad n cap)) w') :
    if Region.wanted o (yielded ops a.tmps) = true then Oper.wp P o a w K Q else E := by
  have hw : Region.wanted o (yielded ops a.tmps) = true := by simp [Region.wanted, hgd]
  rw [if_pos hw]
  obtain ⟨v', w', hrun, h1, h3, h2⟩ := run_append_copyA (P := P) w t o.type e i z sz bytes ht hi hz hsize hby hzs hsz g src n xs hr h63 hbytes
  obtain ⟨ad, cap, rfl, _⟩ := id h1.2
  unfold Oper.wp
  simp [execOp, ho, resolve, invoke, builtin, hs, hx, hrun, Result.andThen]
  exact h ad cap w' h1 h3 ⟨h2.os, h2.tape, h2.output, h2.size, fun k hk => h2.block k hk (by simp)⟩

end Go.Proofs.YthkbllkhomjmbaaGreatDoor
