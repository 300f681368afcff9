/- Objects of a law: slices of its own, between two bounds; free of any program. -/
import Derived.Test.YtcckpkcjekcajaaDoorLBox
namespace Go.Proofs.YtcckpkcjekcajaaDoor
open Go.RowKit

/-- A slice of the call's own whose block lies from lo on and below hi. -/
structure Ob (w : World) (lo hi : Nat) (v : Value) (n sz : Nat) (xs : List Value) : Prop where
  own : Own w lo v n sz xs
  top : ∀ k, blk v n = some k → k < hi
section
variable {w w' : World} {lo hi n sz : Nat} {v : Value} {xs ys : List Value}
theorem Ob.new (h : Own w' w.heap.size v n sz xs) : Ob w' w.heap.size w'.heap.size v n sz xs := ⟨h, fun k hk => (h.blk k hk).2⟩
theorem Ob.below {B : Nat} (h : Ob w lo hi v n sz xs) (hb : Below B w w') (hB : w.heap.size ≤ B) : Ob w' lo hi v n sz xs := ⟨h.own.below hb hB, h.top⟩
theorem Ob.rd (h : Ob w lo hi v n sz xs) : Rd w v n sz xs := h.own.rd
theorem Ob.range (h : Ob w lo hi v n sz xs) : ∀ k, blk v n = some k → lo ≤ k ∧ k < hi := fun k hk => ⟨(h.own.blk k hk).1, h.top k hk⟩
theorem Ob.marked (h : Ob w lo hi v n sz xs) (h' : Own w' lo v n sz ys) : Ob w' lo hi v n sz ys := ⟨h', h.top⟩
theorem Ob.grown {lo2 hi2 m : Nat} {u : Value} (h : Ob w lo hi v n sz xs) (hg : w.grownBy w' (blk u m)) (hu : ∀ k, blk u m = some k → lo2 ≤ k ∧ k < hi2) (hd : hi ≤ lo2 ∨ hi2 ≤ lo) : Ob w' lo hi v n sz xs :=
  ⟨h.own.two (two_left (d := none) hg) (fun k hk => ⟨fun e => by
    have h1 := h.range k hk
    have h2 := hu k e.symm
    omega, by simp⟩), h.top⟩
theorem grown_below {lo2 hi2 m : Nat} {u : Value} (hg : w.grownBy w' (blk u m)) (hu : ∀ k, blk u m = some k → lo2 ≤ k ∧ k < hi2) (hl : lo2 ≤ w.heap.size) : Below lo2 w w' :=
  ⟨hg.os, hg.tape, hg.output, hg.size, fun k hk => hg.block k (by omega) (fun e => by have := hu k e.symm; omega)⟩
theorem Bx.mark {lo2 hi2 m b : Nat} {T : TypeId} {vs : Array Value} {u : Value} (h : Bx w b T vs) (hg : w.grownBy w' (blk u m)) (hu : ∀ k, blk u m = some k → lo2 ≤ k ∧ k < hi2) (hd : b < lo2 ∨ hi2 ≤ b) : Bx w' b T vs :=
  h.grown hg (fun e => by have := hu b e.symm; omega)
end
end Go.Proofs.YtcckpkcjekcajaaDoor
