/- A block known whole; what a law keeps of a variable. -/
import Derived.Test.YtcckpkcjekcajaaDoorLFlash
namespace Go.Proofs.YtcckpkcjekcajaaDoor
open Go.RowKit

/-- Block n holds just these cells. -/
def Bx (w : World) (n : Nat) (T : TypeId) (vs : Array Value) : Prop := w.heap[n]? = some (.cells vs T (0, 0))
theorem bx_new (w : World) (T : TypeId) (vs : Array Value) : Bx (w.alloc (.cells vs T)) w.heap.size T vs := heap_alloc_new w _
theorem Bx.lt {w : World} {n : Nat} {T : TypeId} {vs : Array Value} (h : Bx w n T vs) : n < w.heap.size := (Array.getElem?_eq_some_iff.1 h).1
theorem Bx.below {w w' : World} {n B : Nat} {T : TypeId} {vs : Array Value} (h : Bx w n T vs) (hb : Below B w w') (hB : n < B) : Bx w' n T vs := (hb.block n hB).trans h
theorem Bx.next {w w' : World} {n : Nat} {T : TypeId} {vs : Array Value} (h : Bx w n T vs) (hb : Below w.heap.size w w') : Bx w' n T vs := (hb.block n h.lt).trans h
theorem Bx.two {w w' : World} {n : Nat} {T : TypeId} {vs : Array Value} {s d : Option Nat} (h : Bx w n T vs) (ht : Two s d w w') (h1 : some n ≠ s) (h2 : some n ≠ d) : Bx w' n T vs := (ht.block n h.lt h1 h2).trans h
theorem Bx.grown {w w' : World} {n : Nat} {T : TypeId} {vs : Array Value} {s : Option Nat} (h : Bx w n T vs) (hg : w.grownBy w' s) (h1 : some n ≠ s) : Bx w' n T vs := (hg.block n h.lt h1).trans h
theorem Bx.cell {w : World} {n : Nat} {T : TypeId} {vs : Array Value} (h : Bx w n T vs) (j : Nat) : w.cell? ⟨n, j, none⟩ = vs[j]? := cell_of_row w n j _ _ _ h
theorem Bx.frozen {w : World} {n : Nat} {T : TypeId} {vs : Array Value} (h : Bx w n T vs) (j : Nat) : w.frozen? ⟨n, j, none⟩ = false := frozen_of_row w n j _ _ h
theorem Bx.c0 {w : World} {n : Nat} {T : TypeId} {a b : Value} (h : Bx w n T #[a, b]) : w.cell? ⟨n, 0, none⟩ = some a := h.cell 0
theorem Bx.c1 {w : World} {n : Nat} {T : TypeId} {a b : Value} (h : Bx w n T #[a, b]) : w.cell? ⟨n, 1, none⟩ = some b := h.cell 1
theorem Bx.q0 {w : World} {n : Nat} {T : TypeId} {a b c d : Value} (h : Bx w n T #[a, b, c, d]) : w.cell? ⟨n, 0, none⟩ = some a := h.cell 0
theorem Bx.q1 {w : World} {n : Nat} {T : TypeId} {a b c d : Value} (h : Bx w n T #[a, b, c, d]) : w.cell? ⟨n, 1, none⟩ = some b := h.cell 1
theorem Bx.q2 {w : World} {n : Nat} {T : TypeId} {a b c d : Value} (h : Bx w n T #[a, b, c, d]) : w.cell? ⟨n, 2, none⟩ = some c := h.cell 2
theorem Bx.q3 {w : World} {n : Nat} {T : TypeId} {a b c d : Value} (h : Bx w n T #[a, b, c, d]) : w.cell? ⟨n, 3, none⟩ = some d := h.cell 3
theorem Bx.t0 {w : World} {n : Nat} {T : TypeId} {a b c : Value} (h : Bx w n T #[a, b, c]) : w.cell? ⟨n, 0, none⟩ = some a := h.cell 0
theorem Bx.t1 {w : World} {n : Nat} {T : TypeId} {a b c : Value} (h : Bx w n T #[a, b, c]) : w.cell? ⟨n, 1, none⟩ = some b := h.cell 1
theorem Bx.t2 {w : World} {n : Nat} {T : TypeId} {a b c : Value} (h : Bx w n T #[a, b, c]) : w.cell? ⟨n, 2, none⟩ = some c := h.cell 2
theorem Bx.set {w : World} {n j : Nat} {T : TypeId} {vs : Array Value} (h : Bx w n T vs) (x : Value) : Bx (w.setCell ⟨n, j, none⟩ x) n T (vs.setIfInBounds j x) := heap_setCell_same w n j _ T x h
theorem Bx.other {w : World} {n : Nat} {T : TypeId} {vs : Array Value} (h : Bx w n T vs) (p : Addr) (x : Value) (hp : n ≠ p.block) : Bx (w.setCell p x) n T vs := (Below.heap_setCell w p x n hp).trans h
theorem below_alloc1 (w : World) (o : Obj) : Below w.heap.size w (w.alloc o) := (Below.refl _ w).alloc (Nat.le_refl _) o
theorem size_alloc1 (w : World) (o : Obj) : (w.alloc o).heap.size = w.heap.size + 1 := by simp
theorem FOwn.two {w w' : World} {lo : Nat} {sv dv : Value} {F : FM} {s d : Option Nat} (h : FOwn w lo sv dv F) (ht : Two s d w w') (hne : ∀ k, (blk sv F.sec.length = some k ∨ blk dv F.dir.length = some k) → some k ≠ s ∧ some k ≠ d) : FOwn w' lo sv dv F :=
  ⟨h.1.two ht fun k hk => hne k (.inl hk), h.2.1.two ht fun k hk => hne k (.inr hk), h.2.2⟩
theorem FOwn.in {w : World} {lo : Nat} {sv dv : Value} {F : FM} (h : FOwn w lo sv dv F) : ∀ k, (blk sv F.sec.length = some k ∨ blk dv F.dir.length = some k) → lo ≤ k ∧ k < w.heap.size := fun k hk => by
  rcases hk with hk | hk
  · exact h.1.blk k hk
  · exact h.2.1.blk k hk
theorem FMarked.below {w w' : World} {lo n m k B : Nat} {sv dv : Value} (h : FMarked w lo sv dv n m k) (hb : Below B w w') (hB : w.heap.size ≤ B) : FMarked w' lo sv dv n m k := ⟨h.1.below hb hB, h.2.1.below hb hB, h.2.2⟩
theorem Two.keepBelow {s d : Option Nat} {w w' : World} {lo : Nat} (ht : Two s d w w') (h : ∀ k, (s = some k ∨ d = some k) → lo ≤ k) (hw : lo ≤ w.heap.size) : Below lo w w' := ht.below (fun k e => h k (.inl e)) (fun k e => h k (.inr e)) hw
end Go.Proofs.YtcckpkcjekcajaaDoor
