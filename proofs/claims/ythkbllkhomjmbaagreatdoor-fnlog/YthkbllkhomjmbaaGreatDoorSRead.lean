/- The model's FlashRead. -/
import Derived.Test.YthkbllkhomjmbaaGreatDoorSGet
namespace Go.Proofs.YthkbllkhomjmbaaGreatDoor
open Go.RowKit

open Classical in
noncomputable def readOf (F : FM) (at_ : Int) : OM :=
  if Right F then (if 0 ≤ at_ ∧ at_ < F.sec.length then ⟨F, getOf F at_, 0⟩ else illOf 8) else illOf 1

theorem FOwn.other {w : World} {lo : Nat} {sv dv : Value} {F : FM} (h : FOwn w lo sv dv F) (p : Addr) (x : Value) (hp : p.block < lo) : FOwn (w.setCell p x) lo sv dv F :=
  ⟨h.1.other p x (fun k hk => by have := (h.1.blk k hk).1; omega), h.2.1.other p x (fun k hk => by have := (h.2.1.blk k hk).1; omega), h.2.2⟩
/-- The four cells of an answer's block. -/
theorem out_cells {K : Nat} {W w' : World} {T : TypeId} {a b c d : Value} (hb : Below K (W.alloc (.cells #[a, b, c, d] T)) w') (hK : W.heap.size < K) :
    (w'.cell? ⟨W.heap.size, 0, none⟩ = some a ∧ w'.cell? ⟨W.heap.size, 1, none⟩ = some b ∧ w'.cell? ⟨W.heap.size, 2, none⟩ = some c ∧ w'.cell? ⟨W.heap.size, 3, none⟩ = some d) ∧
    w'.frozen? ⟨W.heap.size, 0, none⟩ = false ∧ w'.frozen? ⟨W.heap.size, 1, none⟩ = false ∧ w'.frozen? ⟨W.heap.size, 2, none⟩ = false ∧ w'.frozen? ⟨W.heap.size, 3, none⟩ = false := by
  have hc : ∀ j, w'.cell? ⟨W.heap.size, j, none⟩ = (#[a, b, c, d] : Array Value)[j]? := fun j => (hb.cell (p := ⟨W.heap.size, j, none⟩) hK).trans (World.cell?_alloc_new (w := W) #[a, b, c, d] T j)
  have hf : ∀ j, w'.frozen? ⟨W.heap.size, j, none⟩ = false := fun j => (hb.frozen (p := ⟨W.heap.size, j, none⟩) hK).trans (frozen_of_row _ W.heap.size j _ _ (heap_alloc_new W _))
  exact ⟨⟨hc 0, hc 1, hc 2, hc 3⟩, hf 0, hf 1, hf 2, hf 3⟩

/-- A boxed flash at n, an answer's block behind it. -/
def BoxOut (n : Nat) (sv dv : Value) (w : World) : Prop := w.cell? ⟨n, 0, none⟩ = some sv ∧ w.cell? ⟨n, 1, none⟩ = some dv ∧ (w.cell? ⟨n + 1, 0, none⟩).isSome = true ∧ (w.cell? ⟨n + 1, 1, none⟩).isSome = true ∧ (w.cell? ⟨n + 1, 2, none⟩).isSome = true ∧ (w.cell? ⟨n + 1, 3, none⟩).isSome = true ∧ w.frozen? ⟨n + 1, 0, none⟩ = false ∧ w.frozen? ⟨n + 1, 1, none⟩ = false ∧ w.frozen? ⟨n + 1, 2, none⟩ = false ∧ w.frozen? ⟨n + 1, 3, none⟩ = false
theorem boxOut_new (w : World) (sv dv a b c d : Value) (T U : TypeId) : BoxOut w.heap.size sv dv ((w.alloc (.cells #[sv, dv] T)).alloc (.cells #[a, b, c, d] U)) := by
  have e : (w.alloc (.cells #[sv, dv] T)).heap.size = w.heap.size + 1 := by simp
  obtain ⟨⟨c0, c1, c2, c3⟩, f0, f1, f2, f3⟩ := out_cells (Below.refl ((w.alloc (.cells #[sv, dv] T)).heap.size + 1) ((w.alloc (.cells #[sv, dv] T)).alloc (.cells #[a, b, c, d] U))) (Nat.lt_succ_self _)
  rw [e] at c0 c1 c2 c3 f0 f1 f2 f3
  obtain ⟨k0, k1⟩ := two_cells ((Below.refl (w.heap.size + 1) (w.alloc (.cells #[sv, dv] T))).alloc (by simp) (.cells #[a, b, c, d] U)) (Nat.lt_succ_self _)
  exact ⟨k0, k1, by rw [c0]; rfl, by rw [c1]; rfl, by rw [c2]; rfl, by rw [c3]; rfl, f0, f1, f2, f3⟩
theorem BoxOut.next {n : Nat} {sv dv : Value} {w1 w2 : World} (h : BoxOut n sv dv w1) (hz : n + 2 ≤ w1.heap.size) (hn : Below w1.heap.size w1 w2) : BoxOut n sv dv w2 := by
  obtain ⟨h0, h1, h2, h3, h4, h5, h6, h7, h8, h9⟩ := h
  have c : ∀ k j, k < n + 2 → w2.cell? ⟨k, j, none⟩ = w1.cell? ⟨k, j, none⟩ := fun k j hk => hn.cell (p := ⟨k, j, none⟩) (by simp; omega)
  have f : ∀ k j, k < n + 2 → w2.frozen? ⟨k, j, none⟩ = w1.frozen? ⟨k, j, none⟩ := fun k j hk => hn.frozen (p := ⟨k, j, none⟩) (by simp; omega)
  refine ⟨(c _ _ (by omega)).trans h0, (c _ _ (by omega)).trans h1, ?_, ?_, ?_, ?_, (f _ _ (by omega)).trans h6, (f _ _ (by omega)).trans h7, (f _ _ (by omega)).trans h8, (f _ _ (by omega)).trans h9⟩
  · rw [c _ _ (by omega)]; exact h2
  · rw [c _ _ (by omega)]; exact h3
  · rw [c _ _ (by omega)]; exact h4
  · rw [c _ _ (by omega)]; exact h5
theorem BoxOut.set {n j : Nat} {sv dv x : Value} {w : World} (h : BoxOut n sv dv w) : BoxOut n sv dv (w.setCell ⟨n + 1, j, none⟩ x) := by
  obtain ⟨h0, h1, h2, h3, h4, h5, h6, h7, h8, h9⟩ := h
  have c : ∀ i, (w.cell? ⟨n + 1, i, none⟩).isSome = true → ((w.setCell ⟨n + 1, j, none⟩ x).cell? ⟨n + 1, i, none⟩).isSome = true := fun i hi => by
    by_cases e : i = j
    · subst e; rw [World.cell?_setCell_same' w _ x hi]; rfl
    · rw [World.cell?_setCell_other (h := by simp [e])]; exact hi
  exact ⟨by rw [World.cell?_setCell_other (h := by simp)]; exact h0, by rw [World.cell?_setCell_other (h := by simp)]; exact h1, c 0 h2, c 1 h3, c 2 h4, c 3 h5, by simpa using h6, by simpa using h7, by simpa using h8, by simpa using h9⟩

/-- The same, for a drawn region. -/
def BoxIn (n : Nat) (sv dv : Value) (w0 w : World) : Prop := w.cell? ⟨n, 0, none⟩ = some sv ∧ w.cell? ⟨n, 1, none⟩ = some dv ∧ (w.cell? ⟨n + 1, 0, none⟩).isSome = true ∧ (w.cell? ⟨n + 1, 1, none⟩).isSome = true ∧ (w.cell? ⟨n + 1, 2, none⟩).isSome = true ∧ (w.cell? ⟨n + 1, 3, none⟩).isSome = true ∧ w.frozen? ⟨n + 1, 0, none⟩ = false ∧ w.frozen? ⟨n + 1, 1, none⟩ = false ∧ w.frozen? ⟨n + 1, 2, none⟩ = false ∧ w.frozen? ⟨n + 1, 3, none⟩ = false ∧ Below n w0 w ∧ n + 2 ≤ w.heap.size
theorem BoxIn.box {n : Nat} {sv dv : Value} {w0 w : World} (h : BoxIn n sv dv w0 w) : BoxOut n sv dv w := by
  obtain ⟨h0, h1, h2, h3, h4, h5, h6, h7, h8, h9, -, -⟩ := h
  exact ⟨h0, h1, h2, h3, h4, h5, h6, h7, h8, h9⟩
theorem BoxOut.inn {n : Nat} {sv dv : Value} {w0 w : World} (h : BoxOut n sv dv w) (hb : Below n w0 w) (hz : n + 2 ≤ w.heap.size) : BoxIn n sv dv w0 w := by
  obtain ⟨h0, h1, h2, h3, h4, h5, h6, h7, h8, h9⟩ := h
  exact ⟨h0, h1, h2, h3, h4, h5, h6, h7, h8, h9, hb, hz⟩
theorem BoxIn.below {n : Nat} {sv dv : Value} {w0 w : World} (h : BoxIn n sv dv w0 w) : Below n w0 w := h.2.2.2.2.2.2.2.2.2.2.1
theorem BoxIn.size {n : Nat} {sv dv : Value} {w0 w : World} (h : BoxIn n sv dv w0 w) : n + 2 ≤ w.heap.size := h.2.2.2.2.2.2.2.2.2.2.2
theorem BoxIn.next {n : Nat} {sv dv : Value} {w0 w1 w2 : World} (hn : Below w1.heap.size w1 w2) (h : BoxIn n sv dv w0 w1) : BoxIn n sv dv w0 w2 :=
  (h.box.next h.size hn).inn (h.below.trans (hn.mono (by have := h.size; omega))) (Nat.le_trans h.size hn.size)
theorem BoxIn.set {n j : Nat} {sv dv x : Value} {w0 w : World} (h : BoxIn n sv dv w0 w) : BoxIn n sv dv w0 (w.setCell ⟨n + 1, j, none⟩ x) :=
  h.box.set.inn (h.below.setCell (p := ⟨n + 1, j, none⟩) (by simp) x) (by simpa using h.size)

end Go.Proofs.YthkbllkhomjmbaaGreatDoor
