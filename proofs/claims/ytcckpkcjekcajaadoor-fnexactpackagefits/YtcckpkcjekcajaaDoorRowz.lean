/- Slices that can be read, and slices of the call's own, as lists of cells; free of any program. -/
import Derived.Test.YtcckpkcjekcajaaDoorCells
import Derived.Laws.CopyOwn
import Derived.Maps.Range
namespace Go.Proofs.YtcckpkcjekcajaaDoor
open Go.RowKit

/-- v is a slice of n elements of sz cells, which read as xs. -/
def Rd (w : World) (v : Value) (n sz : Nat) (xs : List Value) : Prop :=
  xs.length = n * sz ∧ ∃ a c, v = .slice a n c ∧ (0 < n → ∃ b off, a = some ⟨b, off, none⟩ ∧ b < w.heap.size ∧ ∀ j, j < n * sz → w.cell? ⟨b, off + j, none⟩ = xs[j]?)
/-- The same, its block made since the heap had lo blocks, and free to be written. -/
def Own (w : World) (lo : Nat) (v : Value) (n sz : Nat) (xs : List Value) : Prop :=
  xs.length = n * sz ∧ ∃ a c, v = .slice a n c ∧ (0 < n → ∃ b off, a = some ⟨b, off, none⟩ ∧ lo ≤ b ∧ b < w.heap.size ∧ (∀ j, j < n * sz → w.cell? ⟨b, off + j, none⟩ = xs[j]?) ∧ ∀ j, j < n * sz → w.frozen? ⟨b, off + j, none⟩ = false)
theorem Own.rd {w : World} {lo n sz : Nat} {v : Value} {xs : List Value} (h : Own w lo v n sz xs) : Rd w v n sz xs := by
  obtain ⟨h1, a, c, rfl, h2⟩ := h
  exact ⟨h1, a, c, rfl, fun h0 => by obtain ⟨b, off, e, _, hb, hc, _⟩ := h2 h0; exact ⟨b, off, e, hb, hc⟩⟩
/-- w' is w, but for blocks from B on and but for what was drawn. -/
theorem Rd.below {w w' : World} {n sz B : Nat} {v : Value} {xs : List Value} (h : Rd w v n sz xs) (hb : Below B w w') (hB : w.heap.size ≤ B) : Rd w' v n sz xs := by
  obtain ⟨h1, a, c, rfl, h2⟩ := h
  exact ⟨h1, a, c, rfl, fun h0 => by
    obtain ⟨b, off, e, hl, hc⟩ := h2 h0
    exact ⟨b, off, e, Nat.lt_of_lt_of_le hl hb.size, fun j hj => (hb.cell (p := ⟨b, off + j, none⟩) (by simp; omega)).trans (hc j hj)⟩⟩
theorem Own.below {w w' : World} {lo n sz B : Nat} {v : Value} {xs : List Value} (h : Own w lo v n sz xs) (hb : Below B w w') (hB : w.heap.size ≤ B) : Own w' lo v n sz xs := by
  obtain ⟨h1, a, c, rfl, h2⟩ := h
  exact ⟨h1, a, c, rfl, fun h0 => by
    obtain ⟨b, off, e, hlo, hl, hc, hf⟩ := h2 h0
    exact ⟨b, off, e, hlo, Nat.lt_of_lt_of_le hl hb.size, fun j hj => (hb.cell (p := ⟨b, off + j, none⟩) (by simp; omega)).trans (hc j hj), fun j hj => (hb.frozen (p := ⟨b, off + j, none⟩) (by simp; omega)).trans (hf j hj)⟩⟩
theorem Own.lower {w : World} {lo lo' n sz : Nat} {v : Value} {xs : List Value} (h : Own w lo v n sz xs) (hl : lo' ≤ lo) : Own w lo' v n sz xs := by
  obtain ⟨h1, a, c, rfl, h2⟩ := h
  exact ⟨h1, a, c, rfl, fun h0 => by obtain ⟨b, off, e, hlo, r⟩ := h2 h0; exact ⟨b, off, e, Nat.le_trans hl hlo, r⟩⟩
/-- Nothing but one block, and new ones, has turned; the slice lies elsewhere. -/
theorem Rd.grown {w w' : World} {n sz : Nat} {v : Value} {xs : List Value} {row : Option Nat} (h : Rd w v n sz xs) (hg : w.grownBy w' row) (hne : 0 < n → v.ownBlock ≠ row) : Rd w' v n sz xs := by
  obtain ⟨h1, a, c, rfl, h2⟩ := h
  exact ⟨h1, a, c, rfl, fun h0 => by
    obtain ⟨b, off, rfl, hl, hc⟩ := h2 h0
    exact ⟨b, off, rfl, Nat.lt_of_lt_of_le hl hg.size, fun j hj => (World.cell?_of_block (w := w) (a := ⟨b, off + j, none⟩) (hg.block b hl (hne h0))).trans (hc j hj)⟩⟩
theorem Own.grown {w w' : World} {lo n sz : Nat} {v : Value} {xs : List Value} {row : Option Nat} (h : Own w lo v n sz xs) (hg : w.grownBy w' row) (hne : 0 < n → v.ownBlock ≠ row) : Own w' lo v n sz xs := by
  obtain ⟨h1, a, c, rfl, h2⟩ := h
  exact ⟨h1, a, c, rfl, fun h0 => by
    obtain ⟨b, off, rfl, hlo, hl, hc, hf⟩ := h2 h0
    exact ⟨b, off, rfl, hlo, Nat.lt_of_lt_of_le hl hg.size, fun j hj => (World.cell?_of_block (w := w) (a := ⟨b, off + j, none⟩) (hg.block b hl (hne h0))).trans (hc j hj), fun j hj => (World.frozen?_of_block (w := w) (a := ⟨b, off + j, none⟩) (hg.block b hl (hne h0))).trans (hf j hj)⟩⟩
theorem Rd.drewN {w : World} {n sz m : Nat} {v : Value} {xs : List Value} (h : Rd w v n sz xs) : Rd (w.drewN m) v n sz xs := h
theorem Own.drewN {w : World} {lo n sz m : Nat} {v : Value} {xs : List Value} (h : Own w lo v n sz xs) : Own (w.drewN m) lo v n sz xs := h
theorem Rd.get {w : World} {n sz c : Nat} {a : Option Addr} {xs : List Value} (h : Rd w (.slice a n c) n sz xs) (h0 : 0 < n) : ∃ b off, a = some ⟨b, off, none⟩ ∧ b < w.heap.size ∧ ∀ j, j < n * sz → w.cell? ⟨b, off + j, none⟩ = xs[j]? := by
  obtain ⟨_, a', c', e, h2⟩ := h
  simp only [Value.slice.injEq, true_and] at e
  obtain ⟨rfl, rfl⟩ := e
  exact h2 h0
theorem Own.get {w : World} {lo n sz c : Nat} {a : Option Addr} {xs : List Value} (h : Own w lo (.slice a n c) n sz xs) (h0 : 0 < n) : ∃ b off, a = some ⟨b, off, none⟩ ∧ lo ≤ b ∧ b < w.heap.size ∧ (∀ j, j < n * sz → w.cell? ⟨b, off + j, none⟩ = xs[j]?) ∧ ∀ j, j < n * sz → w.frozen? ⟨b, off + j, none⟩ = false := by
  obtain ⟨_, a', c', e, h2⟩ := h
  simp only [Value.slice.injEq, true_and] at e
  obtain ⟨rfl, rfl⟩ := e
  exact h2 h0
/-- One cell of it written. -/
theorem Own.set {w : World} {lo n sz c b off : Nat} {xs : List Value} (h : Own w lo (.slice (some ⟨b, off, none⟩) n c) n sz xs) (j : Nat) (x : Value) (hj : j < n * sz) (hc : ∃ v, w.cell? ⟨b, off + j, none⟩ = some v) :
    Own (w.setCell ⟨b, off + j, none⟩ x) lo (.slice (some ⟨b, off, none⟩) n c) n sz (xs.set j x) := by
  obtain ⟨h1, _⟩ := id h
  refine ⟨by simpa using h1, _, _, rfl, fun h0 => ?_⟩
  obtain ⟨b', off', e, hlo, hl, hcell, hf⟩ := h.get h0
  simp only [Option.some.injEq, Addr.mk.injEq, and_true] at e
  obtain ⟨rfl, rfl⟩ := e
  refine ⟨b, off, rfl, hlo, by simpa using hl, fun i hi => ?_, fun i hi => by rw [World.frozen?_setCell]; exact hf i hi⟩
  by_cases hij : i = j
  · subst hij
    obtain ⟨v, hv⟩ := hc
    rw [World.cell?_setCell_same (w := w) (h := hv), List.getElem?_set_self (by omega)]
  · rw [World.cell?_setCell_other (h := fun e => hij (by have := (Addr.mk.inj e).2.1; omega)), hcell i hi, List.getElem?_set_ne (by omega)]
theorem grown_set {w w1 : World} {b i : Nat} {x : Value} (h : w.grownBy w1 (some b)) : w.grownBy (w1.setCell ⟨b, i, none⟩ x) (some b) :=
  h.andThen (c := w1.setCell ⟨b, i, none⟩ x) (row' := some b) ⟨rfl, rfl, rfl, by simp, fun k _ hk => Below.heap_setCell w1 ⟨b, i, none⟩ x k (fun e => hk (by rw [e]))⟩ (fun _ e => .inr e)
theorem below_grown {w w' : World} (h : Below w.heap.size w w') : w.grownBy w' none := ⟨h.os, h.tape, h.output, h.size, fun k hk _ => h.block k hk⟩
theorem own_of_row {w : World} {base e n sz : Nat} {v : Value} {xs : List Value} (h : w.ownsRow base e sz v n xs) : Own w base v n sz xs := by
  refine ⟨h.1, ?_⟩
  rcases h.2 with ⟨rfl, rfl⟩ | ⟨g, cap, cur, rfl, h1, h2, h3, h4, h5, h6⟩
  · exact ⟨none, 0, rfl, fun h => absurd h (Nat.lt_irrefl 0)⟩
  · refine ⟨_, _, rfl, fun _ => ⟨g, 0, rfl, h1, (Array.getElem?_eq_some_iff.1 h2).1, fun j hj => ?_, fun j _ => ?_⟩⟩
    · rw [Nat.zero_add]; exact h.cellAt j hj
    · rw [Nat.zero_add]; exact frozen_of_row w g j _ e h2
theorem own_of_cells {w : World} {lo g T n sz N cap : Nat} {f : Nat → Value} {xs : List Value} (h : CellsAt w g T N f) (hlo : lo ≤ g) (hN : n * sz ≤ N) (hl : xs.length = n * sz) (hx : ∀ j, j < n * sz → xs[j]? = some (f j)) :
    Own w lo (.slice (some ⟨g, 0, none⟩) n cap) n sz xs :=
  ⟨hl, _, _, rfl, fun _ => ⟨g, 0, rfl, hlo, h.lt, fun j hj => by rw [Nat.zero_add, h.cell j (by omega), hx j hj], fun j _ => by rw [Nat.zero_add]; exact h.frozen j⟩⟩
/-- What a call gives that makes a slice. -/
def MadeRow (w : World) (n sz : Nat) (xs : List Value) (e : Ending) (w' : World) : Prop := ∃ v, e = .returned v ∧ Own w' w.heap.size v n sz xs ∧ Below w.heap.size w w'
/-- Nothing but what was drawn. -/
def Still (w w' : World) : Prop := ∃ m, w' = w.drewN m
theorem Still.refl (w : World) : Still w w := ⟨0, rfl⟩
theorem Still.trans {a b c : World} (h : Still a b) (k : Still b c) : Still a c := by
  obtain ⟨m, rfl⟩ := h; obtain ⟨n, rfl⟩ := k; exact ⟨m + n, by simp⟩
theorem Still.below {w w' : World} (h : Still w w') (B : Nat) : Below B w w' := by obtain ⟨m, rfl⟩ := h; exact below_drewN (Below.refl _ _) m
theorem Still.rd {w w' : World} {n sz : Nat} {v : Value} {xs : List Value} (h : Still w w') (k : Rd w v n sz xs) : Rd w' v n sz xs := by obtain ⟨m, rfl⟩ := h; exact k
theorem Still.own {w w' : World} {lo n sz : Nat} {v : Value} {xs : List Value} (h : Still w w') (k : Own w lo v n sz xs) : Own w' lo v n sz xs := by obtain ⟨m, rfl⟩ := h; exact k
/-- The block of a slice of n elements, if it has one that matters. -/
def blk (v : Value) (n : Nat) : Option Nat := if n = 0 then none else v.ownBlock
theorem blk_pos {b off n c : Nat} (h : 0 < n) : blk (.slice (some ⟨b, off, none⟩) n c) n = some b := by unfold blk; rw [if_neg (by omega)]; rfl
theorem Own.blk {w : World} {lo n sz : Nat} {v : Value} {xs : List Value} (h : Own w lo v n sz xs) : ∀ k, blk v n = some k → lo ≤ k ∧ k < w.heap.size := by
  intro k hk
  obtain ⟨_, a, c, rfl, h2⟩ := h
  by_cases h0 : 0 < n
  · obtain ⟨b, off, rfl, hlo, hl, _⟩ := h2 h0
    rw [blk_pos h0] at hk
    cases hk; exact ⟨hlo, hl⟩
  · obtain rfl : n = 0 := by omega
    simp [Proofs.YtcckpkcjekcajaaDoor.blk] at hk
theorem Rd.blk {w : World} {n sz : Nat} {v : Value} {xs : List Value} (h : Rd w v n sz xs) : ∀ k, blk v n = some k → k < w.heap.size := by
  intro k hk
  obtain ⟨_, a, c, rfl, h2⟩ := h
  by_cases h0 : 0 < n
  · obtain ⟨b, off, rfl, hl, _⟩ := h2 h0
    rw [blk_pos h0] at hk
    cases hk; exact hl
  · obtain rfl : n = 0 := by omega
    simp [Proofs.YtcckpkcjekcajaaDoor.blk] at hk
/-- Nothing but the blocks s and d, and new ones, has turned. -/
structure Two (s d : Option Nat) (w w' : World) : Prop where
  os : w'.os = w.os
  tape : w'.tape = w.tape
  output : w'.output = w.output
  size : w.heap.size ≤ w'.heap.size
  block : ∀ k, k < w.heap.size → some k ≠ s → some k ≠ d → w'.heap[k]? = w.heap[k]?
theorem Two.below {s d : Option Nat} {w w' : World} (h : Two s d w w') {lo : Nat} (hs : ∀ k, s = some k → lo ≤ k) (hd : ∀ k, d = some k → lo ≤ k) (hw : lo ≤ w.heap.size) : Below lo w w' :=
  ⟨h.os, h.tape, h.output, h.size, fun k hk => h.block k (by omega) (fun e => by have := hs k e.symm; omega) (fun e => by have := hd k e.symm; omega)⟩
theorem Two.refl (s d : Option Nat) (w : World) : Two s d w w := ⟨rfl, rfl, rfl, Nat.le_refl _, fun _ _ _ _ => rfl⟩
theorem Two.trans {s d : Option Nat} {a b c : World} (h : Two s d a b) (k : Two s d b c) : Two s d a c :=
  ⟨k.os.trans h.os, k.tape.trans h.tape, k.output.trans h.output, Nat.le_trans h.size k.size, fun i hi h1 h2 => (k.block i (Nat.lt_of_lt_of_le hi h.size) h1 h2).trans (h.block i hi h1 h2)⟩
theorem two_left {s d : Option Nat} {w w' : World} (h : w.grownBy w' s) : Two s d w w' := ⟨h.os, h.tape, h.output, h.size, fun k hk h1 _ => h.block k hk h1⟩
theorem two_right {s d : Option Nat} {w w' : World} (h : w.grownBy w' d) : Two s d w w' := ⟨h.os, h.tape, h.output, h.size, fun k hk _ h2 => h.block k hk h2⟩
theorem two_below {s d : Option Nat} {w w' : World} (h : Below w.heap.size w w') : Two s d w w' := ⟨h.os, h.tape, h.output, h.size, fun k hk _ _ => h.block k hk⟩
theorem Rd.two {w w' : World} {n sz : Nat} {v : Value} {xs : List Value} {s d : Option Nat} (h : Rd w v n sz xs) (ht : Two s d w w') (hne : ∀ k, Proofs.YtcckpkcjekcajaaDoor.blk v n = some k → some k ≠ s ∧ some k ≠ d) : Rd w' v n sz xs := by
  obtain ⟨h1, a, c, rfl, h2⟩ := h
  exact ⟨h1, a, c, rfl, fun h0 => by
    obtain ⟨b, off, rfl, hl, hc⟩ := h2 h0
    have hb := ht.block b hl (hne b (blk_pos h0)).1 (hne b (blk_pos h0)).2
    exact ⟨b, off, rfl, Nat.lt_of_lt_of_le hl ht.size, fun j hj => (World.cell?_of_block (w := w) (a := ⟨b, off + j, none⟩) hb).trans (hc j hj)⟩⟩
theorem Own.two {w w' : World} {lo n sz : Nat} {v : Value} {xs : List Value} {s d : Option Nat} (h : Own w lo v n sz xs) (ht : Two s d w w') (hne : ∀ k, Proofs.YtcckpkcjekcajaaDoor.blk v n = some k → some k ≠ s ∧ some k ≠ d) : Own w' lo v n sz xs := by
  obtain ⟨h1, a, c, rfl, h2⟩ := h
  exact ⟨h1, a, c, rfl, fun h0 => by
    obtain ⟨b, off, rfl, hlo, hl, hc, hf⟩ := h2 h0
    have hb := ht.block b hl (hne b (blk_pos h0)).1 (hne b (blk_pos h0)).2
    exact ⟨b, off, rfl, hlo, Nat.lt_of_lt_of_le hl ht.size, fun j hj => (World.cell?_of_block (w := w) (a := ⟨b, off + j, none⟩) hb).trans (hc j hj), fun j hj => (World.frozen?_of_block (w := w) (a := ⟨b, off + j, none⟩) hb).trans (hf j hj)⟩⟩
theorem Own.other {w : World} {lo n sz : Nat} {v : Value} {xs : List Value} (h : Own w lo v n sz xs) (p : Addr) (x : Value) (hp : ∀ k, Proofs.YtcckpkcjekcajaaDoor.blk v n = some k → k ≠ p.block) : Own (w.setCell p x) lo v n sz xs := by
  obtain ⟨h1, a, c, rfl, h2⟩ := h
  exact ⟨h1, a, c, rfl, fun h0 => by
    obtain ⟨b, off, rfl, hlo, hl, hc, hf⟩ := h2 h0
    have hb := Below.heap_setCell w p x b (hp b (blk_pos h0))
    exact ⟨b, off, rfl, hlo, by simpa using hl, fun j hj => (World.cell?_of_block (w := w) (a := ⟨b, off + j, none⟩) hb).trans (hc j hj), fun j hj => (World.frozen?_of_block (w := w) (a := ⟨b, off + j, none⟩) hb).trans (hf j hj)⟩⟩
end Go.Proofs.YtcckpkcjekcajaaDoor
