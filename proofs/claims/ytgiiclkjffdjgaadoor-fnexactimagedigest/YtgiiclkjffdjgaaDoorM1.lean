/- The ground texts of this claim, in one. -/
import Derived.Test.YtgiiclkjffdjgaaDoorRows
import Derived.WalkKit
import Derived.WalkSpells
import Derived.WalkLawsBesides
import Derived.Lib.Hide
import Derived.Below
import Derived.Laws.Rows
import Derived.Laws.CopyOwn
import Derived.Maps.Range
import Derived.Deep.QuietTactic
import Derived.BigQuiet
import Derived.BigRegion
import Derived.Deep.RegionHeld3
import Derived.StillTailTactics
namespace Go.Proofs.YtgiiclkjffdjgaaDoor
open Go.RowKit

theorem ret_bool {a b : Bool} (h : a = b) : Ending.returned (.bool a) = .returned (.bool b) := by rw [h]
def bt (s : ByteArray) (j : Nat) : Int := (s.data.getD j 0).toNat
theorem bt_at (s : ByteArray) (k : Nat) (h : k < s.size) : (s[k].toNat : Int) = bt s k := by
  unfold bt
  have : s.data.getD k 0 = s[k] := by
    have h' : k < s.data.size := h
    simp [Array.getD, h]; rfl
  rw [this]

theorem ret_int {k : IntKind} {a b : Int} (h : a = b) : Ending.returned (.int k a) = .returned (.int k b) := by rw [h]
theorem val_int {k : IntKind} {a b : Int} (h : a = b) : Value.int k a = .int k b := by rw [h]

theorem Tryd.info5 : (Tryd.prog.info? 5).map (fun i => (i.zero, i.size, i.bytes)) = some (some (.int .u8 0), 1, 1) := by kernel_rfl
def B (u : UInt8) : Value := .int .u8 (u.toNat : Int)


theorem conv_row {w : World} {base e g n cap c : Nat} {xs : List Value} (h : w.ownsRow base e 1 (.slice (some ⟨g, 0, none⟩) n cap) n xs) (l : List UInt8) (m : Nat) (hm : m = l.length) (hn : m ≤ n) (hx : xs.take m = l.map B) :
    (convert 22 9 (.slice (some ⟨g, 0, none⟩) m c)).run Tryd.prog w = .ok (.string ⟨l.toArray⟩) w := by
  subst hm
  refine run_convert_bytes_back w 22 9 5 ⟨g, 0, none⟩ c l Tryd.underlying22 Tryd.underlying5 Tryd.underlying9 fun j hj => ?_
  have e1 : ((⟨g, 0, none⟩ : Addr).add j) = ⟨g, j, none⟩ := by simp [Addr.add]; omega
  rw [e1, h.cellAt j (by omega)]
  have e2 : (xs.take l.length)[j]? = xs[j]? := by rw [List.getElem?_take, if_pos hj]
  rw [← e2, hx, List.getElem?_map, List.getElem?_eq_getElem hj]
  rfl

theorem one_cell (wr : World) (a b : Value) (h : a = b) : ∀ j u, [b][j]? = some u → (wr.alloc (.cells #[a] 5)).cell? ((⟨wr.heap.size, 0, none⟩ : Addr).add j) = some u := by
  intro j u hj
  match j, hj with
  | 0, hj => simp at hj; subst hj; subst h; simp [Addr.add]
theorem owned_below {w wr : World} {v : Value} {n : Nat} {xs : List Value} (h : wr.ownsRow w.heap.size 5 1 v n xs) : ∀ k, v.ownBlock = some k → w.heap.size ≤ k := fun k hk => (h.lt k hk).1
theorem owned_shape {w wr : World} {e : TypeId} {v : Value} {n : Nat} {xs : List Value} (h : wr.ownsRow w.heap.size e 1 v n xs) (hn : 0 < n) : ∃ g cap, v = .slice (some ⟨g, 0, none⟩) n cap := by
  rcases h.2 with ⟨_, h0⟩ | ⟨g, cap, cur, h', _⟩
  · omega
  · exact ⟨g, cap, h'⟩

theorem own_block {w : World} {base e g n : Nat} {xs : List Value} (h : w.ownsRow base e 1 (.slice (some ⟨g, 0, none⟩) n n) n xs) : w.heap[g]? = some (.cells xs.toArray e (0, 0)) := by
  rcases h.2 with ⟨h', _⟩ | ⟨g', cap', cur, h', _, hg, _, _, hs, htake⟩
  · simp at h'
  · simp only [Value.slice.injEq, Option.some.injEq, Addr.mk.injEq, and_true, true_and] at h'
    obtain ⟨rfl, rfl⟩ := h'
    rw [hg, ← htake, List.take_of_length_le (by simp [hs])]

theorem conv_block {w : World} {e g c : Nat} {xs : List Value} (h : w.heap[g]? = some (.cells xs.toArray e (0, 0))) (l : List UInt8) (m : Nat) (hm : m = l.length) (hx : xs = l.map B) :
    (convert 22 9 (.slice (some ⟨g, 0, none⟩) m c)).run Tryd.prog w = .ok (.string ⟨l.toArray⟩) w := by
  subst hm
  refine run_convert_bytes_back w 22 9 5 ⟨g, 0, none⟩ c l Tryd.underlying22 Tryd.underlying5 Tryd.underlying9 fun j hj => ?_
  have e1 : ((⟨g, 0, none⟩ : Addr).add j) = ⟨g, j, none⟩ := by simp [Addr.add]; omega
  rw [e1, cell_of_row w g j _ e (0, 0) h, hx]
  simp [hj, B]
theorem res_cells {K : Nat} {w w' : World} {a b c : Value} {T : TypeId} (hb : Below K (w.alloc (.cells #[a, b, c] T)).drew w') (hK : w.heap.size < K) :
    w'.cell? ⟨w.heap.size, 0, none⟩ = some a ∧ w'.cell? ⟨w.heap.size, 1, none⟩ = some b ∧ w'.cell? ⟨w.heap.size, 2, none⟩ = some c ∧
    w'.frozen? ⟨w.heap.size, 0, none⟩ = false ∧ w'.frozen? ⟨w.heap.size, 1, none⟩ = false ∧ w'.frozen? ⟨w.heap.size, 2, none⟩ = false := by
  have hc : ∀ j, w'.cell? ⟨w.heap.size, j, none⟩ = (#[a, b, c] : Array Value)[j]? := fun j =>
    (hb.cell (p := ⟨w.heap.size, j, none⟩) hK).trans (World.cell?_alloc_new (w := w) #[a, b, c] T j)
  have hf : ∀ j, w'.frozen? ⟨w.heap.size, j, none⟩ = false := fun j =>
    (hb.frozen (p := ⟨w.heap.size, j, none⟩) hK).trans (World.frozen?_alloc_at #[a, b, c] T w.heap.size j rfl)
  exact ⟨hc 0, hc 1, hc 2, hf 0, hf 1, hf 2⟩

theorem laid_cells {K : Nat} {w w' : World} {a b c : Value} {T : TypeId} (hb : Below K (w.alloc (.cells #[a, b, c] T)) w') (hK : w.heap.size < K) :
    w'.cell? ⟨w.heap.size, 0, none⟩ = some a ∧ w'.cell? ⟨w.heap.size, 1, none⟩ = some b ∧ w'.cell? ⟨w.heap.size, 2, none⟩ = some c := by
  have hc : ∀ j, w'.cell? ⟨w.heap.size, j, none⟩ = (#[a, b, c] : Array Value)[j]? := fun j =>
    (hb.cell (p := ⟨w.heap.size, j, none⟩) hK).trans (World.cell?_alloc_new (w := w) #[a, b, c] T j)
  exact ⟨hc 0, hc 1, hc 2⟩
theorem laid_size (w : World) (o : Obj) : w.heap.size < (w.alloc o).heap.size := by
  show _ < (w.heap.push _).size; simp
theorem res_below {K : Nat} {w w' : World} {o : Obj} (hb : Below K (w.alloc o).drew w') (hK : w.heap.size < K) (a b c : Value) :
    Below w.heap.size w (((w'.setCell ⟨w.heap.size, 0, none⟩ a).setCell ⟨w.heap.size, 1, none⟩ b).setCell ⟨w.heap.size, 2, none⟩ c) :=
  (((((Below.refl _ w).alloc (Nat.le_refl _) o).drew.trans (hb.mono (Nat.le_of_lt hK))).setCell (p := ⟨w.heap.size, 0, none⟩) (Nat.le_refl _) a).setCell (p := ⟨w.heap.size, 1, none⟩) (Nat.le_refl _) b).setCell (p := ⟨w.heap.size, 2, none⟩) (Nat.le_refl _) c
theorem res_size (w : World) (o : Obj) : w.heap.size < (w.alloc o).drew.heap.size := by
  show _ < (w.heap.push _).size; simp
theorem res_below0 (w : World) (o : Obj) (a b c : Value) :
    Below w.heap.size w ((((w.alloc o).setCell ⟨w.heap.size, 0, none⟩ a).setCell ⟨w.heap.size, 1, none⟩ b).setCell ⟨w.heap.size, 2, none⟩ c) :=
  ((((Below.refl _ w).alloc (Nat.le_refl _) o).setCell (p := ⟨w.heap.size, 0, none⟩) (Nat.le_refl _) a).setCell (p := ⟨w.heap.size, 1, none⟩) (Nat.le_refl _) b).setCell (p := ⟨w.heap.size, 2, none⟩) (Nat.le_refl _) c

/-- A decoded string as the model and the program lay it. -/
def textV (s : ByteArray) (at' code : Int) : Value := .agg #[.string s, .int .i64 at', .int .i64 code]

end Go.Proofs.YtgiiclkjffdjgaaDoor

namespace Go.Proofs.YtgiiclkjffdjgaaDoor
open Go.RowKit

/-- v 0 .. v (n - 1) as cells. -/
def cellsV (n : Nat) (v : Nat → Value) : Array Value := ((List.range n).map v).toArray
theorem cellsV_size (n : Nat) (v : Nat → Value) : (cellsV n v).size = n := by simp [cellsV]
theorem cellsV_at (n : Nat) (v : Nat → Value) (j : Nat) (h : j < n) : (cellsV n v)[j]? = some (v j) := by simp [cellsV, h]
theorem cellsV_list (n : Nat) (v : Nat → Value) : (cellsV n v).toList = (List.range n).map v := by simp [cellsV]
/-- Block g holds v 0 .. v (n - 1), laid as cells of the type T. -/
def CellsAt (wr : World) (g : Nat) (T : TypeId) (n : Nat) (v : Nat → Value) : Prop := wr.heap[g]? = some (.cells (cellsV n v) T (0, 0))
theorem CellsAt.cell {wr : World} {g n : Nat} {T : TypeId} {v : Nat → Value} (h : CellsAt wr g T n v) (j : Nat) (hj : j < n) : wr.cell? ⟨g, j, none⟩ = some (v j) := by
  rw [cell_of_row wr g j _ T (0, 0) h, cellsV_at n v j hj]
theorem CellsAt.frozen {wr : World} {g n : Nat} {T : TypeId} {v : Nat → Value} (h : CellsAt wr g T n v) (j : Nat) : wr.frozen? ⟨g, j, none⟩ = false := frozen_of_row wr g j _ T h
theorem CellsAt.lt {wr : World} {g n : Nat} {T : TypeId} {v : Nat → Value} (h : CellsAt wr g T n v) : g < wr.heap.size := (Array.getElem?_eq_some_iff.1 h).1
theorem CellsAt.set {wr : World} {g n : Nat} {T : TypeId} {v v' : Nat → Value} (h : CellsAt wr g T n v) (j : Nat) (x : Value) (hx : v' j = x) (hf : ∀ i, i ≠ j → v' i = v i) : CellsAt (wr.setCell ⟨g, j, none⟩ x) g T n v' := by
  unfold CellsAt
  rw [heap_setCell_same wr g j _ T x h]
  congr 2
  apply Array.ext_getElem?
  intro i
  unfold cellsV
  simp only [List.setIfInBounds_toArray, List.getElem?_toArray, List.getElem?_set, List.length_map, List.length_range]
  by_cases hi : j = i
  · subst hi; by_cases hj : j < n <;> simp [hj, hx]
  · rw [if_neg hi]; by_cases hn : i < n
    · simp [hn, hf i (fun e => hi e.symm)]
    · simp [hn]
theorem cellsV_congr {n : Nat} {v v' : Nat → Value} (hf : ∀ i, i < n → v' i = v i) : cellsV n v' = cellsV n v := by
  unfold cellsV; congr 1
  apply List.map_congr_left; intro i hi; rw [hf i (by simpa using hi)]
theorem CellsAt.congr {wr : World} {g n : Nat} {T : TypeId} {v v' : Nat → Value} (h : CellsAt wr g T n v) (hf : ∀ i, i < n → v' i = v i) : CellsAt wr g T n v' := by
  unfold CellsAt at *; rw [h, cellsV_congr hf]
theorem CellsAt.below {wr wr' : World} {g n B : Nat} {T : TypeId} {v : Nat → Value} (h : CellsAt wr g T n v) (hb : Below B wr wr') (hg : g < B) : CellsAt wr' g T n v := (hb.block g hg).trans h
theorem CellsAt.drew {wr : World} {g n : Nat} {T : TypeId} {v : Nat → Value} (h : CellsAt wr g T n v) : CellsAt wr.drew g T n v := h
theorem CellsAt.drewN {wr : World} {g n m : Nat} {T : TypeId} {v : Nat → Value} (h : CellsAt wr g T n v) : CellsAt (wr.drewN m) g T n v := h
theorem cellsAt_new (W : World) (g n : Nat) (T : TypeId) (v : Nat → Value) (hg : W.heap.size = g) {cs : Array Value} (hc : cs = cellsV n v) : CellsAt (W.alloc (.cells cs T)) g T n v := by
  subst hg; subst hc; exact heap_alloc_new W _
/-- A list known whole as such a block. -/
theorem cellsAt_list {wr : World} {g : Nat} {T : TypeId} {xs : List Value} (h : wr.heap[g]? = some (.cells xs.toArray T (0, 0))) (n : Nat) (v : Nat → Value) (hn : xs.length = n) (hv : ∀ j, j < n → xs[j]? = some (v j)) : CellsAt wr g T n v := by
  unfold CellsAt; rw [h]; congr 2
  apply Array.ext_getElem?
  intro j
  by_cases hj : j < n
  · rw [cellsV_at n v j hj]; simpa using hv j hj
  · rw [Array.getElem?_eq_none (by simp; omega), Array.getElem?_eq_none (by rw [cellsV_size]; omega)]
end Go.Proofs.YtgiiclkjffdjgaaDoor

namespace Go.Proofs.YtgiiclkjffdjgaaDoor
open Go.RowKit

/-- v is a slice of n elements of sz cells, which read as xs. -/
def Rd (w : World) (v : Value) (n sz : Nat) (xs : List Value) : Prop :=
  xs.length = n * sz ∧ ∃ a c, v = .slice a n c ∧ (0 < n → ∃ b off, a = some ⟨b, off, none⟩ ∧ b < w.heap.size ∧ ∀ j, j < n * sz → w.cell? ⟨b, off + j, none⟩ = xs[j]?)
/-- The same, its block made since the heap had lo blocks, and free to be written. -/
def Own (w : World) (lo : Nat) (v : Value) (n sz : Nat) (xs : List Value) : Prop :=
  xs.length = n * sz ∧ ∃ a c, v = .slice a n c ∧ (0 < n → ∃ b off, a = some ⟨b, off, none⟩ ∧ lo ≤ b ∧ b < w.heap.size ∧ (∀ j, j < n * sz → w.cell? ⟨b, off + j, none⟩ = xs[j]?) ∧ ∀ j, j < n * sz → w.frozen? ⟨b, off + j, none⟩ = false)
theorem Own.rd {w : World} {lo n sz : Nat} {v : Value} {xs : List Value} (h : Own w lo v n sz xs) : Rd w v n sz xs := by
  obtain ⟨h1, a, c, rfl, h2⟩ := h
  exact ⟨h1, a, c, rfl, fun h0 => by obtain ⟨b, off, e, _, hb, hc, _⟩ := h2 h0; exact ⟨b, off, e, hb, hc⟩⟩
/-- w' is w, but for blocks from B on and but for what was drawn. -/
theorem Rd.below {w w' : World} {n sz B : Nat} {v : Value} {xs : List Value} (h : Rd w v n sz xs) (hb : Below B w w') (hB : w.heap.size ≤ B) : Rd w' v n sz xs := by
  obtain ⟨h1, a, c, rfl, h2⟩ := h
  exact ⟨h1, a, c, rfl, fun h0 => by
    obtain ⟨b, off, e, hl, hc⟩ := h2 h0
    exact ⟨b, off, e, Nat.lt_of_lt_of_le hl hb.size, fun j hj => (hb.cell (p := ⟨b, off + j, none⟩) (by simp; omega)).trans (hc j hj)⟩⟩
theorem Own.below {w w' : World} {lo n sz B : Nat} {v : Value} {xs : List Value} (h : Own w lo v n sz xs) (hb : Below B w w') (hB : w.heap.size ≤ B) : Own w' lo v n sz xs := by
  obtain ⟨h1, a, c, rfl, h2⟩ := h
  exact ⟨h1, a, c, rfl, fun h0 => by
    obtain ⟨b, off, e, hlo, hl, hc, hf⟩ := h2 h0
    exact ⟨b, off, e, hlo, Nat.lt_of_lt_of_le hl hb.size, fun j hj => (hb.cell (p := ⟨b, off + j, none⟩) (by simp; omega)).trans (hc j hj), fun j hj => (hb.frozen (p := ⟨b, off + j, none⟩) (by simp; omega)).trans (hf j hj)⟩⟩
theorem Own.lower {w : World} {lo lo' n sz : Nat} {v : Value} {xs : List Value} (h : Own w lo v n sz xs) (hl : lo' ≤ lo) : Own w lo' v n sz xs := by
  obtain ⟨h1, a, c, rfl, h2⟩ := h
  exact ⟨h1, a, c, rfl, fun h0 => by obtain ⟨b, off, e, hlo, r⟩ := h2 h0; exact ⟨b, off, e, Nat.le_trans hl hlo, r⟩⟩
/-- Nothing but one block, and new ones, has turned; the slice lies elsewhere. -/
theorem Rd.grown {w w' : World} {n sz : Nat} {v : Value} {xs : List Value} {row : Option Nat} (h : Rd w v n sz xs) (hg : w.grownBy w' row) (hne : 0 < n → v.ownBlock ≠ row) : Rd w' v n sz xs := by
  obtain ⟨h1, a, c, rfl, h2⟩ := h
  exact ⟨h1, a, c, rfl, fun h0 => by
    obtain ⟨b, off, rfl, hl, hc⟩ := h2 h0
    exact ⟨b, off, rfl, Nat.lt_of_lt_of_le hl hg.size, fun j hj => (World.cell?_of_block (w := w) (a := ⟨b, off + j, none⟩) (hg.block b hl (hne h0))).trans (hc j hj)⟩⟩
theorem Own.grown {w w' : World} {lo n sz : Nat} {v : Value} {xs : List Value} {row : Option Nat} (h : Own w lo v n sz xs) (hg : w.grownBy w' row) (hne : 0 < n → v.ownBlock ≠ row) : Own w' lo v n sz xs := by
  obtain ⟨h1, a, c, rfl, h2⟩ := h
  exact ⟨h1, a, c, rfl, fun h0 => by
    obtain ⟨b, off, rfl, hlo, hl, hc, hf⟩ := h2 h0
    exact ⟨b, off, rfl, hlo, Nat.lt_of_lt_of_le hl hg.size, fun j hj => (World.cell?_of_block (w := w) (a := ⟨b, off + j, none⟩) (hg.block b hl (hne h0))).trans (hc j hj), fun j hj => (World.frozen?_of_block (w := w) (a := ⟨b, off + j, none⟩) (hg.block b hl (hne h0))).trans (hf j hj)⟩⟩
theorem Rd.drewN {w : World} {n sz m : Nat} {v : Value} {xs : List Value} (h : Rd w v n sz xs) : Rd (w.drewN m) v n sz xs := h
theorem Own.drewN {w : World} {lo n sz m : Nat} {v : Value} {xs : List Value} (h : Own w lo v n sz xs) : Own (w.drewN m) lo v n sz xs := h
theorem Rd.get {w : World} {n sz c : Nat} {a : Option Addr} {xs : List Value} (h : Rd w (.slice a n c) n sz xs) (h0 : 0 < n) : ∃ b off, a = some ⟨b, off, none⟩ ∧ b < w.heap.size ∧ ∀ j, j < n * sz → w.cell? ⟨b, off + j, none⟩ = xs[j]? := by
  obtain ⟨_, a', c', e, h2⟩ := h
  simp only [Value.slice.injEq, true_and] at e
  obtain ⟨rfl, rfl⟩ := e
  exact h2 h0
theorem Own.get {w : World} {lo n sz c : Nat} {a : Option Addr} {xs : List Value} (h : Own w lo (.slice a n c) n sz xs) (h0 : 0 < n) : ∃ b off, a = some ⟨b, off, none⟩ ∧ lo ≤ b ∧ b < w.heap.size ∧ (∀ j, j < n * sz → w.cell? ⟨b, off + j, none⟩ = xs[j]?) ∧ ∀ j, j < n * sz → w.frozen? ⟨b, off + j, none⟩ = false := by
  obtain ⟨_, a', c', e, h2⟩ := h
  simp only [Value.slice.injEq, true_and] at e
  obtain ⟨rfl, rfl⟩ := e
  exact h2 h0
/-- One cell of it written. -/
theorem Own.set {w : World} {lo n sz c b off : Nat} {xs : List Value} (h : Own w lo (.slice (some ⟨b, off, none⟩) n c) n sz xs) (j : Nat) (x : Value) (hj : j < n * sz) (hc : ∃ v, w.cell? ⟨b, off + j, none⟩ = some v) :
    Own (w.setCell ⟨b, off + j, none⟩ x) lo (.slice (some ⟨b, off, none⟩) n c) n sz (xs.set j x) := by
  obtain ⟨h1, _⟩ := id h
  refine ⟨by simpa using h1, _, _, rfl, fun h0 => ?_⟩
  obtain ⟨b', off', e, hlo, hl, hcell, hf⟩ := h.get h0
  simp only [Option.some.injEq, Addr.mk.injEq, and_true] at e
  obtain ⟨rfl, rfl⟩ := e
  refine ⟨b, off, rfl, hlo, by simpa using hl, fun i hi => ?_, fun i hi => by rw [World.frozen?_setCell]; exact hf i hi⟩
  by_cases hij : i = j
  · subst hij
    obtain ⟨v, hv⟩ := hc
    rw [World.cell?_setCell_same (w := w) (h := hv), List.getElem?_set_self (by omega)]
  · rw [World.cell?_setCell_other (h := fun e => hij (by have := (Addr.mk.inj e).2.1; omega)), hcell i hi, List.getElem?_set_ne (by omega)]
theorem grown_set {w w1 : World} {b i : Nat} {x : Value} (h : w.grownBy w1 (some b)) : w.grownBy (w1.setCell ⟨b, i, none⟩ x) (some b) :=
  h.andThen (c := w1.setCell ⟨b, i, none⟩ x) (row' := some b) ⟨rfl, rfl, rfl, by simp, fun k _ hk => Below.heap_setCell w1 ⟨b, i, none⟩ x k (fun e => hk (by rw [e]))⟩ (fun _ e => .inr e)
theorem below_grown {w w' : World} (h : Below w.heap.size w w') : w.grownBy w' none := ⟨h.os, h.tape, h.output, h.size, fun k hk _ => h.block k hk⟩
theorem own_of_row {w : World} {base e n sz : Nat} {v : Value} {xs : List Value} (h : w.ownsRow base e sz v n xs) : Own w base v n sz xs := by
  refine ⟨h.1, ?_⟩
  rcases h.2 with ⟨rfl, rfl⟩ | ⟨g, cap, cur, rfl, h1, h2, h3, h4, h5, h6⟩
  · exact ⟨none, 0, rfl, fun h => absurd h (Nat.lt_irrefl 0)⟩
  · refine ⟨_, _, rfl, fun _ => ⟨g, 0, rfl, h1, (Array.getElem?_eq_some_iff.1 h2).1, fun j hj => ?_, fun j _ => ?_⟩⟩
    · rw [Nat.zero_add]; exact h.cellAt j hj
    · rw [Nat.zero_add]; exact frozen_of_row w g j _ e h2
theorem own_of_cells {w : World} {lo g T n sz N cap : Nat} {f : Nat → Value} {xs : List Value} (h : CellsAt w g T N f) (hlo : lo ≤ g) (hN : n * sz ≤ N) (hl : xs.length = n * sz) (hx : ∀ j, j < n * sz → xs[j]? = some (f j)) :
    Own w lo (.slice (some ⟨g, 0, none⟩) n cap) n sz xs :=
  ⟨hl, _, _, rfl, fun _ => ⟨g, 0, rfl, hlo, h.lt, fun j hj => by rw [Nat.zero_add, h.cell j (by omega), hx j hj], fun j _ => by rw [Nat.zero_add]; exact h.frozen j⟩⟩
/-- What a call gives that makes a slice. -/
def MadeRow (w : World) (n sz : Nat) (xs : List Value) (e : Ending) (w' : World) : Prop := ∃ v, e = .returned v ∧ Own w' w.heap.size v n sz xs ∧ Below w.heap.size w w'
/-- Nothing but what was drawn. -/
def Still (w w' : World) : Prop := ∃ m, w' = w.drewN m
theorem Still.refl (w : World) : Still w w := ⟨0, rfl⟩
theorem Still.trans {a b c : World} (h : Still a b) (k : Still b c) : Still a c := by
  obtain ⟨m, rfl⟩ := h; obtain ⟨n, rfl⟩ := k; exact ⟨m + n, by simp⟩
theorem Still.below {w w' : World} (h : Still w w') (B : Nat) : Below B w w' := by obtain ⟨m, rfl⟩ := h; exact below_drewN (Below.refl _ _) m
theorem Still.rd {w w' : World} {n sz : Nat} {v : Value} {xs : List Value} (h : Still w w') (k : Rd w v n sz xs) : Rd w' v n sz xs := by obtain ⟨m, rfl⟩ := h; exact k
theorem Still.own {w w' : World} {lo n sz : Nat} {v : Value} {xs : List Value} (h : Still w w') (k : Own w lo v n sz xs) : Own w' lo v n sz xs := by obtain ⟨m, rfl⟩ := h; exact k
/-- The block of a slice of n elements, if it has one that matters. -/
def blk (v : Value) (n : Nat) : Option Nat := if n = 0 then none else v.ownBlock
theorem blk_pos {b off n c : Nat} (h : 0 < n) : blk (.slice (some ⟨b, off, none⟩) n c) n = some b := by unfold blk; rw [if_neg (by omega)]; rfl
theorem Own.blk {w : World} {lo n sz : Nat} {v : Value} {xs : List Value} (h : Own w lo v n sz xs) : ∀ k, blk v n = some k → lo ≤ k ∧ k < w.heap.size := by
  intro k hk
  obtain ⟨_, a, c, rfl, h2⟩ := h
  by_cases h0 : 0 < n
  · obtain ⟨b, off, rfl, hlo, hl, _⟩ := h2 h0
    rw [blk_pos h0] at hk
    cases hk; exact ⟨hlo, hl⟩
  · obtain rfl : n = 0 := by omega
    simp [Proofs.YtgiiclkjffdjgaaDoor.blk] at hk
theorem Rd.blk {w : World} {n sz : Nat} {v : Value} {xs : List Value} (h : Rd w v n sz xs) : ∀ k, blk v n = some k → k < w.heap.size := by
  intro k hk
  obtain ⟨_, a, c, rfl, h2⟩ := h
  by_cases h0 : 0 < n
  · obtain ⟨b, off, rfl, hl, _⟩ := h2 h0
    rw [blk_pos h0] at hk
    cases hk; exact hl
  · obtain rfl : n = 0 := by omega
    simp [Proofs.YtgiiclkjffdjgaaDoor.blk] at hk
/-- Nothing but the blocks s and d, and new ones, has turned. -/
structure Two (s d : Option Nat) (w w' : World) : Prop where
  os : w'.os = w.os
  tape : w'.tape = w.tape
  output : w'.output = w.output
  size : w.heap.size ≤ w'.heap.size
  block : ∀ k, k < w.heap.size → some k ≠ s → some k ≠ d → w'.heap[k]? = w.heap[k]?
theorem Two.below {s d : Option Nat} {w w' : World} (h : Two s d w w') {lo : Nat} (hs : ∀ k, s = some k → lo ≤ k) (hd : ∀ k, d = some k → lo ≤ k) (hw : lo ≤ w.heap.size) : Below lo w w' :=
  ⟨h.os, h.tape, h.output, h.size, fun k hk => h.block k (by omega) (fun e => by have := hs k e.symm; omega) (fun e => by have := hd k e.symm; omega)⟩
theorem Two.refl (s d : Option Nat) (w : World) : Two s d w w := ⟨rfl, rfl, rfl, Nat.le_refl _, fun _ _ _ _ => rfl⟩
theorem Two.trans {s d : Option Nat} {a b c : World} (h : Two s d a b) (k : Two s d b c) : Two s d a c :=
  ⟨k.os.trans h.os, k.tape.trans h.tape, k.output.trans h.output, Nat.le_trans h.size k.size, fun i hi h1 h2 => (k.block i (Nat.lt_of_lt_of_le hi h.size) h1 h2).trans (h.block i hi h1 h2)⟩
theorem two_left {s d : Option Nat} {w w' : World} (h : w.grownBy w' s) : Two s d w w' := ⟨h.os, h.tape, h.output, h.size, fun k hk h1 _ => h.block k hk h1⟩
theorem two_right {s d : Option Nat} {w w' : World} (h : w.grownBy w' d) : Two s d w w' := ⟨h.os, h.tape, h.output, h.size, fun k hk _ h2 => h.block k hk h2⟩
theorem two_below {s d : Option Nat} {w w' : World} (h : Below w.heap.size w w') : Two s d w w' := ⟨h.os, h.tape, h.output, h.size, fun k hk _ _ => h.block k hk⟩
theorem Rd.two {w w' : World} {n sz : Nat} {v : Value} {xs : List Value} {s d : Option Nat} (h : Rd w v n sz xs) (ht : Two s d w w') (hne : ∀ k, Proofs.YtgiiclkjffdjgaaDoor.blk v n = some k → some k ≠ s ∧ some k ≠ d) : Rd w' v n sz xs := by
  obtain ⟨h1, a, c, rfl, h2⟩ := h
  exact ⟨h1, a, c, rfl, fun h0 => by
    obtain ⟨b, off, rfl, hl, hc⟩ := h2 h0
    have hb := ht.block b hl (hne b (blk_pos h0)).1 (hne b (blk_pos h0)).2
    exact ⟨b, off, rfl, Nat.lt_of_lt_of_le hl ht.size, fun j hj => (World.cell?_of_block (w := w) (a := ⟨b, off + j, none⟩) hb).trans (hc j hj)⟩⟩
theorem Own.two {w w' : World} {lo n sz : Nat} {v : Value} {xs : List Value} {s d : Option Nat} (h : Own w lo v n sz xs) (ht : Two s d w w') (hne : ∀ k, Proofs.YtgiiclkjffdjgaaDoor.blk v n = some k → some k ≠ s ∧ some k ≠ d) : Own w' lo v n sz xs := by
  obtain ⟨h1, a, c, rfl, h2⟩ := h
  exact ⟨h1, a, c, rfl, fun h0 => by
    obtain ⟨b, off, rfl, hlo, hl, hc, hf⟩ := h2 h0
    have hb := ht.block b hl (hne b (blk_pos h0)).1 (hne b (blk_pos h0)).2
    exact ⟨b, off, rfl, hlo, Nat.lt_of_lt_of_le hl ht.size, fun j hj => (World.cell?_of_block (w := w) (a := ⟨b, off + j, none⟩) hb).trans (hc j hj), fun j hj => (World.frozen?_of_block (w := w) (a := ⟨b, off + j, none⟩) hb).trans (hf j hj)⟩⟩
theorem Own.other {w : World} {lo n sz : Nat} {v : Value} {xs : List Value} (h : Own w lo v n sz xs) (p : Addr) (x : Value) (hp : ∀ k, Proofs.YtgiiclkjffdjgaaDoor.blk v n = some k → k ≠ p.block) : Own (w.setCell p x) lo v n sz xs := by
  obtain ⟨h1, a, c, rfl, h2⟩ := h
  exact ⟨h1, a, c, rfl, fun h0 => by
    obtain ⟨b, off, rfl, hlo, hl, hc, hf⟩ := h2 h0
    have hb := Below.heap_setCell w p x b (hp b (blk_pos h0))
    exact ⟨b, off, rfl, hlo, by simpa using hl, fun j hj => (World.cell?_of_block (w := w) (a := ⟨b, off + j, none⟩) hb).trans (hc j hj), fun j hj => (World.frozen?_of_block (w := w) (a := ⟨b, off + j, none⟩) hb).trans (hf j hj)⟩⟩
end Go.Proofs.YtgiiclkjffdjgaaDoor

namespace Go.Proofs.YtgiiclkjffdjgaaDoor
open Go.RowKit

theorem Tryd.info9 : (Tryd.prog.info? 9).map (fun i => (i.zero, i.size, i.bytes)) = some (some (.string ByteArray.empty), 1, 16) := by kernel_rfl
def strs (l : List ByteArray) : List Value := l.map Value.string
theorem strs_length (l : List ByteArray) : (strs l).length = l.length := by simp [strs]
theorem strs_at (l : List ByteArray) (j : Nat) (h : j < l.length) : (strs l)[j]? = some (.string l[j]) := by simp [strs, h]

def CopyRel (w : World) (l : List ByteArray) (i : Value) (wr : World) : Prop :=
  ∃ k : Nat, k ≤ l.length ∧ i = .int .i64 k ∧ CellsAt wr w.heap.size 9 l.length (fun j => .string (if j < k then l.getD j ByteArray.empty else ByteArray.empty)) ∧ Below w.heap.size w wr
theorem made_strs {w1 : World} {g n : Nat} (h : w1.heap[g]? = some (.cells (List.replicate n (Value.string ByteArray.empty)).toArray 9 (0, 0))) : CellsAt w1 g 9 n (fun _ => .string ByteArray.empty) :=
  cellsAt_list h n _ (by simp) (fun j hj => by simp [hj])

set_option maxRecDepth 100000 in
set_option maxHeartbeats 1000000 in
theorem toStrs_any (v : Value) (l : List ByteArray) (w : World) (h : Rd w v l.length 1 (strs l)) (hn : l.length ≤ 1048576) :
    Calls Tryd.prog 21 #[v] w (MadeRow w l.length 1 (strs l)) := by
  obtain ⟨i0, hi, hz0, hz1, hz2⟩ := info_parts Tryd.info9
  obtain ⟨_, a, c, rfl, hc⟩ := h
  have HC := Lib.hid hc
  clear hc
  go_enter Tryd.func21, Tryd.ntmps21
  go_wp2_with (at_make; refine wpList_make_full _ rfl _ _ 23 rfl w.heap.size 9 i0 (.string ByteArray.empty) 1 Tryd.underlying23 hi hz0 hz1 .i64 .i64 _ _ l.length rfl rfl (by omega) (by omega) (by rw [hz2]; omega) (by unfold maxLen; omega) (Nat.le_refl _) ?_)
  intro w1 hown1 hgrow1
  have hb1 : Below w.heap.size w w1 := (Below.refl _ w).grown hgrow1 (Nat.le_refl _) (by simp)
  have hg1 := own_block hown1
  rw [toList_madeCells_one] at hg1
  have HG1 := Lib.hid (made_strs hg1)
  have HB1 := Lib.hid hb1
  clear hown1 hgrow1 hg1 hb1 hi hz0 hz1 hz2
  go_wp2_with fail
  go_loopw [4] (fun i wr => CopyRel w l i wr) (fun i _ => l.length - (intOf i).toNat)
  case atStart => exact ⟨0, by omega, rfl, HG1.out, HB1.out⟩
  case round =>
    clear HG1 HB1
    obtain ⟨k, hk, rfl, hcs, hbel⟩ := hrel
    by_cases hlt : k < l.length
    · obtain ⟨b, off, rfl, hbl, hcell⟩ := HC.out (by omega)
      have hc1 : wr.cell? ⟨b, off + k, none⟩ = some (.string l[k]) := by
        rw [hbel.cell (p := ⟨b, off + k, none⟩) hbl, hcell k (by omega), strs_at l k hlt]
      have hc2 := hcs.cell k hlt
      have hf2 := hcs.frozen k
      have hne : ¬ b = w.heap.size := by omega
      have HCS := Lib.hid hcs
      have HBEL := Lib.hid hbel
      clear hcs hbel hcell
      go_wp2_with fail
      go_roundw
      case rel =>
        refine ⟨k + 1, by omega, by go_num, ?_, HBEL.out.setCell (p := ⟨w.heap.size, k, none⟩) (Nat.le_refl _) _⟩
        refine HCS.out.set k _ ?_ ?_
        · show Value.string (if k < k + 1 then l.getD k ByteArray.empty else ByteArray.empty) = _
          rw [if_pos (by omega), List.getD_eq_getElem?_getD, List.getElem?_eq_getElem hlt]; rfl
        · intro i hi
          show Value.string (if i < k + 1 then l.getD i ByteArray.empty else ByteArray.empty) = .string (if i < k then l.getD i ByteArray.empty else ByteArray.empty)
          by_cases h1 : i < k
          · rw [if_pos h1, if_pos (by omega)]
          · rw [if_neg h1, if_neg (by omega)]
      case measure => simp [intOf]; omega
    · obtain rfl : k = l.length := by omega
      have HCS := Lib.hid hcs
      have HBEL := Lib.hid hbel
      clear hcs hbel
      go_wp2_with fail
      go_ret
      refine ⟨_, rfl, ?_, HBEL.out⟩
      refine own_of_cells HCS.out (Nat.le_refl _) (by omega) (by rw [strs_length]; omega) (fun j hj => ?_)
      rw [strs_at l j (by omega), if_pos (by omega), List.getD_eq_getElem?_getD, List.getElem?_eq_getElem (by omega)]; rfl

/-- What is left of a measure: less than nothing, or all was within it. -/
def Left (P : Prop) (w : World) (e : Ending) (w' : World) : Prop := ∃ r : Int, e = .returned (.int .i64 r) ∧ w = w' ∧ (r = -1 ∨ 0 ≤ r ∧ P)
def LeftIn (left : Int) (P : Prop) (w : World) (e : Ending) (w' : World) : Prop := ∃ r : Int, e = .returned (.int .i64 r) ∧ w = w' ∧ (r = -1 ∨ 0 ≤ r ∧ r ≤ left ∧ P)
def SizeRel (l : List ByteArray) (left : Int) (x i : Value) : Prop :=
  ∃ (k : Nat) (r : Int), k ≤ l.length ∧ i = .int .i64 k ∧ x = .int .i64 r ∧ 0 ≤ r ∧ r ≤ left ∧ ∀ j (h : j < l.length), j < k → (l[j].size : Int) ≤ left
set_option maxRecDepth 100000 in
set_option maxHeartbeats 1000000 in
theorem szStrs_any (v : Value) (l : List ByteArray) (left : Int) (w : World) (h : Rd w v l.length 1 (strs l)) (hn : l.length ≤ maxLen) (hs : ∀ s ∈ l, s.size ≤ maxLen) (h0 : 0 ≤ left) (h1 : left ≤ 1048576) :
    Calls Tryd.prog 20 #[v, .int .i64 left] w (LeftIn left (l.length ≤ left ∧ ∀ s ∈ l, (s.size : Int) ≤ left) w) := by
  unfold maxLen at hn hs
  obtain ⟨_, a, c, rfl, hc⟩ := h
  have HC := Lib.hid hc
  have HS := Lib.hid hs
  clear hc hs
  by_cases hlen : left - l.length < 0
  · go_enter Tryd.func20, Tryd.ntmps20
    go_wp2_with fail
    go_ret
    exact ⟨-1, rfl, rfl, .inl rfl⟩
  · have d0 : decide (left - (l.length : Int) < 0) = false := decide_eq_false hlen
    go_enter Tryd.func20, Tryd.ntmps20
    go_wp2_with fail
    go_loop [1, 5] (fun x i => SizeRel l left x i) (fun _ i => l.length - (intOf i).toNat)
    case atStart => exact ⟨0, _, by omega, rfl, rfl, by omega, by omega, fun j _ hj => absurd hj (by omega)⟩
    case round =>
      obtain ⟨k, r, hk, rfl, rfl, hr0, hr1, hsz⟩ := hrel
      have HSZ := Lib.hid hsz
      clear hsz
      by_cases hlt : k < l.length
      · obtain ⟨b, off, rfl, hbl, hcell⟩ := HC.out (by omega)
        have hc1 : w.cell? ⟨b, off + k, none⟩ = some (.string l[k]) := by rw [hcell k (by omega), strs_at l k hlt]
        have hsk := HS.out l[k] (List.getElem_mem hlt)
        clear hcell
        by_cases hneg : r - (l[k].size : Int) < 0
        · go_wp2_with fail
          go_ret
          exact ⟨-1, rfl, rfl, .inl rfl⟩
        · have d1 : decide (r - (l[k].size : Int) < 0) = false := decide_eq_false hneg
          have hsl : (l[k].size : Int) ≤ left := by omega
          go_wp2_with fail
          go_round
          case rel =>
            refine ⟨k + 1, _, by omega, by go_num, rfl, by omega, by omega, fun j h hj => ?_⟩
            by_cases hjk : j = k
            · subst hjk; exact hsl
            · exact HSZ.out j h (by omega)
          case measure => simp [intOf]; omega
      · obtain rfl : k = l.length := by omega
        go_wp2_with fail
        go_ret
        refine ⟨r, rfl, rfl, .inr ⟨hr0, hr1, by omega, fun s hs => ?_⟩⟩
        obtain ⟨j, hj, rfl⟩ := List.getElem_of_mem hs
        exact HSZ.out j hj hj

def EqRel (w : World) (n : Nat) (i : Value) (wr : World) : Prop := ∃ k : Nat, k ≤ n ∧ i = .int .i64 k ∧ Still w wr
set_option maxRecDepth 100000 in
set_option maxHeartbeats 1000000 in
theorem eqStrs_any (v u : Value) (l : List ByteArray) (w : World) (h : Rd w v l.length 1 (strs l)) (k : Rd w u l.length 1 (strs l)) (hn : l.length ≤ maxLen) :
    Calls Tryd.prog 22 #[v, u] w fun e w' => e = .returned (.bool true) ∧ Still w w' := by
  unfold maxLen at hn
  obtain ⟨_, a, c, rfl, hc⟩ := h
  obtain ⟨_, a', c', rfl, hc'⟩ := k
  have HC := Lib.hid hc
  have HC' := Lib.hid hc'
  clear hc hc'
  have d0 : ((l.length : Int) != (l.length : Int)) = false := by simp
  go_enter Tryd.func22, Tryd.ntmps22
  go_wp2_with fail
  go_loopw [5] (fun i wr => EqRel w l.length i wr) (fun i _ => l.length - (intOf i).toNat)
  case atStart => exact ⟨0, by omega, rfl, Still.refl w⟩
  case round =>
    obtain ⟨k, hk, rfl, hst⟩ := hrel
    by_cases hlt : k < l.length
    · obtain ⟨b, off, rfl, hbl, hcell⟩ := HC.out (by omega)
      obtain ⟨b', off', rfl, hbl', hcell'⟩ := HC'.out (by omega)
      have hc1 : wr.cell? ⟨b, off + k, none⟩ = some (.string l[k]) := by
        rw [(hst.below w.heap.size).cell (p := ⟨b, off + k, none⟩) hbl, hcell k (by omega), strs_at l k hlt]
      have hc2 : wr.cell? ⟨b', off' + k, none⟩ = some (.string l[k]) := by
        rw [(hst.below w.heap.size).cell (p := ⟨b', off' + k, none⟩) hbl', hcell' k (by omega), strs_at l k hlt]
      have HST := Lib.hid hst
      clear hcell hcell' hst
      have e0 : (k : Int) < (l.length : Int) := by omega
      have e1 : (0 : Int) ≤ (k : Int) := by omega
      go_wp2_with fail
      go_quiet (fail)
      go_wp2_with fail
      go_roundw
      case rel => exact ⟨k + 1, by omega, by go_num, HST.out.trans ⟨_, rfl⟩⟩
      case measure => simp [intOf]; omega
    · obtain rfl : k = l.length := by omega
      go_wp2_with fail
      go_ret
      exact ⟨rfl, hst⟩
end Go.Proofs.YtgiiclkjffdjgaaDoor

namespace Go.Proofs.YtgiiclkjffdjgaaDoor
open Go.RowKit

def dig (k : Nat) : UInt8 := UInt8.ofNat (48 + k % 10)
theorem dig_val (n : Nat) : (48 + (n : Int) % 10) = ((dig n).toNat : Int) := by
  unfold dig; rw [UInt8.toNat_ofNat']; omega
def digs (k : Nat) (acc : List UInt8) : List UInt8 := if _h : k = 0 then acc else digs (k / 10) (dig k :: acc)
termination_by k
decreasing_by omega
theorem digs_zero (acc : List UInt8) : digs 0 acc = acc := by rw [digs, dif_pos rfl]
theorem digs_more (k : Nat) (acc : List UInt8) (h : 0 < k) : digs k acc = digs (k / 10) (dig k :: acc) := by rw [digs, dif_neg (by omega)]
/-- A list of bytes as a string. -/
def accS (l : List UInt8) : ByteArray := ⟨l.toArray⟩
theorem accS_size (l : List UInt8) : (accS l).size = l.length := by show l.toArray.size = _; simp
theorem accS_cons (x : UInt8) (l : List UInt8) : accS [x] ++ accS l = accS (x :: l) := by
  apply ByteArray.ext; simp [accS]
/-- The text of the number k. -/
def markS (k : Nat) : ByteArray := accS (109 :: digs k [])
def MarkRel (k0 : Nat) (w : World) (n t : Value) (wr : World) : Prop :=
  ∃ (k : Nat) (acc : List UInt8), n = .int .i64 k ∧ t = .string (accS acc) ∧ acc.length ≤ 11 ∧ digs k acc = digs k0 [] ∧ k * 10 ^ acc.length ≤ k0 ∧ Below w.heap.size w wr
theorem len_bound (k k0 n : Nat) (h : 0 < k) (hb : k * 10 ^ n ≤ k0) (h0 : k0 ≤ 10000000000) : n ≤ 10 := by
  have h1 : 10 ^ n ≤ k0 := Nat.le_trans (Nat.le_mul_of_pos_left _ h) hb
  have h2 : 10 ^ n ≤ 10 ^ 10 := Nat.le_trans h1 h0
  exact (Nat.pow_le_pow_iff_right (by decide)).1 h2
theorem next_bound (k k0 n : Nat) (hb : k * 10 ^ n ≤ k0) : k / 10 * 10 ^ (n + 1) ≤ k0 := by
  have : k / 10 * 10 ^ (n + 1) ≤ k * 10 ^ n := by
    rw [Nat.pow_succ, Nat.mul_comm (10 ^ n) 10, ← Nat.mul_assoc]
    exact Nat.mul_le_mul_right _ (by omega)
  omega

def marks (k n : Nat) : List Value := (List.range n).map fun j => .string (markS (k + j))
theorem marks_length (k n : Nat) : (marks k n).length = n := by simp [marks]
/-- The first i marked, the others as they were. -/
def marked (k i : Nat) (xs : List Value) : List Value := (List.range xs.length).map fun j => if j < i then .string (markS (k + j)) else xs.getD j undef
theorem marked_length (k i : Nat) (xs : List Value) : (marked k i xs).length = xs.length := by simp [marked]
theorem marked_zero (k : Nat) (xs : List Value) : marked k 0 xs = xs := by
  apply List.ext_getElem
  · simp [marked]
  · intro j h1 h2; simp [marked, h2]
theorem marked_all (k : Nat) (xs : List Value) : marked k xs.length xs = marks k xs.length := by
  apply List.ext_getElem
  · simp [marked, marks]
  · intro j h1 h2; simp [marked] at h1; simp [marked, marks, h1]
theorem marked_set (k i : Nat) (xs : List Value) (_h : i < xs.length) : (marked k i xs).set i (.string (markS (k + i))) = marked k (i + 1) xs := by
  apply List.ext_getElem
  · simp [marked]
  · intro j h1 h2
    rw [List.getElem_set]
    by_cases hj : i = j
    · subst hj; simp [marked]
    · rw [if_neg hj]; simp only [marked, List.getElem_map, List.getElem_range]
      by_cases hji : j < i
      · rw [if_pos hji, if_pos (by omega)]
      · rw [if_neg hji, if_neg (by omega)]

/-- What marking a slice does: its cells turn, and nothing else that was there. -/
def Marked (lo : Nat) (v : Value) (n sz : Nat) (xs : List Value) (r : Int) (w : World) (e : Ending) (w' : World) : Prop :=
  e = .returned (.int .i64 r) ∧ Own w' lo v n sz xs ∧ w.grownBy w' (blk v n)
def MarkSRel (lo : Nat) (v : Value) (k n : Nat) (xs : List Value) (w : World) (q i : Value) (wr : World) : Prop :=
  ∃ j : Nat, j ≤ n ∧ q = .int .i64 ((k + j : Nat) : Int) ∧ i = .int .i64 j ∧ Own wr lo v n 1 (marked k j xs) ∧ w.grownBy wr (blk v n)
/-- What looking at a marked slice gives. -/
def Held (r : Int) (w : World) (e : Ending) (w' : World) : Prop := e = .returned (.int .i64 r) ∧ Below w.heap.size w w'
def HeldRel (k n : Nat) (w : World) (q i : Value) (wr : World) : Prop :=
  ∃ j : Nat, j ≤ n ∧ q = .int .i64 ((k + j : Nat) : Int) ∧ i = .int .i64 j ∧ Below w.heap.size w wr
theorem marks_at (k n j : Nat) (h : j < n) : (marks k n)[j]? = some (.string (markS (k + j))) := by simp [marks, h]
end Go.Proofs.YtgiiclkjffdjgaaDoor

namespace Go.Proofs.YtgiiclkjffdjgaaDoor
open Go.RowKit

abbrev D := Int × ByteArray
def dV (d : D) : Value := .agg #[.int .i64 d.1, .string d.2]
def dirs : List D → List Value
  | [] => []
  | d :: l => .int .i64 d.1 :: .string d.2 :: dirs l
theorem dirs_length : ∀ l : List D, (dirs l).length = l.length * 2
  | [] => rfl
  | d :: l => by simp [dirs, dirs_length l]; omega
theorem dirs_even : ∀ (l : List D) (j : Nat) (h : j < l.length), (dirs l)[j * 2]? = some (.int .i64 l[j].1)
  | d :: l, 0, _ => rfl
  | d :: l, j + 1, h => by
    rw [show (j + 1) * 2 = j * 2 + 1 + 1 by omega]
    simpa [dirs] using dirs_even l j (by simpa using h)
theorem dirs_odd : ∀ (l : List D) (j : Nat) (h : j < l.length), (dirs l)[j * 2 + 1]? = some (.string l[j].2)
  | d :: l, 0, _ => rfl
  | d :: l, j + 1, h => by
    rw [show (j + 1) * 2 + 1 = j * 2 + 1 + 1 + 1 by omega]
    simpa [dirs] using dirs_odd l j (by simpa using h)

/-- As LeftIn, memory having been made. -/
def LeftB (left : Int) (P : Prop) (w : World) (e : Ending) (w' : World) : Prop := ∃ r : Int, e = .returned (.int .i64 r) ∧ Below w.heap.size w w' ∧ (r = -1 ∨ 0 ≤ r ∧ r ≤ left ∧ P)
theorem own_block' {w : World} {base e g n sz : Nat} {xs : List Value} (h : w.ownsRow base e sz (.slice (some ⟨g, 0, none⟩) n n) n xs) : w.heap[g]? = some (.cells xs.toArray e (0, 0)) := by
  rcases h.2 with ⟨h', _⟩ | ⟨g', cap', cur, h', _, hg, _, _, hs, htake⟩
  · simp at h'
  · simp only [Value.slice.injEq, Option.some.injEq, Addr.mk.injEq, and_true, true_and] at h'
    obtain ⟨rfl, rfl⟩ := h'
    rw [hg, ← htake, List.take_of_length_le (by simp [hs])]
/-- The first k of l laid, the others at zero. -/
def dPart (l : List D) (k j : Nat) : Value := if j < k * 2 then (dirs l).getD j undef else if j % 2 = 0 then .int .i64 0 else .string ByteArray.empty
theorem d_laid {w2 : World} {g n k : Nat} {T : TypeId} {l : List D} (h : CellsAt w2 g T n (dPart l k)) (hk : k < l.length) :
    CellsAt ((w2.setCell ⟨g, k * 2, none⟩ (.int .i64 l[k].1)).setCell ⟨g, k * 2 + 1, none⟩ (.string l[k].2)) g T n (dPart l (k + 1)) := by
  refine ((h.set (v' := fun j => if j = k * 2 then .int .i64 l[k].1 else dPart l k j) (k * 2) _ (if_pos rfl) (fun i hi => if_neg hi)).set (v' := fun j => if j = k * 2 + 1 then .string l[k].2 else if j = k * 2 then .int .i64 l[k].1 else dPart l k j) (k * 2 + 1) _ (if_pos rfl) (fun i hi => if_neg hi)).congr fun j _ => ?_
  have e1 := dirs_even l k hk
  have e2 := dirs_odd l k hk
  by_cases h1 : j = k * 2 + 1
  · subst h1; simp [dPart, e2]; try omega
  · by_cases h2 : j = k * 2
    · subst h2; simp [dPart, e1]; try omega
    · simp only [h1, h2, if_false, dPart]
      by_cases h3 : j < k * 2
      · rw [if_pos h3, if_pos (by omega)]
      · rw [if_neg h3, if_neg (by omega)]

def DSizeRel (l : List D) (left : Int) (w : World) (x i : Value) (wr : World) : Prop :=
  ∃ (k : Nat) (r : Int), k ≤ l.length ∧ i = .int .i64 k ∧ x = .int .i64 r ∧ 0 ≤ r ∧ r ≤ left ∧ (∀ j (h : j < l.length), j < k → (l[j].2.size : Int) ≤ left) ∧ Below w.heap.size w wr
def DEqRel (w : World) (n : Nat) (i : Value) (wr : World) : Prop := ∃ k : Nat, k ≤ n ∧ i = .int .i64 k ∧ Below w.heap.size w wr
/-- The mark of cell j: a number where j is even, a text where it is odd. -/
def markCell (k j : Nat) : Value := if j % 2 = 0 then .int .i64 ((k + j : Nat) : Int) else .string (markS (k + j))
def marksD (k n : Nat) : List Value := (List.range (n * 2)).map (markCell k)
def markedD (k i : Nat) (xs : List Value) : List Value := (List.range xs.length).map fun j => if j < i then markCell k j else xs.getD j undef
theorem markedD_length (k i : Nat) (xs : List Value) : (markedD k i xs).length = xs.length := by simp [markedD]
theorem markedD_zero (k : Nat) (xs : List Value) : markedD k 0 xs = xs := by
  apply List.ext_getElem
  · simp [markedD]
  · intro j h1 h2; simp [markedD, h2]
theorem markedD_all (k n : Nat) (xs : List Value) (h : xs.length = n * 2) : markedD k (n * 2) xs = marksD k n := by
  apply List.ext_getElem
  · simp [markedD, marksD, h]
  · intro j h1 h2; simp [markedD, h] at h1; simp [markedD, marksD, h1]
theorem markedD_set (k i : Nat) (xs : List Value) : (markedD k i xs).set i (markCell k i) = markedD k (i + 1) xs := by
  apply List.ext_getElem
  · simp [markedD]
  · intro j h1 h2
    rw [List.getElem_set]
    by_cases hj : i = j
    · subst hj; simp [markedD]
    · rw [if_neg hj]; simp only [markedD, List.getElem_map, List.getElem_range]
      by_cases hji : j < i
      · rw [if_pos hji, if_pos (by omega)]
      · rw [if_neg hji, if_neg (by omega)]
theorem markCell_even (k j : Nat) : markCell k (j * 2) = .int .i64 ((k + j * 2 : Nat) : Int) := by unfold markCell; rw [if_pos (by omega)]
theorem markCell_odd (k j : Nat) : markCell k (j * 2 + 1) = .string (markS (k + j * 2 + 1)) := by unfold markCell; rw [if_neg (by omega)]; rfl
theorem marksD_at (k n j : Nat) (h : j < n * 2) : (marksD k n)[j]? = some (markCell k j) := by simp [marksD, h]

def MarkDRel (lo : Nat) (v : Value) (k n : Nat) (xs : List Value) (w : World) (q i : Value) (wr : World) : Prop :=
  ∃ j : Nat, j ≤ n ∧ q = .int .i64 ((k + j * 2 : Nat) : Int) ∧ i = .int .i64 j ∧ Own wr lo v n 2 (markedD k (j * 2) xs) ∧ w.grownBy wr (blk v n)
theorem Own.cellEx {w : World} {lo n sz c b off : Nat} {xs : List Value} (h : Own w lo (.slice (some ⟨b, off, none⟩) n c) n sz xs) (j : Nat) (hj : j < n * sz) : (∃ v, w.cell? ⟨b, off + j, none⟩ = some v) ∧ w.frozen? ⟨b, off + j, none⟩ = false := by
  have hn : 0 < n := by
    rcases Nat.eq_zero_or_pos n with h0 | h0
    · subst h0; simp at hj
    · exact h0
  obtain ⟨b', off', e, _, _, hc, hf⟩ := h.get hn
  simp only [Option.some.injEq, Addr.mk.injEq, and_true] at e
  obtain ⟨rfl, rfl⟩ := e
  refine ⟨⟨xs[j]'(by rw [h.1]; exact hj), ?_⟩, hf j hj⟩
  rw [hc j hj, List.getElem?_eq_getElem (by rw [h.1]; exact hj)]

def HeldDRel (k n : Nat) (w : World) (q i : Value) (wr : World) : Prop :=
  ∃ j : Nat, j ≤ n ∧ q = .int .i64 ((k + j * 2 : Nat) : Int) ∧ i = .int .i64 j ∧ Below w.heap.size w wr
end Go.Proofs.YtgiiclkjffdjgaaDoor

namespace Go.Proofs.YtgiiclkjffdjgaaDoor
open Go.RowKit

def FitZ (l : List ByteArray) : Prop := ∀ s ∈ l, s.size ≤ maxLen
theorem szStrs2 (v : Value) (l : List ByteArray) (left : Int) (w : World) (h : Rd w v l.length 1 (strs l)) (hn : l.length ≤ maxLen) (hs : FitZ l) (h0 : 0 ≤ left) (h1 : left ≤ 1048576) :
    Calls Tryd.prog 20 #[v, .int .i64 left] w (LeftB left (l.length ≤ left) w) :=
  (szStrs_any v l left w h hn hs h0 h1).mono fun _ _ ⟨r, e, b, c⟩ => ⟨r, e, b ▸ Below.refl _ _, c.imp id fun ⟨x, y, z⟩ => ⟨x, y, z.1⟩⟩
theorem cz_end : True := trivial
end Go.Proofs.YtgiiclkjffdjgaaDoor

namespace Go.Proofs.YtgiiclkjffdjgaaDoor
open Go.RowKit

abbrev stpT := Int × Int × Int × ByteArray
def stpCs : List stpT → List Value
  | [] => []
  | d :: l => .int .i64 d.1 :: .int .i64 d.2.1 :: .int .i64 d.2.2.1 :: .string d.2.2.2 :: stpCs l
theorem stpCs_length : ∀ l : List stpT, (stpCs l).length = l.length * 4
  | [] => rfl
  | d :: l => by simp [stpCs, stpCs_length l]; omega
theorem stpCs_0 : ∀ (l : List stpT) (k : Nat) (h : k < l.length), (stpCs l)[k * 4]? = some (.int .i64 l[k].1)
  | d :: l, 0, _ => rfl
  | d :: l, k + 1, h => by
    rw [show (k + 1) * 4 = k * 4 + 1 + 1 + 1 + 1 by omega]
    simpa [stpCs] using stpCs_0 l k (by simpa using h)
theorem stpCs_1 : ∀ (l : List stpT) (k : Nat) (h : k < l.length), (stpCs l)[k * 4 + 1]? = some (.int .i64 l[k].2.1)
  | d :: l, 0, _ => rfl
  | d :: l, k + 1, h => by
    rw [show (k + 1) * 4 + 1 = k * 4 + 1 + 1 + 1 + 1 + 1 by omega]
    simpa [stpCs] using stpCs_1 l k (by simpa using h)
theorem stpCs_2 : ∀ (l : List stpT) (k : Nat) (h : k < l.length), (stpCs l)[k * 4 + 2]? = some (.int .i64 l[k].2.2.1)
  | d :: l, 0, _ => rfl
  | d :: l, k + 1, h => by
    rw [show (k + 1) * 4 + 2 = k * 4 + 2 + 1 + 1 + 1 + 1 by omega]
    simpa [stpCs] using stpCs_2 l k (by simpa using h)
theorem stpCs_3 : ∀ (l : List stpT) (k : Nat) (h : k < l.length), (stpCs l)[k * 4 + 3]? = some (.string l[k].2.2.2)
  | d :: l, 0, _ => rfl
  | d :: l, k + 1, h => by
    rw [show (k + 1) * 4 + 3 = k * 4 + 3 + 1 + 1 + 1 + 1 by omega]
    simpa [stpCs] using stpCs_3 l k (by simpa using h)
theorem stpCs_append : ∀ (a b : List stpT), stpCs (a ++ b) = stpCs a ++ stpCs b
  | [], b => rfl
  | d :: a, b => by simp only [List.cons_append, stpCs]; rw [stpCs_append a b]
theorem Tryd.infostp : (Tryd.prog.info? 33).map (fun i => (i.zero, i.size, i.bytes)) = some (some (.agg #[.int .i64 0, .int .i64 0, .int .i64 0, .string ByteArray.empty]), 4, 40) := by kernel_rfl
def stpPart (l : List stpT) (k j : Nat) : Value := if j < k * 4 then (stpCs l).getD j undef else if j % 4 = 0 then .int .i64 0 else if j % 4 = 1 then .int .i64 0 else if j % 4 = 2 then .int .i64 0 else .string ByteArray.empty
def stpCopyRel (w : World) (l : List stpT) (i : Value) (wr : World) : Prop :=
  ∃ k : Nat, k ≤ l.length ∧ i = .int .i64 k ∧ CellsAt wr w.heap.size 33 (l.length * 4) (stpPart l k) ∧ Below w.heap.size w wr
theorem made_stp {w1 : World} {g n : Nat} {l : List stpT} (h : w1.heap[g]? = some (.cells (madeCells #[Value.int .i64 0, Value.int .i64 0, Value.int .i64 0, Value.string ByteArray.empty] (n * 4)).toList.toArray 33 (0, 0))) : CellsAt w1 g 33 (n * 4) (stpPart l 0) := by
  refine cellsAt_list h (n * 4) _ (by simp [madeCells]) (fun j hj => ?_)
  have h2 : j % 4 = 0 ∨ j % 4 = 1 ∨ j % 4 = 2 ∨ j % 4 = 3 := by omega
  rcases h2 with h2 | h2 | h2 | h2 <;> simp [madeCells, hj, stpPart, h2]
theorem stp_laid {w2 : World} {g n k : Nat} {T : TypeId} {l : List stpT} (h : CellsAt w2 g T n (stpPart l k)) (hk : k < l.length) :
    CellsAt ((((w2.setCell ⟨g, k * 4, none⟩ (.int .i64 l[k].1)).setCell ⟨g, k * 4 + 1, none⟩ (.int .i64 l[k].2.1)).setCell ⟨g, k * 4 + 2, none⟩ (.int .i64 l[k].2.2.1)).setCell ⟨g, k * 4 + 3, none⟩ (.string l[k].2.2.2)) g T n (stpPart l (k + 1)) := by
  refine ((((h.set (v' := fun j => if j = k * 4 then .int .i64 l[k].1 else stpPart l k j) (k * 4) _ (if_pos rfl) (fun i hi => if_neg hi)).set (v' := fun j => if j = k * 4 + 1 then .int .i64 l[k].2.1 else if j = k * 4 then .int .i64 l[k].1 else stpPart l k j) (k * 4 + 1) _ (if_pos rfl) (fun i hi => if_neg hi)).set (v' := fun j => if j = k * 4 + 2 then .int .i64 l[k].2.2.1 else if j = k * 4 + 1 then .int .i64 l[k].2.1 else if j = k * 4 then .int .i64 l[k].1 else stpPart l k j) (k * 4 + 2) _ (if_pos rfl) (fun i hi => if_neg hi)).set (v' := fun j => if j = k * 4 + 3 then .string l[k].2.2.2 else if j = k * 4 + 2 then .int .i64 l[k].2.2.1 else if j = k * 4 + 1 then .int .i64 l[k].2.1 else if j = k * 4 then .int .i64 l[k].1 else stpPart l k j) (k * 4 + 3) _ (if_pos rfl) (fun i hi => if_neg hi)).congr fun j _ => ?_
  have e0 := stpCs_0 l k hk
  have e1 := stpCs_1 l k hk
  have e2 := stpCs_2 l k hk
  have e3 := stpCs_3 l k hk
  by_cases h3 : j = k * 4 + 3
  · subst h3; simp [stpPart, e3]; try omega
  by_cases h2 : j = k * 4 + 2
  · subst h2; simp [stpPart, e2]; try omega
  by_cases h1 : j = k * 4 + 1
  · subst h1; simp [stpPart, e1]; try omega
  by_cases h0 : j = k * 4
  · subst h0; simp [stpPart, e0]; try omega
  simp only [h0, h1, h2, h3, if_false, stpPart]
  by_cases h9 : j < k * 4
  · rw [if_pos h9, if_pos (by omega)]
  · rw [if_neg h9, if_neg (by omega)]

def stpSizeRel (l : List stpT) (left : Int) (w : World) (x i : Value) (wr : World) : Prop :=
  ∃ (k : Nat) (r : Int), k ≤ l.length ∧ i = .int .i64 k ∧ x = .int .i64 r ∧ 0 ≤ r ∧ r ≤ left ∧ (∀ j (h : j < l.length), j < k → (l[j].2.2.2.size : Int) ≤ left) ∧ Below w.heap.size w wr
/-- The mark of cell j. -/
def stpMark (k j : Nat) : Value := if j % 4 = 0 then .int .i64 ((k + j : Nat) : Int) else if j % 4 = 1 then .int .i64 ((k + j : Nat) : Int) else if j % 4 = 2 then .int .i64 ((k + j : Nat) : Int) else .string (markS (k + j))
def stpMarks (k n : Nat) : List Value := (List.range (n * 4)).map (stpMark k)
def stpMarked (k i : Nat) (xs : List Value) : List Value := (List.range xs.length).map fun j => if j < i then stpMark k j else xs.getD j undef
theorem stpMarked_zero (k : Nat) (xs : List Value) : stpMarked k 0 xs = xs := by
  apply List.ext_getElem
  · simp [stpMarked]
  · intro j h1 h2; simp [stpMarked, h2]
theorem stpMarked_all (k n : Nat) (xs : List Value) (h : xs.length = n * 4) : stpMarked k (n * 4) xs = stpMarks k n := by
  apply List.ext_getElem
  · simp [stpMarked, stpMarks, h]
  · intro j h1 h2; simp [stpMarked, h] at h1; simp [stpMarked, stpMarks, h1]
theorem stpMarked_set (k i : Nat) (xs : List Value) : (stpMarked k i xs).set i (stpMark k i) = stpMarked k (i + 1) xs := by
  apply List.ext_getElem
  · simp [stpMarked]
  · intro j h1 h2
    rw [List.getElem_set]
    by_cases hj : i = j
    · subst hj; simp [stpMarked]
    · rw [if_neg hj]; simp only [stpMarked, List.getElem_map, List.getElem_range]
      by_cases hji : j < i
      · rw [if_pos hji, if_pos (by omega)]
      · rw [if_neg hji, if_neg (by omega)]
theorem stpMarks_at (k n j : Nat) (h : j < n * 4) : (stpMarks k n)[j]? = some (stpMark k j) := by simp [stpMarks, h]
theorem stpMark_0 (k j : Nat) : stpMark k (j * 4) = .int .i64 ((k + j * 4 : Nat) : Int) := by unfold stpMark; rw [if_pos (by omega)]
theorem stpMark_1 (k j : Nat) : stpMark k (j * 4 + 1) = .int .i64 ((k + j * 4 + 1 : Nat) : Int) := by unfold stpMark; rw [if_neg (by omega), if_pos (by omega)]; rfl
theorem stpMark_2 (k j : Nat) : stpMark k (j * 4 + 2) = .int .i64 ((k + j * 4 + 2 : Nat) : Int) := by unfold stpMark; rw [if_neg (by omega), if_neg (by omega), if_pos (by omega)]; rfl
theorem stpMark_3 (k j : Nat) : stpMark k (j * 4 + 3) = .string (markS (k + j * 4 + 3)) := by unfold stpMark; rw [if_neg (by omega), if_neg (by omega), if_neg (by omega)]; rfl
def stpMarkRel (lo : Nat) (v : Value) (k n : Nat) (xs : List Value) (w : World) (q i : Value) (wr : World) : Prop :=
  ∃ j : Nat, j ≤ n ∧ q = .int .i64 ((k + j * 4 : Nat) : Int) ∧ i = .int .i64 j ∧ Own wr lo v n 4 (stpMarked k (j * 4) xs) ∧ w.grownBy wr (blk v n)
def stpHeldRel (k n : Nat) (w : World) (q i : Value) (wr : World) : Prop :=
  ∃ j : Nat, j ≤ n ∧ q = .int .i64 ((k + j * 4 : Nat) : Int) ∧ i = .int .i64 j ∧ Below w.heap.size w wr

end Go.Proofs.YtgiiclkjffdjgaaDoor
