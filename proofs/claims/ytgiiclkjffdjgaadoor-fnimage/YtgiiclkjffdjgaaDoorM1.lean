/- The ground texts of this claim, in one. -/
import Derived.Test.YtgiiclkjffdjgaaDoorRows
import Derived.WalkKit
import Derived.WalkSpells
import Derived.WalkLawsBesides
import Derived.Lib.Hide
import Derived.Below
import Derived.Laws.Rows
import Derived.Laws.CopyOwn
import Derived.Maps.Range
import Derived.Deep.QuietTactic
import Derived.BigQuiet
import Derived.BigRegion
import Derived.Deep.RegionHeld3
import Derived.StillTailTactics
import Derived.Deep.RegionWith
import Derived.Lib.Zigzag
import Derived.Lib.BufferWrite
import Derived.Deep.DeepCutAuto
import Derived.ArgAppend
import Derived.Deep.AppendLies
import Derived.Maps.AppendAt
namespace Go.Proofs.YtgiiclkjffdjgaaDoor
open Go.RowKit

theorem ret_bool {a b : Bool} (h : a = b) : Ending.returned (.bool a) = .returned (.bool b) := by rw [h]
def bt (s : ByteArray) (j : Nat) : Int := (s.data.getD j 0).toNat
theorem bt_at (s : ByteArray) (k : Nat) (h : k < s.size) : (s[k].toNat : Int) = bt s k := by
  unfold bt
  have : s.data.getD k 0 = s[k] := by
    have h' : k < s.data.size := h
    simp [Array.getD, h]; rfl
  rw [this]

theorem ret_int {k : IntKind} {a b : Int} (h : a = b) : Ending.returned (.int k a) = .returned (.int k b) := by rw [h]
theorem val_int {k : IntKind} {a b : Int} (h : a = b) : Value.int k a = .int k b := by rw [h]

theorem Tryd.info5 : (Tryd.prog.info? 5).map (fun i => (i.zero, i.size, i.bytes)) = some (some (.int .u8 0), 1, 1) := by kernel_rfl
def B (u : UInt8) : Value := .int .u8 (u.toNat : Int)


theorem conv_row {w : World} {base e g n cap c : Nat} {xs : List Value} (h : w.ownsRow base e 1 (.slice (some ⟨g, 0, none⟩) n cap) n xs) (l : List UInt8) (m : Nat) (hm : m = l.length) (hn : m ≤ n) (hx : xs.take m = l.map B) :
    (convert 22 9 (.slice (some ⟨g, 0, none⟩) m c)).run Tryd.prog w = .ok (.string ⟨l.toArray⟩) w := by
  subst hm
  refine run_convert_bytes_back w 22 9 5 ⟨g, 0, none⟩ c l Tryd.underlying22 Tryd.underlying5 Tryd.underlying9 fun j hj => ?_
  have e1 : ((⟨g, 0, none⟩ : Addr).add j) = ⟨g, j, none⟩ := by simp [Addr.add]; omega
  rw [e1, h.cellAt j (by omega)]
  have e2 : (xs.take l.length)[j]? = xs[j]? := by rw [List.getElem?_take, if_pos hj]
  rw [← e2, hx, List.getElem?_map, List.getElem?_eq_getElem hj]
  rfl

theorem one_cell (wr : World) (a b : Value) (h : a = b) : ∀ j u, [b][j]? = some u → (wr.alloc (.cells #[a] 5)).cell? ((⟨wr.heap.size, 0, none⟩ : Addr).add j) = some u := by
  intro j u hj
  match j, hj with
  | 0, hj => simp at hj; subst hj; subst h; simp [Addr.add]
theorem owned_below {w wr : World} {v : Value} {n : Nat} {xs : List Value} (h : wr.ownsRow w.heap.size 5 1 v n xs) : ∀ k, v.ownBlock = some k → w.heap.size ≤ k := fun k hk => (h.lt k hk).1
theorem owned_shape {w wr : World} {e : TypeId} {v : Value} {n : Nat} {xs : List Value} (h : wr.ownsRow w.heap.size e 1 v n xs) (hn : 0 < n) : ∃ g cap, v = .slice (some ⟨g, 0, none⟩) n cap := by
  rcases h.2 with ⟨_, h0⟩ | ⟨g, cap, cur, h', _⟩
  · omega
  · exact ⟨g, cap, h'⟩

theorem own_block {w : World} {base e g n : Nat} {xs : List Value} (h : w.ownsRow base e 1 (.slice (some ⟨g, 0, none⟩) n n) n xs) : w.heap[g]? = some (.cells xs.toArray e (0, 0)) := by
  rcases h.2 with ⟨h', _⟩ | ⟨g', cap', cur, h', _, hg, _, _, hs, htake⟩
  · simp at h'
  · simp only [Value.slice.injEq, Option.some.injEq, Addr.mk.injEq, and_true, true_and] at h'
    obtain ⟨rfl, rfl⟩ := h'
    rw [hg, ← htake, List.take_of_length_le (by simp [hs])]

theorem conv_block {w : World} {e g c : Nat} {xs : List Value} (h : w.heap[g]? = some (.cells xs.toArray e (0, 0))) (l : List UInt8) (m : Nat) (hm : m = l.length) (hx : xs = l.map B) :
    (convert 22 9 (.slice (some ⟨g, 0, none⟩) m c)).run Tryd.prog w = .ok (.string ⟨l.toArray⟩) w := by
  subst hm
  refine run_convert_bytes_back w 22 9 5 ⟨g, 0, none⟩ c l Tryd.underlying22 Tryd.underlying5 Tryd.underlying9 fun j hj => ?_
  have e1 : ((⟨g, 0, none⟩ : Addr).add j) = ⟨g, j, none⟩ := by simp [Addr.add]; omega
  rw [e1, cell_of_row w g j _ e (0, 0) h, hx]
  simp [hj, B]
theorem res_cells {K : Nat} {w w' : World} {a b c : Value} {T : TypeId} (hb : Below K (w.alloc (.cells #[a, b, c] T)).drew w') (hK : w.heap.size < K) :
    w'.cell? ⟨w.heap.size, 0, none⟩ = some a ∧ w'.cell? ⟨w.heap.size, 1, none⟩ = some b ∧ w'.cell? ⟨w.heap.size, 2, none⟩ = some c ∧
    w'.frozen? ⟨w.heap.size, 0, none⟩ = false ∧ w'.frozen? ⟨w.heap.size, 1, none⟩ = false ∧ w'.frozen? ⟨w.heap.size, 2, none⟩ = false := by
  have hc : ∀ j, w'.cell? ⟨w.heap.size, j, none⟩ = (#[a, b, c] : Array Value)[j]? := fun j =>
    (hb.cell (p := ⟨w.heap.size, j, none⟩) hK).trans (World.cell?_alloc_new (w := w) #[a, b, c] T j)
  have hf : ∀ j, w'.frozen? ⟨w.heap.size, j, none⟩ = false := fun j =>
    (hb.frozen (p := ⟨w.heap.size, j, none⟩) hK).trans (World.frozen?_alloc_at #[a, b, c] T w.heap.size j rfl)
  exact ⟨hc 0, hc 1, hc 2, hf 0, hf 1, hf 2⟩

theorem laid_cells {K : Nat} {w w' : World} {a b c : Value} {T : TypeId} (hb : Below K (w.alloc (.cells #[a, b, c] T)) w') (hK : w.heap.size < K) :
    w'.cell? ⟨w.heap.size, 0, none⟩ = some a ∧ w'.cell? ⟨w.heap.size, 1, none⟩ = some b ∧ w'.cell? ⟨w.heap.size, 2, none⟩ = some c := by
  have hc : ∀ j, w'.cell? ⟨w.heap.size, j, none⟩ = (#[a, b, c] : Array Value)[j]? := fun j =>
    (hb.cell (p := ⟨w.heap.size, j, none⟩) hK).trans (World.cell?_alloc_new (w := w) #[a, b, c] T j)
  exact ⟨hc 0, hc 1, hc 2⟩
theorem laid_size (w : World) (o : Obj) : w.heap.size < (w.alloc o).heap.size := by
  show _ < (w.heap.push _).size; simp
theorem res_below {K : Nat} {w w' : World} {o : Obj} (hb : Below K (w.alloc o).drew w') (hK : w.heap.size < K) (a b c : Value) :
    Below w.heap.size w (((w'.setCell ⟨w.heap.size, 0, none⟩ a).setCell ⟨w.heap.size, 1, none⟩ b).setCell ⟨w.heap.size, 2, none⟩ c) :=
  (((((Below.refl _ w).alloc (Nat.le_refl _) o).drew.trans (hb.mono (Nat.le_of_lt hK))).setCell (p := ⟨w.heap.size, 0, none⟩) (Nat.le_refl _) a).setCell (p := ⟨w.heap.size, 1, none⟩) (Nat.le_refl _) b).setCell (p := ⟨w.heap.size, 2, none⟩) (Nat.le_refl _) c
theorem res_size (w : World) (o : Obj) : w.heap.size < (w.alloc o).drew.heap.size := by
  show _ < (w.heap.push _).size; simp
theorem res_below0 (w : World) (o : Obj) (a b c : Value) :
    Below w.heap.size w ((((w.alloc o).setCell ⟨w.heap.size, 0, none⟩ a).setCell ⟨w.heap.size, 1, none⟩ b).setCell ⟨w.heap.size, 2, none⟩ c) :=
  ((((Below.refl _ w).alloc (Nat.le_refl _) o).setCell (p := ⟨w.heap.size, 0, none⟩) (Nat.le_refl _) a).setCell (p := ⟨w.heap.size, 1, none⟩) (Nat.le_refl _) b).setCell (p := ⟨w.heap.size, 2, none⟩) (Nat.le_refl _) c

/-- A decoded string as the model and the program lay it. -/
def textV (s : ByteArray) (at' code : Int) : Value := .agg #[.string s, .int .i64 at', .int .i64 code]

end Go.Proofs.YtgiiclkjffdjgaaDoor

namespace Go.Proofs.YtgiiclkjffdjgaaDoor
open Go.RowKit

/-- v 0 .. v (n - 1) as cells. -/
def cellsV (n : Nat) (v : Nat → Value) : Array Value := ((List.range n).map v).toArray
theorem cellsV_size (n : Nat) (v : Nat → Value) : (cellsV n v).size = n := by simp [cellsV]
theorem cellsV_at (n : Nat) (v : Nat → Value) (j : Nat) (h : j < n) : (cellsV n v)[j]? = some (v j) := by simp [cellsV, h]
theorem cellsV_list (n : Nat) (v : Nat → Value) : (cellsV n v).toList = (List.range n).map v := by simp [cellsV]
/-- Block g holds v 0 .. v (n - 1), laid as cells of the type T. -/
def CellsAt (wr : World) (g : Nat) (T : TypeId) (n : Nat) (v : Nat → Value) : Prop := wr.heap[g]? = some (.cells (cellsV n v) T (0, 0))
theorem CellsAt.cell {wr : World} {g n : Nat} {T : TypeId} {v : Nat → Value} (h : CellsAt wr g T n v) (j : Nat) (hj : j < n) : wr.cell? ⟨g, j, none⟩ = some (v j) := by
  rw [cell_of_row wr g j _ T (0, 0) h, cellsV_at n v j hj]
theorem CellsAt.frozen {wr : World} {g n : Nat} {T : TypeId} {v : Nat → Value} (h : CellsAt wr g T n v) (j : Nat) : wr.frozen? ⟨g, j, none⟩ = false := frozen_of_row wr g j _ T h
theorem CellsAt.lt {wr : World} {g n : Nat} {T : TypeId} {v : Nat → Value} (h : CellsAt wr g T n v) : g < wr.heap.size := (Array.getElem?_eq_some_iff.1 h).1
theorem CellsAt.set {wr : World} {g n : Nat} {T : TypeId} {v v' : Nat → Value} (h : CellsAt wr g T n v) (j : Nat) (x : Value) (hx : v' j = x) (hf : ∀ i, i ≠ j → v' i = v i) : CellsAt (wr.setCell ⟨g, j, none⟩ x) g T n v' := by
  unfold CellsAt
  rw [heap_setCell_same wr g j _ T x h]
  congr 2
  apply Array.ext_getElem?
  intro i
  unfold cellsV
  simp only [List.setIfInBounds_toArray, List.getElem?_toArray, List.getElem?_set, List.length_map, List.length_range]
  by_cases hi : j = i
  · subst hi; by_cases hj : j < n <;> simp [hj, hx]
  · rw [if_neg hi]; by_cases hn : i < n
    · simp [hn, hf i (fun e => hi e.symm)]
    · simp [hn]
theorem cellsV_congr {n : Nat} {v v' : Nat → Value} (hf : ∀ i, i < n → v' i = v i) : cellsV n v' = cellsV n v := by
  unfold cellsV; congr 1
  apply List.map_congr_left; intro i hi; rw [hf i (by simpa using hi)]
theorem CellsAt.congr {wr : World} {g n : Nat} {T : TypeId} {v v' : Nat → Value} (h : CellsAt wr g T n v) (hf : ∀ i, i < n → v' i = v i) : CellsAt wr g T n v' := by
  unfold CellsAt at *; rw [h, cellsV_congr hf]
theorem CellsAt.below {wr wr' : World} {g n B : Nat} {T : TypeId} {v : Nat → Value} (h : CellsAt wr g T n v) (hb : Below B wr wr') (hg : g < B) : CellsAt wr' g T n v := (hb.block g hg).trans h
theorem CellsAt.drew {wr : World} {g n : Nat} {T : TypeId} {v : Nat → Value} (h : CellsAt wr g T n v) : CellsAt wr.drew g T n v := h
theorem CellsAt.drewN {wr : World} {g n m : Nat} {T : TypeId} {v : Nat → Value} (h : CellsAt wr g T n v) : CellsAt (wr.drewN m) g T n v := h
theorem cellsAt_new (W : World) (g n : Nat) (T : TypeId) (v : Nat → Value) (hg : W.heap.size = g) {cs : Array Value} (hc : cs = cellsV n v) : CellsAt (W.alloc (.cells cs T)) g T n v := by
  subst hg; subst hc; exact heap_alloc_new W _
/-- A list known whole as such a block. -/
theorem cellsAt_list {wr : World} {g : Nat} {T : TypeId} {xs : List Value} (h : wr.heap[g]? = some (.cells xs.toArray T (0, 0))) (n : Nat) (v : Nat → Value) (hn : xs.length = n) (hv : ∀ j, j < n → xs[j]? = some (v j)) : CellsAt wr g T n v := by
  unfold CellsAt; rw [h]; congr 2
  apply Array.ext_getElem?
  intro j
  by_cases hj : j < n
  · rw [cellsV_at n v j hj]; simpa using hv j hj
  · rw [Array.getElem?_eq_none (by simp; omega), Array.getElem?_eq_none (by rw [cellsV_size]; omega)]
end Go.Proofs.YtgiiclkjffdjgaaDoor

namespace Go.Proofs.YtgiiclkjffdjgaaDoor
open Go.RowKit

/-- v is a slice of n elements of sz cells, which read as xs. -/
def Rd (w : World) (v : Value) (n sz : Nat) (xs : List Value) : Prop :=
  xs.length = n * sz ∧ ∃ a c, v = .slice a n c ∧ (0 < n → ∃ b off, a = some ⟨b, off, none⟩ ∧ b < w.heap.size ∧ ∀ j, j < n * sz → w.cell? ⟨b, off + j, none⟩ = xs[j]?)
/-- The same, its block made since the heap had lo blocks, and free to be written. -/
def Own (w : World) (lo : Nat) (v : Value) (n sz : Nat) (xs : List Value) : Prop :=
  xs.length = n * sz ∧ ∃ a c, v = .slice a n c ∧ (0 < n → ∃ b off, a = some ⟨b, off, none⟩ ∧ lo ≤ b ∧ b < w.heap.size ∧ (∀ j, j < n * sz → w.cell? ⟨b, off + j, none⟩ = xs[j]?) ∧ ∀ j, j < n * sz → w.frozen? ⟨b, off + j, none⟩ = false)
theorem Own.rd {w : World} {lo n sz : Nat} {v : Value} {xs : List Value} (h : Own w lo v n sz xs) : Rd w v n sz xs := by
  obtain ⟨h1, a, c, rfl, h2⟩ := h
  exact ⟨h1, a, c, rfl, fun h0 => by obtain ⟨b, off, e, _, hb, hc, _⟩ := h2 h0; exact ⟨b, off, e, hb, hc⟩⟩
/-- w' is w, but for blocks from B on and but for what was drawn. -/
theorem Rd.below {w w' : World} {n sz B : Nat} {v : Value} {xs : List Value} (h : Rd w v n sz xs) (hb : Below B w w') (hB : w.heap.size ≤ B) : Rd w' v n sz xs := by
  obtain ⟨h1, a, c, rfl, h2⟩ := h
  exact ⟨h1, a, c, rfl, fun h0 => by
    obtain ⟨b, off, e, hl, hc⟩ := h2 h0
    exact ⟨b, off, e, Nat.lt_of_lt_of_le hl hb.size, fun j hj => (hb.cell (p := ⟨b, off + j, none⟩) (by simp; omega)).trans (hc j hj)⟩⟩
theorem Own.below {w w' : World} {lo n sz B : Nat} {v : Value} {xs : List Value} (h : Own w lo v n sz xs) (hb : Below B w w') (hB : w.heap.size ≤ B) : Own w' lo v n sz xs := by
  obtain ⟨h1, a, c, rfl, h2⟩ := h
  exact ⟨h1, a, c, rfl, fun h0 => by
    obtain ⟨b, off, e, hlo, hl, hc, hf⟩ := h2 h0
    exact ⟨b, off, e, hlo, Nat.lt_of_lt_of_le hl hb.size, fun j hj => (hb.cell (p := ⟨b, off + j, none⟩) (by simp; omega)).trans (hc j hj), fun j hj => (hb.frozen (p := ⟨b, off + j, none⟩) (by simp; omega)).trans (hf j hj)⟩⟩
theorem Own.lower {w : World} {lo lo' n sz : Nat} {v : Value} {xs : List Value} (h : Own w lo v n sz xs) (hl : lo' ≤ lo) : Own w lo' v n sz xs := by
  obtain ⟨h1, a, c, rfl, h2⟩ := h
  exact ⟨h1, a, c, rfl, fun h0 => by obtain ⟨b, off, e, hlo, r⟩ := h2 h0; exact ⟨b, off, e, Nat.le_trans hl hlo, r⟩⟩
/-- Nothing but one block, and new ones, has turned; the slice lies elsewhere. -/
theorem Rd.grown {w w' : World} {n sz : Nat} {v : Value} {xs : List Value} {row : Option Nat} (h : Rd w v n sz xs) (hg : w.grownBy w' row) (hne : 0 < n → v.ownBlock ≠ row) : Rd w' v n sz xs := by
  obtain ⟨h1, a, c, rfl, h2⟩ := h
  exact ⟨h1, a, c, rfl, fun h0 => by
    obtain ⟨b, off, rfl, hl, hc⟩ := h2 h0
    exact ⟨b, off, rfl, Nat.lt_of_lt_of_le hl hg.size, fun j hj => (World.cell?_of_block (w := w) (a := ⟨b, off + j, none⟩) (hg.block b hl (hne h0))).trans (hc j hj)⟩⟩
theorem Own.grown {w w' : World} {lo n sz : Nat} {v : Value} {xs : List Value} {row : Option Nat} (h : Own w lo v n sz xs) (hg : w.grownBy w' row) (hne : 0 < n → v.ownBlock ≠ row) : Own w' lo v n sz xs := by
  obtain ⟨h1, a, c, rfl, h2⟩ := h
  exact ⟨h1, a, c, rfl, fun h0 => by
    obtain ⟨b, off, rfl, hlo, hl, hc, hf⟩ := h2 h0
    exact ⟨b, off, rfl, hlo, Nat.lt_of_lt_of_le hl hg.size, fun j hj => (World.cell?_of_block (w := w) (a := ⟨b, off + j, none⟩) (hg.block b hl (hne h0))).trans (hc j hj), fun j hj => (World.frozen?_of_block (w := w) (a := ⟨b, off + j, none⟩) (hg.block b hl (hne h0))).trans (hf j hj)⟩⟩
theorem Rd.drewN {w : World} {n sz m : Nat} {v : Value} {xs : List Value} (h : Rd w v n sz xs) : Rd (w.drewN m) v n sz xs := h
theorem Own.drewN {w : World} {lo n sz m : Nat} {v : Value} {xs : List Value} (h : Own w lo v n sz xs) : Own (w.drewN m) lo v n sz xs := h
theorem Rd.get {w : World} {n sz c : Nat} {a : Option Addr} {xs : List Value} (h : Rd w (.slice a n c) n sz xs) (h0 : 0 < n) : ∃ b off, a = some ⟨b, off, none⟩ ∧ b < w.heap.size ∧ ∀ j, j < n * sz → w.cell? ⟨b, off + j, none⟩ = xs[j]? := by
  obtain ⟨_, a', c', e, h2⟩ := h
  simp only [Value.slice.injEq, true_and] at e
  obtain ⟨rfl, rfl⟩ := e
  exact h2 h0
theorem Own.get {w : World} {lo n sz c : Nat} {a : Option Addr} {xs : List Value} (h : Own w lo (.slice a n c) n sz xs) (h0 : 0 < n) : ∃ b off, a = some ⟨b, off, none⟩ ∧ lo ≤ b ∧ b < w.heap.size ∧ (∀ j, j < n * sz → w.cell? ⟨b, off + j, none⟩ = xs[j]?) ∧ ∀ j, j < n * sz → w.frozen? ⟨b, off + j, none⟩ = false := by
  obtain ⟨_, a', c', e, h2⟩ := h
  simp only [Value.slice.injEq, true_and] at e
  obtain ⟨rfl, rfl⟩ := e
  exact h2 h0
/-- One cell of it written. -/
theorem Own.set {w : World} {lo n sz c b off : Nat} {xs : List Value} (h : Own w lo (.slice (some ⟨b, off, none⟩) n c) n sz xs) (j : Nat) (x : Value) (hj : j < n * sz) (hc : ∃ v, w.cell? ⟨b, off + j, none⟩ = some v) :
    Own (w.setCell ⟨b, off + j, none⟩ x) lo (.slice (some ⟨b, off, none⟩) n c) n sz (xs.set j x) := by
  obtain ⟨h1, _⟩ := id h
  refine ⟨by simpa using h1, _, _, rfl, fun h0 => ?_⟩
  obtain ⟨b', off', e, hlo, hl, hcell, hf⟩ := h.get h0
  simp only [Option.some.injEq, Addr.mk.injEq, and_true] at e
  obtain ⟨rfl, rfl⟩ := e
  refine ⟨b, off, rfl, hlo, by simpa using hl, fun i hi => ?_, fun i hi => by rw [World.frozen?_setCell]; exact hf i hi⟩
  by_cases hij : i = j
  · subst hij
    obtain ⟨v, hv⟩ := hc
    rw [World.cell?_setCell_same (w := w) (h := hv), List.getElem?_set_self (by omega)]
  · rw [World.cell?_setCell_other (h := fun e => hij (by have := (Addr.mk.inj e).2.1; omega)), hcell i hi, List.getElem?_set_ne (by omega)]
theorem grown_set {w w1 : World} {b i : Nat} {x : Value} (h : w.grownBy w1 (some b)) : w.grownBy (w1.setCell ⟨b, i, none⟩ x) (some b) :=
  h.andThen (c := w1.setCell ⟨b, i, none⟩ x) (row' := some b) ⟨rfl, rfl, rfl, by simp, fun k _ hk => Below.heap_setCell w1 ⟨b, i, none⟩ x k (fun e => hk (by rw [e]))⟩ (fun _ e => .inr e)
theorem below_grown {w w' : World} (h : Below w.heap.size w w') : w.grownBy w' none := ⟨h.os, h.tape, h.output, h.size, fun k hk _ => h.block k hk⟩
theorem own_of_row {w : World} {base e n sz : Nat} {v : Value} {xs : List Value} (h : w.ownsRow base e sz v n xs) : Own w base v n sz xs := by
  refine ⟨h.1, ?_⟩
  rcases h.2 with ⟨rfl, rfl⟩ | ⟨g, cap, cur, rfl, h1, h2, h3, h4, h5, h6⟩
  · exact ⟨none, 0, rfl, fun h => absurd h (Nat.lt_irrefl 0)⟩
  · refine ⟨_, _, rfl, fun _ => ⟨g, 0, rfl, h1, (Array.getElem?_eq_some_iff.1 h2).1, fun j hj => ?_, fun j _ => ?_⟩⟩
    · rw [Nat.zero_add]; exact h.cellAt j hj
    · rw [Nat.zero_add]; exact frozen_of_row w g j _ e h2
theorem own_of_cells {w : World} {lo g T n sz N cap : Nat} {f : Nat → Value} {xs : List Value} (h : CellsAt w g T N f) (hlo : lo ≤ g) (hN : n * sz ≤ N) (hl : xs.length = n * sz) (hx : ∀ j, j < n * sz → xs[j]? = some (f j)) :
    Own w lo (.slice (some ⟨g, 0, none⟩) n cap) n sz xs :=
  ⟨hl, _, _, rfl, fun _ => ⟨g, 0, rfl, hlo, h.lt, fun j hj => by rw [Nat.zero_add, h.cell j (by omega), hx j hj], fun j _ => by rw [Nat.zero_add]; exact h.frozen j⟩⟩
/-- What a call gives that makes a slice. -/
def MadeRow (w : World) (n sz : Nat) (xs : List Value) (e : Ending) (w' : World) : Prop := ∃ v, e = .returned v ∧ Own w' w.heap.size v n sz xs ∧ Below w.heap.size w w'
/-- Nothing but what was drawn. -/
def Still (w w' : World) : Prop := ∃ m, w' = w.drewN m
theorem Still.refl (w : World) : Still w w := ⟨0, rfl⟩
theorem Still.trans {a b c : World} (h : Still a b) (k : Still b c) : Still a c := by
  obtain ⟨m, rfl⟩ := h; obtain ⟨n, rfl⟩ := k; exact ⟨m + n, by simp⟩
theorem Still.below {w w' : World} (h : Still w w') (B : Nat) : Below B w w' := by obtain ⟨m, rfl⟩ := h; exact below_drewN (Below.refl _ _) m
theorem Still.rd {w w' : World} {n sz : Nat} {v : Value} {xs : List Value} (h : Still w w') (k : Rd w v n sz xs) : Rd w' v n sz xs := by obtain ⟨m, rfl⟩ := h; exact k
theorem Still.own {w w' : World} {lo n sz : Nat} {v : Value} {xs : List Value} (h : Still w w') (k : Own w lo v n sz xs) : Own w' lo v n sz xs := by obtain ⟨m, rfl⟩ := h; exact k
/-- The block of a slice of n elements, if it has one that matters. -/
def blk (v : Value) (n : Nat) : Option Nat := if n = 0 then none else v.ownBlock
theorem blk_pos {b off n c : Nat} (h : 0 < n) : blk (.slice (some ⟨b, off, none⟩) n c) n = some b := by unfold blk; rw [if_neg (by omega)]; rfl
theorem Own.blk {w : World} {lo n sz : Nat} {v : Value} {xs : List Value} (h : Own w lo v n sz xs) : ∀ k, blk v n = some k → lo ≤ k ∧ k < w.heap.size := by
  intro k hk
  obtain ⟨_, a, c, rfl, h2⟩ := h
  by_cases h0 : 0 < n
  · obtain ⟨b, off, rfl, hlo, hl, _⟩ := h2 h0
    rw [blk_pos h0] at hk
    cases hk; exact ⟨hlo, hl⟩
  · obtain rfl : n = 0 := by omega
    simp [Proofs.YtgiiclkjffdjgaaDoor.blk] at hk
theorem Rd.blk {w : World} {n sz : Nat} {v : Value} {xs : List Value} (h : Rd w v n sz xs) : ∀ k, blk v n = some k → k < w.heap.size := by
  intro k hk
  obtain ⟨_, a, c, rfl, h2⟩ := h
  by_cases h0 : 0 < n
  · obtain ⟨b, off, rfl, hl, _⟩ := h2 h0
    rw [blk_pos h0] at hk
    cases hk; exact hl
  · obtain rfl : n = 0 := by omega
    simp [Proofs.YtgiiclkjffdjgaaDoor.blk] at hk
/-- Nothing but the blocks s and d, and new ones, has turned. -/
structure Two (s d : Option Nat) (w w' : World) : Prop where
  os : w'.os = w.os
  tape : w'.tape = w.tape
  output : w'.output = w.output
  size : w.heap.size ≤ w'.heap.size
  block : ∀ k, k < w.heap.size → some k ≠ s → some k ≠ d → w'.heap[k]? = w.heap[k]?
theorem Two.below {s d : Option Nat} {w w' : World} (h : Two s d w w') {lo : Nat} (hs : ∀ k, s = some k → lo ≤ k) (hd : ∀ k, d = some k → lo ≤ k) (hw : lo ≤ w.heap.size) : Below lo w w' :=
  ⟨h.os, h.tape, h.output, h.size, fun k hk => h.block k (by omega) (fun e => by have := hs k e.symm; omega) (fun e => by have := hd k e.symm; omega)⟩
theorem Two.refl (s d : Option Nat) (w : World) : Two s d w w := ⟨rfl, rfl, rfl, Nat.le_refl _, fun _ _ _ _ => rfl⟩
theorem Two.trans {s d : Option Nat} {a b c : World} (h : Two s d a b) (k : Two s d b c) : Two s d a c :=
  ⟨k.os.trans h.os, k.tape.trans h.tape, k.output.trans h.output, Nat.le_trans h.size k.size, fun i hi h1 h2 => (k.block i (Nat.lt_of_lt_of_le hi h.size) h1 h2).trans (h.block i hi h1 h2)⟩
theorem two_left {s d : Option Nat} {w w' : World} (h : w.grownBy w' s) : Two s d w w' := ⟨h.os, h.tape, h.output, h.size, fun k hk h1 _ => h.block k hk h1⟩
theorem two_right {s d : Option Nat} {w w' : World} (h : w.grownBy w' d) : Two s d w w' := ⟨h.os, h.tape, h.output, h.size, fun k hk _ h2 => h.block k hk h2⟩
theorem two_below {s d : Option Nat} {w w' : World} (h : Below w.heap.size w w') : Two s d w w' := ⟨h.os, h.tape, h.output, h.size, fun k hk _ _ => h.block k hk⟩
theorem Rd.two {w w' : World} {n sz : Nat} {v : Value} {xs : List Value} {s d : Option Nat} (h : Rd w v n sz xs) (ht : Two s d w w') (hne : ∀ k, Proofs.YtgiiclkjffdjgaaDoor.blk v n = some k → some k ≠ s ∧ some k ≠ d) : Rd w' v n sz xs := by
  obtain ⟨h1, a, c, rfl, h2⟩ := h
  exact ⟨h1, a, c, rfl, fun h0 => by
    obtain ⟨b, off, rfl, hl, hc⟩ := h2 h0
    have hb := ht.block b hl (hne b (blk_pos h0)).1 (hne b (blk_pos h0)).2
    exact ⟨b, off, rfl, Nat.lt_of_lt_of_le hl ht.size, fun j hj => (World.cell?_of_block (w := w) (a := ⟨b, off + j, none⟩) hb).trans (hc j hj)⟩⟩
theorem Own.two {w w' : World} {lo n sz : Nat} {v : Value} {xs : List Value} {s d : Option Nat} (h : Own w lo v n sz xs) (ht : Two s d w w') (hne : ∀ k, Proofs.YtgiiclkjffdjgaaDoor.blk v n = some k → some k ≠ s ∧ some k ≠ d) : Own w' lo v n sz xs := by
  obtain ⟨h1, a, c, rfl, h2⟩ := h
  exact ⟨h1, a, c, rfl, fun h0 => by
    obtain ⟨b, off, rfl, hlo, hl, hc, hf⟩ := h2 h0
    have hb := ht.block b hl (hne b (blk_pos h0)).1 (hne b (blk_pos h0)).2
    exact ⟨b, off, rfl, hlo, Nat.lt_of_lt_of_le hl ht.size, fun j hj => (World.cell?_of_block (w := w) (a := ⟨b, off + j, none⟩) hb).trans (hc j hj), fun j hj => (World.frozen?_of_block (w := w) (a := ⟨b, off + j, none⟩) hb).trans (hf j hj)⟩⟩
theorem Own.other {w : World} {lo n sz : Nat} {v : Value} {xs : List Value} (h : Own w lo v n sz xs) (p : Addr) (x : Value) (hp : ∀ k, Proofs.YtgiiclkjffdjgaaDoor.blk v n = some k → k ≠ p.block) : Own (w.setCell p x) lo v n sz xs := by
  obtain ⟨h1, a, c, rfl, h2⟩ := h
  exact ⟨h1, a, c, rfl, fun h0 => by
    obtain ⟨b, off, rfl, hlo, hl, hc, hf⟩ := h2 h0
    have hb := Below.heap_setCell w p x b (hp b (blk_pos h0))
    exact ⟨b, off, rfl, hlo, by simpa using hl, fun j hj => (World.cell?_of_block (w := w) (a := ⟨b, off + j, none⟩) hb).trans (hc j hj), fun j hj => (World.frozen?_of_block (w := w) (a := ⟨b, off + j, none⟩) hb).trans (hf j hj)⟩⟩
end Go.Proofs.YtgiiclkjffdjgaaDoor

namespace Go.Proofs.YtgiiclkjffdjgaaDoor
open Go.RowKit

theorem Tryd.info9 : (Tryd.prog.info? 9).map (fun i => (i.zero, i.size, i.bytes)) = some (some (.string ByteArray.empty), 1, 16) := by kernel_rfl
def strs (l : List ByteArray) : List Value := l.map Value.string
theorem strs_length (l : List ByteArray) : (strs l).length = l.length := by simp [strs]
theorem strs_at (l : List ByteArray) (j : Nat) (h : j < l.length) : (strs l)[j]? = some (.string l[j]) := by simp [strs, h]

def CopyRel (w : World) (l : List ByteArray) (i : Value) (wr : World) : Prop :=
  ∃ k : Nat, k ≤ l.length ∧ i = .int .i64 k ∧ CellsAt wr w.heap.size 9 l.length (fun j => .string (if j < k then l.getD j ByteArray.empty else ByteArray.empty)) ∧ Below w.heap.size w wr
theorem made_strs {w1 : World} {g n : Nat} (h : w1.heap[g]? = some (.cells (List.replicate n (Value.string ByteArray.empty)).toArray 9 (0, 0))) : CellsAt w1 g 9 n (fun _ => .string ByteArray.empty) :=
  cellsAt_list h n _ (by simp) (fun j hj => by simp [hj])

set_option maxRecDepth 100000 in
set_option maxHeartbeats 1000000 in
theorem toStrs_any (v : Value) (l : List ByteArray) (w : World) (h : Rd w v l.length 1 (strs l)) (hn : l.length ≤ 1048576) :
    Calls Tryd.prog 21 #[v] w (MadeRow w l.length 1 (strs l)) := by
  obtain ⟨i0, hi, hz0, hz1, hz2⟩ := info_parts Tryd.info9
  obtain ⟨_, a, c, rfl, hc⟩ := h
  have HC := Lib.hid hc
  clear hc
  go_enter Tryd.func21, Tryd.ntmps21
  go_wp2_with (at_make; refine wpList_make_full _ rfl _ _ 23 rfl w.heap.size 9 i0 (.string ByteArray.empty) 1 Tryd.underlying23 hi hz0 hz1 .i64 .i64 _ _ l.length rfl rfl (by omega) (by omega) (by rw [hz2]; omega) (by unfold maxLen; omega) (Nat.le_refl _) ?_)
  intro w1 hown1 hgrow1
  have hb1 : Below w.heap.size w w1 := (Below.refl _ w).grown hgrow1 (Nat.le_refl _) (by simp)
  have hg1 := own_block hown1
  rw [toList_madeCells_one] at hg1
  have HG1 := Lib.hid (made_strs hg1)
  have HB1 := Lib.hid hb1
  clear hown1 hgrow1 hg1 hb1 hi hz0 hz1 hz2
  go_wp2_with fail
  go_loopw [4] (fun i wr => CopyRel w l i wr) (fun i _ => l.length - (intOf i).toNat)
  case atStart => exact ⟨0, by omega, rfl, HG1.out, HB1.out⟩
  case round =>
    clear HG1 HB1
    obtain ⟨k, hk, rfl, hcs, hbel⟩ := hrel
    by_cases hlt : k < l.length
    · obtain ⟨b, off, rfl, hbl, hcell⟩ := HC.out (by omega)
      have hc1 : wr.cell? ⟨b, off + k, none⟩ = some (.string l[k]) := by
        rw [hbel.cell (p := ⟨b, off + k, none⟩) hbl, hcell k (by omega), strs_at l k hlt]
      have hc2 := hcs.cell k hlt
      have hf2 := hcs.frozen k
      have hne : ¬ b = w.heap.size := by omega
      have HCS := Lib.hid hcs
      have HBEL := Lib.hid hbel
      clear hcs hbel hcell
      go_wp2_with fail
      go_roundw
      case rel =>
        refine ⟨k + 1, by omega, by go_num, ?_, HBEL.out.setCell (p := ⟨w.heap.size, k, none⟩) (Nat.le_refl _) _⟩
        refine HCS.out.set k _ ?_ ?_
        · show Value.string (if k < k + 1 then l.getD k ByteArray.empty else ByteArray.empty) = _
          rw [if_pos (by omega), List.getD_eq_getElem?_getD, List.getElem?_eq_getElem hlt]; rfl
        · intro i hi
          show Value.string (if i < k + 1 then l.getD i ByteArray.empty else ByteArray.empty) = .string (if i < k then l.getD i ByteArray.empty else ByteArray.empty)
          by_cases h1 : i < k
          · rw [if_pos h1, if_pos (by omega)]
          · rw [if_neg h1, if_neg (by omega)]
      case measure => simp [intOf]; omega
    · obtain rfl : k = l.length := by omega
      have HCS := Lib.hid hcs
      have HBEL := Lib.hid hbel
      clear hcs hbel
      go_wp2_with fail
      go_ret
      refine ⟨_, rfl, ?_, HBEL.out⟩
      refine own_of_cells HCS.out (Nat.le_refl _) (by omega) (by rw [strs_length]; omega) (fun j hj => ?_)
      rw [strs_at l j (by omega), if_pos (by omega), List.getD_eq_getElem?_getD, List.getElem?_eq_getElem (by omega)]; rfl

/-- What is left of a measure: less than nothing, or all was within it. -/
def Left (P : Prop) (w : World) (e : Ending) (w' : World) : Prop := ∃ r : Int, e = .returned (.int .i64 r) ∧ w = w' ∧ (r = -1 ∨ 0 ≤ r ∧ P)
def LeftIn (left : Int) (P : Prop) (w : World) (e : Ending) (w' : World) : Prop := ∃ r : Int, e = .returned (.int .i64 r) ∧ w = w' ∧ (r = -1 ∨ 0 ≤ r ∧ r ≤ left ∧ P)
def SizeRel (l : List ByteArray) (left : Int) (x i : Value) : Prop :=
  ∃ (k : Nat) (r : Int), k ≤ l.length ∧ i = .int .i64 k ∧ x = .int .i64 r ∧ 0 ≤ r ∧ r ≤ left ∧ ∀ j (h : j < l.length), j < k → (l[j].size : Int) ≤ left
set_option maxRecDepth 100000 in
set_option maxHeartbeats 1000000 in
theorem szStrs_any (v : Value) (l : List ByteArray) (left : Int) (w : World) (h : Rd w v l.length 1 (strs l)) (hn : l.length ≤ maxLen) (hs : ∀ s ∈ l, s.size ≤ maxLen) (h0 : 0 ≤ left) (h1 : left ≤ 1048576) :
    Calls Tryd.prog 20 #[v, .int .i64 left] w (LeftIn left (l.length ≤ left ∧ ∀ s ∈ l, (s.size : Int) ≤ left) w) := by
  unfold maxLen at hn hs
  obtain ⟨_, a, c, rfl, hc⟩ := h
  have HC := Lib.hid hc
  have HS := Lib.hid hs
  clear hc hs
  by_cases hlen : left - l.length < 0
  · go_enter Tryd.func20, Tryd.ntmps20
    go_wp2_with fail
    go_ret
    exact ⟨-1, rfl, rfl, .inl rfl⟩
  · have d0 : decide (left - (l.length : Int) < 0) = false := decide_eq_false hlen
    go_enter Tryd.func20, Tryd.ntmps20
    go_wp2_with fail
    go_loop [1, 5] (fun x i => SizeRel l left x i) (fun _ i => l.length - (intOf i).toNat)
    case atStart => exact ⟨0, _, by omega, rfl, rfl, by omega, by omega, fun j _ hj => absurd hj (by omega)⟩
    case round =>
      obtain ⟨k, r, hk, rfl, rfl, hr0, hr1, hsz⟩ := hrel
      have HSZ := Lib.hid hsz
      clear hsz
      by_cases hlt : k < l.length
      · obtain ⟨b, off, rfl, hbl, hcell⟩ := HC.out (by omega)
        have hc1 : w.cell? ⟨b, off + k, none⟩ = some (.string l[k]) := by rw [hcell k (by omega), strs_at l k hlt]
        have hsk := HS.out l[k] (List.getElem_mem hlt)
        clear hcell
        by_cases hneg : r - (l[k].size : Int) < 0
        · go_wp2_with fail
          go_ret
          exact ⟨-1, rfl, rfl, .inl rfl⟩
        · have d1 : decide (r - (l[k].size : Int) < 0) = false := decide_eq_false hneg
          have hsl : (l[k].size : Int) ≤ left := by omega
          go_wp2_with fail
          go_round
          case rel =>
            refine ⟨k + 1, _, by omega, by go_num, rfl, by omega, by omega, fun j h hj => ?_⟩
            by_cases hjk : j = k
            · subst hjk; exact hsl
            · exact HSZ.out j h (by omega)
          case measure => simp [intOf]; omega
      · obtain rfl : k = l.length := by omega
        go_wp2_with fail
        go_ret
        refine ⟨r, rfl, rfl, .inr ⟨hr0, hr1, by omega, fun s hs => ?_⟩⟩
        obtain ⟨j, hj, rfl⟩ := List.getElem_of_mem hs
        exact HSZ.out j hj hj

def EqRel (w : World) (n : Nat) (i : Value) (wr : World) : Prop := ∃ k : Nat, k ≤ n ∧ i = .int .i64 k ∧ Still w wr
set_option maxRecDepth 100000 in
set_option maxHeartbeats 1000000 in
theorem eqStrs_any (v u : Value) (l : List ByteArray) (w : World) (h : Rd w v l.length 1 (strs l)) (k : Rd w u l.length 1 (strs l)) (hn : l.length ≤ maxLen) :
    Calls Tryd.prog 22 #[v, u] w fun e w' => e = .returned (.bool true) ∧ Still w w' := by
  unfold maxLen at hn
  obtain ⟨_, a, c, rfl, hc⟩ := h
  obtain ⟨_, a', c', rfl, hc'⟩ := k
  have HC := Lib.hid hc
  have HC' := Lib.hid hc'
  clear hc hc'
  have d0 : ((l.length : Int) != (l.length : Int)) = false := by simp
  go_enter Tryd.func22, Tryd.ntmps22
  go_wp2_with fail
  go_loopw [5] (fun i wr => EqRel w l.length i wr) (fun i _ => l.length - (intOf i).toNat)
  case atStart => exact ⟨0, by omega, rfl, Still.refl w⟩
  case round =>
    obtain ⟨k, hk, rfl, hst⟩ := hrel
    by_cases hlt : k < l.length
    · obtain ⟨b, off, rfl, hbl, hcell⟩ := HC.out (by omega)
      obtain ⟨b', off', rfl, hbl', hcell'⟩ := HC'.out (by omega)
      have hc1 : wr.cell? ⟨b, off + k, none⟩ = some (.string l[k]) := by
        rw [(hst.below w.heap.size).cell (p := ⟨b, off + k, none⟩) hbl, hcell k (by omega), strs_at l k hlt]
      have hc2 : wr.cell? ⟨b', off' + k, none⟩ = some (.string l[k]) := by
        rw [(hst.below w.heap.size).cell (p := ⟨b', off' + k, none⟩) hbl', hcell' k (by omega), strs_at l k hlt]
      have HST := Lib.hid hst
      clear hcell hcell' hst
      have e0 : (k : Int) < (l.length : Int) := by omega
      have e1 : (0 : Int) ≤ (k : Int) := by omega
      go_wp2_with fail
      go_quiet (fail)
      go_wp2_with fail
      go_roundw
      case rel => exact ⟨k + 1, by omega, by go_num, HST.out.trans ⟨_, rfl⟩⟩
      case measure => simp [intOf]; omega
    · obtain rfl : k = l.length := by omega
      go_wp2_with fail
      go_ret
      exact ⟨rfl, hst⟩
end Go.Proofs.YtgiiclkjffdjgaaDoor

namespace Go.Proofs.YtgiiclkjffdjgaaDoor
open Go.RowKit

def dig (k : Nat) : UInt8 := UInt8.ofNat (48 + k % 10)
theorem dig_val (n : Nat) : (48 + (n : Int) % 10) = ((dig n).toNat : Int) := by
  unfold dig; rw [UInt8.toNat_ofNat']; omega
def digs (k : Nat) (acc : List UInt8) : List UInt8 := if _h : k = 0 then acc else digs (k / 10) (dig k :: acc)
termination_by k
decreasing_by omega
theorem digs_zero (acc : List UInt8) : digs 0 acc = acc := by rw [digs, dif_pos rfl]
theorem digs_more (k : Nat) (acc : List UInt8) (h : 0 < k) : digs k acc = digs (k / 10) (dig k :: acc) := by rw [digs, dif_neg (by omega)]
/-- A list of bytes as a string. -/
def accS (l : List UInt8) : ByteArray := ⟨l.toArray⟩
theorem accS_size (l : List UInt8) : (accS l).size = l.length := by show l.toArray.size = _; simp
theorem accS_cons (x : UInt8) (l : List UInt8) : accS [x] ++ accS l = accS (x :: l) := by
  apply ByteArray.ext; simp [accS]
/-- The text of the number k. -/
def markS (k : Nat) : ByteArray := accS (109 :: digs k [])
def MarkRel (k0 : Nat) (w : World) (n t : Value) (wr : World) : Prop :=
  ∃ (k : Nat) (acc : List UInt8), n = .int .i64 k ∧ t = .string (accS acc) ∧ acc.length ≤ 11 ∧ digs k acc = digs k0 [] ∧ k * 10 ^ acc.length ≤ k0 ∧ Below w.heap.size w wr
theorem len_bound (k k0 n : Nat) (h : 0 < k) (hb : k * 10 ^ n ≤ k0) (h0 : k0 ≤ 10000000000) : n ≤ 10 := by
  have h1 : 10 ^ n ≤ k0 := Nat.le_trans (Nat.le_mul_of_pos_left _ h) hb
  have h2 : 10 ^ n ≤ 10 ^ 10 := Nat.le_trans h1 h0
  exact (Nat.pow_le_pow_iff_right (by decide)).1 h2
theorem next_bound (k k0 n : Nat) (hb : k * 10 ^ n ≤ k0) : k / 10 * 10 ^ (n + 1) ≤ k0 := by
  have : k / 10 * 10 ^ (n + 1) ≤ k * 10 ^ n := by
    rw [Nat.pow_succ, Nat.mul_comm (10 ^ n) 10, ← Nat.mul_assoc]
    exact Nat.mul_le_mul_right _ (by omega)
  omega

def marks (k n : Nat) : List Value := (List.range n).map fun j => .string (markS (k + j))
theorem marks_length (k n : Nat) : (marks k n).length = n := by simp [marks]
/-- The first i marked, the others as they were. -/
def marked (k i : Nat) (xs : List Value) : List Value := (List.range xs.length).map fun j => if j < i then .string (markS (k + j)) else xs.getD j undef
theorem marked_length (k i : Nat) (xs : List Value) : (marked k i xs).length = xs.length := by simp [marked]
theorem marked_zero (k : Nat) (xs : List Value) : marked k 0 xs = xs := by
  apply List.ext_getElem
  · simp [marked]
  · intro j h1 h2; simp [marked, h2]
theorem marked_all (k : Nat) (xs : List Value) : marked k xs.length xs = marks k xs.length := by
  apply List.ext_getElem
  · simp [marked, marks]
  · intro j h1 h2; simp [marked] at h1; simp [marked, marks, h1]
theorem marked_set (k i : Nat) (xs : List Value) (_h : i < xs.length) : (marked k i xs).set i (.string (markS (k + i))) = marked k (i + 1) xs := by
  apply List.ext_getElem
  · simp [marked]
  · intro j h1 h2
    rw [List.getElem_set]
    by_cases hj : i = j
    · subst hj; simp [marked]
    · rw [if_neg hj]; simp only [marked, List.getElem_map, List.getElem_range]
      by_cases hji : j < i
      · rw [if_pos hji, if_pos (by omega)]
      · rw [if_neg hji, if_neg (by omega)]

/-- What marking a slice does: its cells turn, and nothing else that was there. -/
def Marked (lo : Nat) (v : Value) (n sz : Nat) (xs : List Value) (r : Int) (w : World) (e : Ending) (w' : World) : Prop :=
  e = .returned (.int .i64 r) ∧ Own w' lo v n sz xs ∧ w.grownBy w' (blk v n)
def MarkSRel (lo : Nat) (v : Value) (k n : Nat) (xs : List Value) (w : World) (q i : Value) (wr : World) : Prop :=
  ∃ j : Nat, j ≤ n ∧ q = .int .i64 ((k + j : Nat) : Int) ∧ i = .int .i64 j ∧ Own wr lo v n 1 (marked k j xs) ∧ w.grownBy wr (blk v n)
/-- What looking at a marked slice gives. -/
def Held (r : Int) (w : World) (e : Ending) (w' : World) : Prop := e = .returned (.int .i64 r) ∧ Below w.heap.size w w'
def HeldRel (k n : Nat) (w : World) (q i : Value) (wr : World) : Prop :=
  ∃ j : Nat, j ≤ n ∧ q = .int .i64 ((k + j : Nat) : Int) ∧ i = .int .i64 j ∧ Below w.heap.size w wr
theorem marks_at (k n j : Nat) (h : j < n) : (marks k n)[j]? = some (.string (markS (k + j))) := by simp [marks, h]
end Go.Proofs.YtgiiclkjffdjgaaDoor

namespace Go.Proofs.YtgiiclkjffdjgaaDoor
open Go.RowKit

abbrev D := Int × ByteArray
def dV (d : D) : Value := .agg #[.int .i64 d.1, .string d.2]
def dirs : List D → List Value
  | [] => []
  | d :: l => .int .i64 d.1 :: .string d.2 :: dirs l
theorem dirs_length : ∀ l : List D, (dirs l).length = l.length * 2
  | [] => rfl
  | d :: l => by simp [dirs, dirs_length l]; omega
theorem dirs_even : ∀ (l : List D) (j : Nat) (h : j < l.length), (dirs l)[j * 2]? = some (.int .i64 l[j].1)
  | d :: l, 0, _ => rfl
  | d :: l, j + 1, h => by
    rw [show (j + 1) * 2 = j * 2 + 1 + 1 by omega]
    simpa [dirs] using dirs_even l j (by simpa using h)
theorem dirs_odd : ∀ (l : List D) (j : Nat) (h : j < l.length), (dirs l)[j * 2 + 1]? = some (.string l[j].2)
  | d :: l, 0, _ => rfl
  | d :: l, j + 1, h => by
    rw [show (j + 1) * 2 + 1 = j * 2 + 1 + 1 + 1 by omega]
    simpa [dirs] using dirs_odd l j (by simpa using h)

/-- As LeftIn, memory having been made. -/
def LeftB (left : Int) (P : Prop) (w : World) (e : Ending) (w' : World) : Prop := ∃ r : Int, e = .returned (.int .i64 r) ∧ Below w.heap.size w w' ∧ (r = -1 ∨ 0 ≤ r ∧ r ≤ left ∧ P)
theorem own_block' {w : World} {base e g n sz : Nat} {xs : List Value} (h : w.ownsRow base e sz (.slice (some ⟨g, 0, none⟩) n n) n xs) : w.heap[g]? = some (.cells xs.toArray e (0, 0)) := by
  rcases h.2 with ⟨h', _⟩ | ⟨g', cap', cur, h', _, hg, _, _, hs, htake⟩
  · simp at h'
  · simp only [Value.slice.injEq, Option.some.injEq, Addr.mk.injEq, and_true, true_and] at h'
    obtain ⟨rfl, rfl⟩ := h'
    rw [hg, ← htake, List.take_of_length_le (by simp [hs])]
/-- The first k of l laid, the others at zero. -/
def dPart (l : List D) (k j : Nat) : Value := if j < k * 2 then (dirs l).getD j undef else if j % 2 = 0 then .int .i64 0 else .string ByteArray.empty
theorem d_laid {w2 : World} {g n k : Nat} {T : TypeId} {l : List D} (h : CellsAt w2 g T n (dPart l k)) (hk : k < l.length) :
    CellsAt ((w2.setCell ⟨g, k * 2, none⟩ (.int .i64 l[k].1)).setCell ⟨g, k * 2 + 1, none⟩ (.string l[k].2)) g T n (dPart l (k + 1)) := by
  refine ((h.set (v' := fun j => if j = k * 2 then .int .i64 l[k].1 else dPart l k j) (k * 2) _ (if_pos rfl) (fun i hi => if_neg hi)).set (v' := fun j => if j = k * 2 + 1 then .string l[k].2 else if j = k * 2 then .int .i64 l[k].1 else dPart l k j) (k * 2 + 1) _ (if_pos rfl) (fun i hi => if_neg hi)).congr fun j _ => ?_
  have e1 := dirs_even l k hk
  have e2 := dirs_odd l k hk
  by_cases h1 : j = k * 2 + 1
  · subst h1; simp [dPart, e2]; try omega
  · by_cases h2 : j = k * 2
    · subst h2; simp [dPart, e1]; try omega
    · simp only [h1, h2, if_false, dPart]
      by_cases h3 : j < k * 2
      · rw [if_pos h3, if_pos (by omega)]
      · rw [if_neg h3, if_neg (by omega)]

def DSizeRel (l : List D) (left : Int) (w : World) (x i : Value) (wr : World) : Prop :=
  ∃ (k : Nat) (r : Int), k ≤ l.length ∧ i = .int .i64 k ∧ x = .int .i64 r ∧ 0 ≤ r ∧ r ≤ left ∧ (∀ j (h : j < l.length), j < k → (l[j].2.size : Int) ≤ left) ∧ Below w.heap.size w wr
def DEqRel (w : World) (n : Nat) (i : Value) (wr : World) : Prop := ∃ k : Nat, k ≤ n ∧ i = .int .i64 k ∧ Below w.heap.size w wr
/-- The mark of cell j: a number where j is even, a text where it is odd. -/
def markCell (k j : Nat) : Value := if j % 2 = 0 then .int .i64 ((k + j : Nat) : Int) else .string (markS (k + j))
def marksD (k n : Nat) : List Value := (List.range (n * 2)).map (markCell k)
def markedD (k i : Nat) (xs : List Value) : List Value := (List.range xs.length).map fun j => if j < i then markCell k j else xs.getD j undef
theorem markedD_length (k i : Nat) (xs : List Value) : (markedD k i xs).length = xs.length := by simp [markedD]
theorem markedD_zero (k : Nat) (xs : List Value) : markedD k 0 xs = xs := by
  apply List.ext_getElem
  · simp [markedD]
  · intro j h1 h2; simp [markedD, h2]
theorem markedD_all (k n : Nat) (xs : List Value) (h : xs.length = n * 2) : markedD k (n * 2) xs = marksD k n := by
  apply List.ext_getElem
  · simp [markedD, marksD, h]
  · intro j h1 h2; simp [markedD, h] at h1; simp [markedD, marksD, h1]
theorem markedD_set (k i : Nat) (xs : List Value) : (markedD k i xs).set i (markCell k i) = markedD k (i + 1) xs := by
  apply List.ext_getElem
  · simp [markedD]
  · intro j h1 h2
    rw [List.getElem_set]
    by_cases hj : i = j
    · subst hj; simp [markedD]
    · rw [if_neg hj]; simp only [markedD, List.getElem_map, List.getElem_range]
      by_cases hji : j < i
      · rw [if_pos hji, if_pos (by omega)]
      · rw [if_neg hji, if_neg (by omega)]
theorem markCell_even (k j : Nat) : markCell k (j * 2) = .int .i64 ((k + j * 2 : Nat) : Int) := by unfold markCell; rw [if_pos (by omega)]
theorem markCell_odd (k j : Nat) : markCell k (j * 2 + 1) = .string (markS (k + j * 2 + 1)) := by unfold markCell; rw [if_neg (by omega)]; rfl
theorem marksD_at (k n j : Nat) (h : j < n * 2) : (marksD k n)[j]? = some (markCell k j) := by simp [marksD, h]

def MarkDRel (lo : Nat) (v : Value) (k n : Nat) (xs : List Value) (w : World) (q i : Value) (wr : World) : Prop :=
  ∃ j : Nat, j ≤ n ∧ q = .int .i64 ((k + j * 2 : Nat) : Int) ∧ i = .int .i64 j ∧ Own wr lo v n 2 (markedD k (j * 2) xs) ∧ w.grownBy wr (blk v n)
theorem Own.cellEx {w : World} {lo n sz c b off : Nat} {xs : List Value} (h : Own w lo (.slice (some ⟨b, off, none⟩) n c) n sz xs) (j : Nat) (hj : j < n * sz) : (∃ v, w.cell? ⟨b, off + j, none⟩ = some v) ∧ w.frozen? ⟨b, off + j, none⟩ = false := by
  have hn : 0 < n := by
    rcases Nat.eq_zero_or_pos n with h0 | h0
    · subst h0; simp at hj
    · exact h0
  obtain ⟨b', off', e, _, _, hc, hf⟩ := h.get hn
  simp only [Option.some.injEq, Addr.mk.injEq, and_true] at e
  obtain ⟨rfl, rfl⟩ := e
  refine ⟨⟨xs[j]'(by rw [h.1]; exact hj), ?_⟩, hf j hj⟩
  rw [hc j hj, List.getElem?_eq_getElem (by rw [h.1]; exact hj)]

def HeldDRel (k n : Nat) (w : World) (q i : Value) (wr : World) : Prop :=
  ∃ j : Nat, j ≤ n ∧ q = .int .i64 ((k + j * 2 : Nat) : Int) ∧ i = .int .i64 j ∧ Below w.heap.size w wr
end Go.Proofs.YtgiiclkjffdjgaaDoor

namespace Go.Proofs.YtgiiclkjffdjgaaDoor
open Go.RowKit

abbrev stpT := Int × Int × Int × ByteArray
def stpCs : List stpT → List Value
  | [] => []
  | d :: l => .int .i64 d.1 :: .int .i64 d.2.1 :: .int .i64 d.2.2.1 :: .string d.2.2.2 :: stpCs l
theorem stpCs_length : ∀ l : List stpT, (stpCs l).length = l.length * 4
  | [] => rfl
  | d :: l => by simp [stpCs, stpCs_length l]; omega
theorem stpCs_0 : ∀ (l : List stpT) (k : Nat) (h : k < l.length), (stpCs l)[k * 4]? = some (.int .i64 l[k].1)
  | d :: l, 0, _ => rfl
  | d :: l, k + 1, h => by
    rw [show (k + 1) * 4 = k * 4 + 1 + 1 + 1 + 1 by omega]
    simpa [stpCs] using stpCs_0 l k (by simpa using h)
theorem stpCs_1 : ∀ (l : List stpT) (k : Nat) (h : k < l.length), (stpCs l)[k * 4 + 1]? = some (.int .i64 l[k].2.1)
  | d :: l, 0, _ => rfl
  | d :: l, k + 1, h => by
    rw [show (k + 1) * 4 + 1 = k * 4 + 1 + 1 + 1 + 1 + 1 by omega]
    simpa [stpCs] using stpCs_1 l k (by simpa using h)
theorem stpCs_2 : ∀ (l : List stpT) (k : Nat) (h : k < l.length), (stpCs l)[k * 4 + 2]? = some (.int .i64 l[k].2.2.1)
  | d :: l, 0, _ => rfl
  | d :: l, k + 1, h => by
    rw [show (k + 1) * 4 + 2 = k * 4 + 2 + 1 + 1 + 1 + 1 by omega]
    simpa [stpCs] using stpCs_2 l k (by simpa using h)
theorem stpCs_3 : ∀ (l : List stpT) (k : Nat) (h : k < l.length), (stpCs l)[k * 4 + 3]? = some (.string l[k].2.2.2)
  | d :: l, 0, _ => rfl
  | d :: l, k + 1, h => by
    rw [show (k + 1) * 4 + 3 = k * 4 + 3 + 1 + 1 + 1 + 1 by omega]
    simpa [stpCs] using stpCs_3 l k (by simpa using h)
theorem stpCs_append : ∀ (a b : List stpT), stpCs (a ++ b) = stpCs a ++ stpCs b
  | [], b => rfl
  | d :: a, b => by simp only [List.cons_append, stpCs]; rw [stpCs_append a b]
theorem Tryd.infostp : (Tryd.prog.info? 33).map (fun i => (i.zero, i.size, i.bytes)) = some (some (.agg #[.int .i64 0, .int .i64 0, .int .i64 0, .string ByteArray.empty]), 4, 40) := by kernel_rfl
def stpPart (l : List stpT) (k j : Nat) : Value := if j < k * 4 then (stpCs l).getD j undef else if j % 4 = 0 then .int .i64 0 else if j % 4 = 1 then .int .i64 0 else if j % 4 = 2 then .int .i64 0 else .string ByteArray.empty
def stpCopyRel (w : World) (l : List stpT) (i : Value) (wr : World) : Prop :=
  ∃ k : Nat, k ≤ l.length ∧ i = .int .i64 k ∧ CellsAt wr w.heap.size 33 (l.length * 4) (stpPart l k) ∧ Below w.heap.size w wr
theorem made_stp {w1 : World} {g n : Nat} {l : List stpT} (h : w1.heap[g]? = some (.cells (madeCells #[Value.int .i64 0, Value.int .i64 0, Value.int .i64 0, Value.string ByteArray.empty] (n * 4)).toList.toArray 33 (0, 0))) : CellsAt w1 g 33 (n * 4) (stpPart l 0) := by
  refine cellsAt_list h (n * 4) _ (by simp [madeCells]) (fun j hj => ?_)
  have h2 : j % 4 = 0 ∨ j % 4 = 1 ∨ j % 4 = 2 ∨ j % 4 = 3 := by omega
  rcases h2 with h2 | h2 | h2 | h2 <;> simp [madeCells, hj, stpPart, h2]
theorem stp_laid {w2 : World} {g n k : Nat} {T : TypeId} {l : List stpT} (h : CellsAt w2 g T n (stpPart l k)) (hk : k < l.length) :
    CellsAt ((((w2.setCell ⟨g, k * 4, none⟩ (.int .i64 l[k].1)).setCell ⟨g, k * 4 + 1, none⟩ (.int .i64 l[k].2.1)).setCell ⟨g, k * 4 + 2, none⟩ (.int .i64 l[k].2.2.1)).setCell ⟨g, k * 4 + 3, none⟩ (.string l[k].2.2.2)) g T n (stpPart l (k + 1)) := by
  refine ((((h.set (v' := fun j => if j = k * 4 then .int .i64 l[k].1 else stpPart l k j) (k * 4) _ (if_pos rfl) (fun i hi => if_neg hi)).set (v' := fun j => if j = k * 4 + 1 then .int .i64 l[k].2.1 else if j = k * 4 then .int .i64 l[k].1 else stpPart l k j) (k * 4 + 1) _ (if_pos rfl) (fun i hi => if_neg hi)).set (v' := fun j => if j = k * 4 + 2 then .int .i64 l[k].2.2.1 else if j = k * 4 + 1 then .int .i64 l[k].2.1 else if j = k * 4 then .int .i64 l[k].1 else stpPart l k j) (k * 4 + 2) _ (if_pos rfl) (fun i hi => if_neg hi)).set (v' := fun j => if j = k * 4 + 3 then .string l[k].2.2.2 else if j = k * 4 + 2 then .int .i64 l[k].2.2.1 else if j = k * 4 + 1 then .int .i64 l[k].2.1 else if j = k * 4 then .int .i64 l[k].1 else stpPart l k j) (k * 4 + 3) _ (if_pos rfl) (fun i hi => if_neg hi)).congr fun j _ => ?_
  have e0 := stpCs_0 l k hk
  have e1 := stpCs_1 l k hk
  have e2 := stpCs_2 l k hk
  have e3 := stpCs_3 l k hk
  by_cases h3 : j = k * 4 + 3
  · subst h3; simp [stpPart, e3]; try omega
  by_cases h2 : j = k * 4 + 2
  · subst h2; simp [stpPart, e2]; try omega
  by_cases h1 : j = k * 4 + 1
  · subst h1; simp [stpPart, e1]; try omega
  by_cases h0 : j = k * 4
  · subst h0; simp [stpPart, e0]; try omega
  simp only [h0, h1, h2, h3, if_false, stpPart]
  by_cases h9 : j < k * 4
  · rw [if_pos h9, if_pos (by omega)]
  · rw [if_neg h9, if_neg (by omega)]

def stpSizeRel (l : List stpT) (left : Int) (w : World) (x i : Value) (wr : World) : Prop :=
  ∃ (k : Nat) (r : Int), k ≤ l.length ∧ i = .int .i64 k ∧ x = .int .i64 r ∧ 0 ≤ r ∧ r ≤ left ∧ (∀ j (h : j < l.length), j < k → (l[j].2.2.2.size : Int) ≤ left) ∧ Below w.heap.size w wr
/-- The mark of cell j. -/
def stpMark (k j : Nat) : Value := if j % 4 = 0 then .int .i64 ((k + j : Nat) : Int) else if j % 4 = 1 then .int .i64 ((k + j : Nat) : Int) else if j % 4 = 2 then .int .i64 ((k + j : Nat) : Int) else .string (markS (k + j))
def stpMarks (k n : Nat) : List Value := (List.range (n * 4)).map (stpMark k)
def stpMarked (k i : Nat) (xs : List Value) : List Value := (List.range xs.length).map fun j => if j < i then stpMark k j else xs.getD j undef
theorem stpMarked_zero (k : Nat) (xs : List Value) : stpMarked k 0 xs = xs := by
  apply List.ext_getElem
  · simp [stpMarked]
  · intro j h1 h2; simp [stpMarked, h2]
theorem stpMarked_all (k n : Nat) (xs : List Value) (h : xs.length = n * 4) : stpMarked k (n * 4) xs = stpMarks k n := by
  apply List.ext_getElem
  · simp [stpMarked, stpMarks, h]
  · intro j h1 h2; simp [stpMarked, h] at h1; simp [stpMarked, stpMarks, h1]
theorem stpMarked_set (k i : Nat) (xs : List Value) : (stpMarked k i xs).set i (stpMark k i) = stpMarked k (i + 1) xs := by
  apply List.ext_getElem
  · simp [stpMarked]
  · intro j h1 h2
    rw [List.getElem_set]
    by_cases hj : i = j
    · subst hj; simp [stpMarked]
    · rw [if_neg hj]; simp only [stpMarked, List.getElem_map, List.getElem_range]
      by_cases hji : j < i
      · rw [if_pos hji, if_pos (by omega)]
      · rw [if_neg hji, if_neg (by omega)]
theorem stpMarks_at (k n j : Nat) (h : j < n * 4) : (stpMarks k n)[j]? = some (stpMark k j) := by simp [stpMarks, h]
theorem stpMark_0 (k j : Nat) : stpMark k (j * 4) = .int .i64 ((k + j * 4 : Nat) : Int) := by unfold stpMark; rw [if_pos (by omega)]
theorem stpMark_1 (k j : Nat) : stpMark k (j * 4 + 1) = .int .i64 ((k + j * 4 + 1 : Nat) : Int) := by unfold stpMark; rw [if_neg (by omega), if_pos (by omega)]; rfl
theorem stpMark_2 (k j : Nat) : stpMark k (j * 4 + 2) = .int .i64 ((k + j * 4 + 2 : Nat) : Int) := by unfold stpMark; rw [if_neg (by omega), if_neg (by omega), if_pos (by omega)]; rfl
theorem stpMark_3 (k j : Nat) : stpMark k (j * 4 + 3) = .string (markS (k + j * 4 + 3)) := by unfold stpMark; rw [if_neg (by omega), if_neg (by omega), if_neg (by omega)]; rfl
def stpMarkRel (lo : Nat) (v : Value) (k n : Nat) (xs : List Value) (w : World) (q i : Value) (wr : World) : Prop :=
  ∃ j : Nat, j ≤ n ∧ q = .int .i64 ((k + j * 4 : Nat) : Int) ∧ i = .int .i64 j ∧ Own wr lo v n 4 (stpMarked k (j * 4) xs) ∧ w.grownBy wr (blk v n)
def stpHeldRel (k n : Nat) (w : World) (q i : Value) (wr : World) : Prop :=
  ∃ j : Nat, j ≤ n ∧ q = .int .i64 ((k + j * 4 : Nat) : Int) ∧ i = .int .i64 j ∧ Below w.heap.size w wr

end Go.Proofs.YtgiiclkjffdjgaaDoor

namespace Go.Proofs.YtgiiclkjffdjgaaDoor
open Go.RowKit

/-- x lies in 0 .. n - 1. -/
def inB (x n : Int) : Bool := decide (0 ≤ x) && decide (x ≤ n - 1)
def isT (x : Int) : Bool := decide (0 ≤ x) && decide (x ≤ 1000000)
theorem inB_iff (x n : Int) : inB x n = true ↔ 0 ≤ x ∧ x < n := by unfold inB; simp; omega
theorem inB_no (x n : Int) : inB x n = false ↔ ¬ (0 ≤ x ∧ x < n) := by rw [← inB_iff]; simp
theorem isT_iff (x : Int) : isT x = true ↔ 0 ≤ x ∧ x ≤ 1000000 := by unfold isT; simp
theorem isT_no (x : Int) : isT x = false ↔ ¬ (0 ≤ x ∧ x ≤ 1000000) := by rw [← isT_iff]; simp
/-- A step is valid for n blocks. -/
def StepOk (n k t f : Int) (d : ByteArray) : Prop :=
  (1 ≤ n ∧ n ≤ 8) ∧
  ((k = 1 ∧ inB t n = true ∧ f = 0 ∧ d.size = 0) ∨ (k = 2 ∧ inB t n = true ∧ f = 0 ∧ d.size = 8) ∨
   (k = 3 ∧ inB t n = true ∧ inB f n = true ∧ d.size = 0) ∨ (k = 4 ∧ inB t n = true ∧ inB f n = true ∧ d.size = 8) ∨
   (k = 5 ∧ t = 0 ∧ isT f = true ∧ d.size = 0))
instance (n k t f : Int) (d : ByteArray) : Decidable (StepOk n k t f d) := by unfold StepOk; infer_instance
def stepB (n k t f : Int) (d : ByteArray) : Bool := decide (StepOk n k t f d)
theorem stepB_iff (n k t f : Int) (d : ByteArray) : stepB n k t f d = true ↔ StepOk n k t f d := by unfold stepB; simp
theorem stepB_yes {n k t f : Int} {d : ByteArray} (h : StepOk n k t f d) : stepB n k t f d = true := (stepB_iff ..).2 h
theorem stepB_no {n k t f : Int} {d : ByteArray} (h : ¬ StepOk n k t f d) : stepB n k t f d = false := by
  cases h' : stepB n k t f d with
  | false => rfl
  | true => exact absurd ((stepB_iff ..).1 h') h
theorem empty_of {d : ByteArray} (h : d.size = 0) : d = ⟨#[]⟩ := by
  apply ByteArray.ext
  exact Array.eq_empty_of_size_eq_zero h
theorem toList_ne {d : ByteArray} (h : d.size ≠ 0) : ¬ d.toList = [] := fun he => h (by
  rw [ByteArray.toList_eq] at he
  have : d.data.size = 0 := by simpa using congrArg List.length he
  exact this)
end Go.Proofs.YtgiiclkjffdjgaaDoor

namespace Go.Proofs.YtgiiclkjffdjgaaDoor
open Go.RowKit

/-- A flash as the mathematics has it. -/
structure FM where
  sec : List ByteArray
  dir : List D
def FRd (w : World) (sv dv : Value) (F : FM) : Prop := Rd w sv F.sec.length 1 (strs F.sec) ∧ Rd w dv F.dir.length 2 (dirs F.dir)
/-- A flash of the call's own; its two slices lie apart. -/
def FOwn (w : World) (lo : Nat) (sv dv : Value) (F : FM) : Prop :=
  Own w lo sv F.sec.length 1 (strs F.sec) ∧ Own w lo dv F.dir.length 2 (dirs F.dir) ∧ ∀ k, blk sv F.sec.length = some k → blk dv F.dir.length ≠ some k
def FMade (w : World) (F : FM) (e : Ending) (w' : World) : Prop := ∃ sv dv, e = .returned (.agg #[sv, dv]) ∧ FOwn w' w.heap.size sv dv F ∧ Below w.heap.size w w'
/-- What a flash may take, and how great its parts are. -/
def FFits (F : FM) : Prop := F.sec.length ≤ 1048576 ∧ F.dir.length ≤ 1048576
def FReach (F : FM) : Prop := F.sec.length ≤ maxLen ∧ F.dir.length ≤ maxLen ∧ (∀ s ∈ F.sec, s.size ≤ maxLen) ∧ ∀ d ∈ F.dir, d.2.size ≤ maxLen
theorem FRd.below {w w' : World} {sv dv : Value} {F : FM} {B : Nat} (h : FRd w sv dv F) (hb : Below B w w') (hB : w.heap.size ≤ B) : FRd w' sv dv F := ⟨h.1.below hb hB, h.2.below hb hB⟩
theorem FOwn.below {w w' : World} {lo : Nat} {sv dv : Value} {F : FM} {B : Nat} (h : FOwn w lo sv dv F) (hb : Below B w w') (hB : w.heap.size ≤ B) : FOwn w' lo sv dv F := ⟨h.1.below hb hB, h.2.1.below hb hB, h.2.2⟩
theorem FOwn.rd {w : World} {lo : Nat} {sv dv : Value} {F : FM} (h : FOwn w lo sv dv F) : FRd w sv dv F := ⟨h.1.rd, h.2.1.rd⟩
theorem FOwn.lower {w : World} {lo lo' : Nat} {sv dv : Value} {F : FM} (h : FOwn w lo sv dv F) (hl : lo' ≤ lo) : FOwn w lo' sv dv F := ⟨h.1.lower hl, h.2.1.lower hl, h.2.2⟩
theorem two_cells {w w1 : World} {K : Nat} {T : TypeId} {a b : Value} (hb : Below K (w.alloc (.cells #[a, b] T)) w1) (hK : w.heap.size < K) : w1.cell? ⟨w.heap.size, 0, none⟩ = some a ∧ w1.cell? ⟨w.heap.size, 1, none⟩ = some b := by
  have hc : ∀ j, w1.cell? ⟨w.heap.size, j, none⟩ = (#[a, b] : Array Value)[j]? := fun j =>
    (hb.cell (p := ⟨w.heap.size, j, none⟩) hK).trans (World.cell?_alloc_new (w := w) #[a, b] T j)
  exact ⟨hc 0, hc 1⟩

/-- A flash all of whose cells are marked from k on. -/
def FMarked (w : World) (lo : Nat) (sv dv : Value) (n m k : Nat) : Prop :=
  Own w lo sv n 1 (marks k n) ∧ Own w lo dv m 2 (marksD (k + n) m) ∧ ∀ j, blk sv n = some j → blk dv m ≠ some j
end Go.Proofs.YtgiiclkjffdjgaaDoor

namespace Go.Proofs.YtgiiclkjffdjgaaDoor
open Go.RowKit

/-- A valid flash. -/
structure Right (F : FM) : Prop where
  least : 1 ≤ F.sec.length
  most : F.sec.length ≤ 40
  dirty : F.dir.length ≤ F.sec.length
  fits : ∀ j (h : j < F.sec.length), F.sec[j].size ≤ 96
  at0 : ∀ j (h : j < F.dir.length), 0 ≤ F.dir[j].1
  at1 : ∀ j (h : j < F.dir.length), F.dir[j].1 ≤ (F.sec.length : Int) - 1
  data : ∀ j (h : j < F.dir.length), F.dir[j].2.size ≤ 96
  once : ∀ i j (h : j < F.dir.length) (hi : i < j), F.dir[i].1 ≠ F.dir[j].1
def RightPost (F : FM) (w : World) (e : Ending) (w' : World) : Prop := ∃ b : Bool, e = .returned (.bool b) ∧ (b = true ↔ Right F) ∧ Below w.heap.size w w'

set_option maxRecDepth 100000 in
set_option maxHeartbeats 400000 in
theorem is_yes (n lo hi : Int) (w : World) (h0 : lo ≤ n) (h1 : n ≤ hi) :
    Calls Tryd.prog 61 #[.int .i64 n, .int .i64 lo, .int .i64 hi] w fun e w' => e = .returned (.bool true) ∧ w' = w := by
  go_enter Tryd.func61, Tryd.ntmps61
  go_wp2
  go_ret
  exact ⟨rfl, rfl⟩
set_option maxRecDepth 100000 in
set_option maxHeartbeats 400000 in
theorem is_no (n lo hi : Int) (w : World) (h : n < lo ∨ lo ≤ n ∧ hi < n) :
    Calls Tryd.prog 61 #[.int .i64 n, .int .i64 lo, .int .i64 hi] w fun e w' => e = .returned (.bool false) ∧ w' = w := by
  rcases h with h | ⟨h0, h⟩
  · have d0 : decide (lo ≤ n) = false := decide_eq_false (by omega)
    go_enter Tryd.func61, Tryd.ntmps61
    go_wp2
    go_ret
    exact ⟨rfl, rfl⟩
  · have d0 : decide (n ≤ hi) = false := decide_eq_false (by omega)
    go_enter Tryd.func61, Tryd.ntmps61
    go_wp2
    go_ret
    exact ⟨rfl, rfl⟩

def SecRel (F : FM) (i : Value) : Prop := ∃ k : Nat, k ≤ F.sec.length ∧ i = .int .i64 k ∧ ∀ j (h : j < F.sec.length), j < k → F.sec[j].size ≤ 96
/-- What has been seen of the first k elements of Dirty. -/
structure Seen (F : FM) (k : Nat) : Prop where
  at0 : ∀ j (h : j < F.dir.length), j < k → 0 ≤ F.dir[j].1
  at1 : ∀ j (h : j < F.dir.length), j < k → F.dir[j].1 ≤ (F.sec.length : Int) - 1
  data : ∀ j (h : j < F.dir.length), j < k → F.dir[j].2.size ≤ 96
  once : ∀ i j (h : j < F.dir.length) (hi : i < j), j < k → F.dir[i].1 ≠ F.dir[j].1
def DirRel (F : FM) (W : World) (i : Value) (wr : World) : Prop := ∃ k : Nat, k ≤ F.dir.length ∧ i = .int .i64 k ∧ Seen F k ∧ Still W wr
def OnceRel (F : FM) (k : Nat) (h : k < F.dir.length) (W : World) (i : Value) (wr : World) : Prop := ∃ m : Nat, m ≤ k ∧ i = .int .i64 m ∧ (∀ j (hj : j < k), j < m → F.dir[j].1 ≠ F.dir[k].1) ∧ Still W wr

end Go.Proofs.YtgiiclkjffdjgaaDoor

namespace Go.Proofs.YtgiiclkjffdjgaaDoor
open Go.RowKit

theorem is_dec (x lo hi : Int) (b : Bool) (w : World) (h : (decide (lo ≤ x) && decide (x ≤ hi)) = b) :
    Calls Tryd.prog 61 #[.int .i64 x, .int .i64 lo, .int .i64 hi] w fun e w' => e = .returned (.bool b) ∧ w' = w := by
  cases b with
  | true => simp at h; exact is_yes x lo hi w h.1 h.2
  | false =>
    refine is_no x lo hi w ?_
    rcases Int.lt_or_le x lo with h0 | h0
    · exact .inl h0
    · refine .inr ⟨h0, ?_⟩
      simp [h0] at h; omega


set_option maxRecDepth 100000 in
set_option maxHeartbeats 4000000 in
theorem specR1 (t f n : Int) (d : ByteArray) (w : World) (h0 : 1 ≤ n) (h1 : n ≤ 8) :
    Calls Tryd.prog 44 #[.agg #[.int .i64 1, .int .i64 t, .int .i64 f, .string d], .int .i64 n] w fun e w' => e = .returned (.bool (stepB n 1 t f d)) ∧ Below w.heap.size w w' := by
  have HB := Lib.hid ((Below.refl w.heap.size w).alloc (Nat.le_refl _) (.cells #[.int .i64 1, .int .i64 t, .int .i64 f, .string d] 33))
  have m0 : IntKind.i64.wrap (n - 1) = n - 1 := IntWalk.i64_in _ (by omega)
  obtain ⟨bt, ht⟩ : ∃ b, inB t n = b := ⟨_, rfl⟩
  obtain ⟨bf, hf⟩ : ∃ b, inB f n = b := ⟨_, rfl⟩
  have HT := Lib.hid ht
  have HF := Lib.hid hf
  clear ht hf
  cases bt with
  | false =>
    rw [show stepB n _ _ _ _ = false from stepB_no (by simp [StepOk, HT.out])]
    go_enter Tryd.func44, Tryd.ntmps44
    go_wp2_with fail
    refine (is_yes _ _ _ _ h0 h1).mono ?_
    rintro e w1 ⟨rfl, rfl⟩
    go_wp2_with fail
    go_quiet ((go_at_call 61; first | exact Calls.quiet_of_same (is_dec _ _ _ _ _ HT.out) | exact Calls.quiet_of_same (is_dec _ _ _ _ _ HF.out)))
    go_wp2_with fail
    go_ret
    exact ⟨rfl, below_drewN HB.out _⟩
  | true =>
    by_cases hzf : f = 0
    · subst hzf
      by_cases hd : d.size = 0
      · obtain rfl := empty_of hd
        have hd0 : (ByteArray.mk #[]).size = 0 := rfl
        clear hd
        rw [show stepB n _ _ _ _ = true from stepB_yes (by simp [StepOk, h0, h1, HT.out, hd0])]
        go_enter Tryd.func44, Tryd.ntmps44
        go_wp2_with fail
        refine (is_yes _ _ _ _ h0 h1).mono ?_
        rintro e w1 ⟨rfl, rfl⟩
        go_wp2_with fail
        go_quiet ((go_at_call 61; first | exact Calls.quiet_of_same (is_dec _ _ _ _ _ HT.out) | exact Calls.quiet_of_same (is_dec _ _ _ _ _ HF.out)))
        go_wp2_with fail
        go_ret
        exact ⟨rfl, below_drewN HB.out _⟩
      · have hd1 : d.toList.isEmpty = false := by have := toList_ne hd; simpa using this
        rw [show stepB n _ _ _ _ = false from stepB_no (by simp [StepOk, HT.out, hd])]
        go_enter Tryd.func44, Tryd.ntmps44
        go_wp2_with fail
        refine (is_yes _ _ _ _ h0 h1).mono ?_
        rintro e w1 ⟨rfl, rfl⟩
        go_wp2_with fail
        go_quiet ((go_at_call 61; first | exact Calls.quiet_of_same (is_dec _ _ _ _ _ HT.out) | exact Calls.quiet_of_same (is_dec _ _ _ _ _ HF.out)))
        go_wp2_with fail
        go_ret
        exact ⟨rfl, below_drewN HB.out _⟩
    · have dzf : (f == 0) = false := by simpa using hzf
      rw [show stepB n _ _ _ _ = false from stepB_no (by simp [StepOk, HT.out, hzf])]
      go_enter Tryd.func44, Tryd.ntmps44
      go_wp2_with fail
      refine (is_yes _ _ _ _ h0 h1).mono ?_
      rintro e w1 ⟨rfl, rfl⟩
      go_wp2_with fail
      go_quiet ((go_at_call 61; first | exact Calls.quiet_of_same (is_dec _ _ _ _ _ HT.out) | exact Calls.quiet_of_same (is_dec _ _ _ _ _ HF.out)))
      go_wp2_with fail
      go_ret
      exact ⟨rfl, below_drewN HB.out _⟩

set_option maxRecDepth 100000 in
set_option maxHeartbeats 4000000 in
theorem specR2 (t f n : Int) (d : ByteArray) (w : World) (h0 : 1 ≤ n) (h1 : n ≤ 8) :
    Calls Tryd.prog 44 #[.agg #[.int .i64 2, .int .i64 t, .int .i64 f, .string d], .int .i64 n] w fun e w' => e = .returned (.bool (stepB n 2 t f d)) ∧ Below w.heap.size w w' := by
  have HB := Lib.hid ((Below.refl w.heap.size w).alloc (Nat.le_refl _) (.cells #[.int .i64 2, .int .i64 t, .int .i64 f, .string d] 33))
  have m0 : IntKind.i64.wrap (n - 1) = n - 1 := IntWalk.i64_in _ (by omega)
  obtain ⟨bt, ht⟩ : ∃ b, inB t n = b := ⟨_, rfl⟩
  obtain ⟨bf, hf⟩ : ∃ b, inB f n = b := ⟨_, rfl⟩
  have HT := Lib.hid ht
  have HF := Lib.hid hf
  clear ht hf
  cases bt with
  | false =>
    rw [show stepB n _ _ _ _ = false from stepB_no (by simp [StepOk, HT.out])]
    go_enter Tryd.func44, Tryd.ntmps44
    go_wp2_with fail
    refine (is_yes _ _ _ _ h0 h1).mono ?_
    rintro e w1 ⟨rfl, rfl⟩
    go_wp2_with fail
    go_quiet ((go_at_call 61; first | exact Calls.quiet_of_same (is_dec _ _ _ _ _ HT.out) | exact Calls.quiet_of_same (is_dec _ _ _ _ _ HF.out)))
    go_wp2_with fail
    go_ret
    exact ⟨rfl, below_drewN HB.out _⟩
  | true =>
    by_cases hzf : f = 0
    · subst hzf
      by_cases hd : d.size = 8
      · have hd1 : ((d.size : Int) == 8) = true := by simp; omega
        rw [show stepB n _ _ _ _ = true from stepB_yes (by simp [StepOk, h0, h1, HT.out, hd])]
        go_enter Tryd.func44, Tryd.ntmps44
        go_wp2_with fail
        refine (is_yes _ _ _ _ h0 h1).mono ?_
        rintro e w1 ⟨rfl, rfl⟩
        go_wp2_with fail
        go_quiet ((go_at_call 61; first | exact Calls.quiet_of_same (is_dec _ _ _ _ _ HT.out) | exact Calls.quiet_of_same (is_dec _ _ _ _ _ HF.out)))
        go_wp2_with fail
        go_ret
        exact ⟨rfl, below_drewN HB.out _⟩
      · have hd1 : ((d.size : Int) == 8) = false := by simp; omega
        rw [show stepB n _ _ _ _ = false from stepB_no (by simp [StepOk, HT.out, hd])]
        go_enter Tryd.func44, Tryd.ntmps44
        go_wp2_with fail
        refine (is_yes _ _ _ _ h0 h1).mono ?_
        rintro e w1 ⟨rfl, rfl⟩
        go_wp2_with fail
        go_quiet ((go_at_call 61; first | exact Calls.quiet_of_same (is_dec _ _ _ _ _ HT.out) | exact Calls.quiet_of_same (is_dec _ _ _ _ _ HF.out)))
        go_wp2_with fail
        go_ret
        exact ⟨rfl, below_drewN HB.out _⟩
    · have dzf : (f == 0) = false := by simpa using hzf
      rw [show stepB n _ _ _ _ = false from stepB_no (by simp [StepOk, HT.out, hzf])]
      go_enter Tryd.func44, Tryd.ntmps44
      go_wp2_with fail
      refine (is_yes _ _ _ _ h0 h1).mono ?_
      rintro e w1 ⟨rfl, rfl⟩
      go_wp2_with fail
      go_quiet ((go_at_call 61; first | exact Calls.quiet_of_same (is_dec _ _ _ _ _ HT.out) | exact Calls.quiet_of_same (is_dec _ _ _ _ _ HF.out)))
      go_wp2_with fail
      go_ret
      exact ⟨rfl, below_drewN HB.out _⟩

set_option maxRecDepth 100000 in
set_option maxHeartbeats 4000000 in
theorem specR3 (t f n : Int) (d : ByteArray) (w : World) (h0 : 1 ≤ n) (h1 : n ≤ 8) :
    Calls Tryd.prog 44 #[.agg #[.int .i64 3, .int .i64 t, .int .i64 f, .string d], .int .i64 n] w fun e w' => e = .returned (.bool (stepB n 3 t f d)) ∧ Below w.heap.size w w' := by
  have HB := Lib.hid ((Below.refl w.heap.size w).alloc (Nat.le_refl _) (.cells #[.int .i64 3, .int .i64 t, .int .i64 f, .string d] 33))
  have m0 : IntKind.i64.wrap (n - 1) = n - 1 := IntWalk.i64_in _ (by omega)
  obtain ⟨bt, ht⟩ : ∃ b, inB t n = b := ⟨_, rfl⟩
  obtain ⟨bf, hf⟩ : ∃ b, inB f n = b := ⟨_, rfl⟩
  have HT := Lib.hid ht
  have HF := Lib.hid hf
  clear ht hf
  cases bt with
  | false =>
    rw [show stepB n _ _ _ _ = false from stepB_no (by simp [StepOk, HT.out])]
    go_enter Tryd.func44, Tryd.ntmps44
    go_wp2_with fail
    refine (is_yes _ _ _ _ h0 h1).mono ?_
    rintro e w1 ⟨rfl, rfl⟩
    go_wp2_with fail
    go_quiet ((go_at_call 61; first | exact Calls.quiet_of_same (is_dec _ _ _ _ _ HT.out) | exact Calls.quiet_of_same (is_dec _ _ _ _ _ HF.out)))
    go_wp2_with fail
    go_ret
    exact ⟨rfl, below_drewN HB.out _⟩
  | true =>
    cases bf with
    | false =>
      rw [show stepB n _ _ _ _ = false from stepB_no (by simp [StepOk, HT.out, HF.out])]
      go_enter Tryd.func44, Tryd.ntmps44
      go_wp2_with fail
      refine (is_yes _ _ _ _ h0 h1).mono ?_
      rintro e w1 ⟨rfl, rfl⟩
      go_wp2_with fail
      go_quiet ((go_at_call 61; first | exact Calls.quiet_of_same (is_dec _ _ _ _ _ HT.out) | exact Calls.quiet_of_same (is_dec _ _ _ _ _ HF.out)))
      go_wp2_with fail
      go_ret
      exact ⟨rfl, below_drewN HB.out _⟩
    | true =>
      by_cases hd : d.size = 0
      · obtain rfl := empty_of hd
        have hd0 : (ByteArray.mk #[]).size = 0 := rfl
        clear hd
        rw [show stepB n _ _ _ _ = true from stepB_yes (by simp [StepOk, h0, h1, HT.out, HF.out, hd0])]
        go_enter Tryd.func44, Tryd.ntmps44
        go_wp2_with fail
        refine (is_yes _ _ _ _ h0 h1).mono ?_
        rintro e w1 ⟨rfl, rfl⟩
        go_wp2_with fail
        go_quiet ((go_at_call 61; first | exact Calls.quiet_of_same (is_dec _ _ _ _ _ HT.out) | exact Calls.quiet_of_same (is_dec _ _ _ _ _ HF.out)))
        go_wp2_with fail
        go_ret
        exact ⟨rfl, below_drewN HB.out _⟩
      · have hd1 : d.toList.isEmpty = false := by have := toList_ne hd; simpa using this
        rw [show stepB n _ _ _ _ = false from stepB_no (by simp [StepOk, HT.out, HF.out, hd])]
        go_enter Tryd.func44, Tryd.ntmps44
        go_wp2_with fail
        refine (is_yes _ _ _ _ h0 h1).mono ?_
        rintro e w1 ⟨rfl, rfl⟩
        go_wp2_with fail
        go_quiet ((go_at_call 61; first | exact Calls.quiet_of_same (is_dec _ _ _ _ _ HT.out) | exact Calls.quiet_of_same (is_dec _ _ _ _ _ HF.out)))
        go_wp2_with fail
        go_ret
        exact ⟨rfl, below_drewN HB.out _⟩

set_option maxRecDepth 100000 in
set_option maxHeartbeats 4000000 in
theorem specR4 (t f n : Int) (d : ByteArray) (w : World) (h0 : 1 ≤ n) (h1 : n ≤ 8) :
    Calls Tryd.prog 44 #[.agg #[.int .i64 4, .int .i64 t, .int .i64 f, .string d], .int .i64 n] w fun e w' => e = .returned (.bool (stepB n 4 t f d)) ∧ Below w.heap.size w w' := by
  have HB := Lib.hid ((Below.refl w.heap.size w).alloc (Nat.le_refl _) (.cells #[.int .i64 4, .int .i64 t, .int .i64 f, .string d] 33))
  have m0 : IntKind.i64.wrap (n - 1) = n - 1 := IntWalk.i64_in _ (by omega)
  obtain ⟨bt, ht⟩ : ∃ b, inB t n = b := ⟨_, rfl⟩
  obtain ⟨bf, hf⟩ : ∃ b, inB f n = b := ⟨_, rfl⟩
  have HT := Lib.hid ht
  have HF := Lib.hid hf
  clear ht hf
  cases bt with
  | false =>
    rw [show stepB n _ _ _ _ = false from stepB_no (by simp [StepOk, HT.out])]
    go_enter Tryd.func44, Tryd.ntmps44
    go_wp2_with fail
    refine (is_yes _ _ _ _ h0 h1).mono ?_
    rintro e w1 ⟨rfl, rfl⟩
    go_wp2_with fail
    go_quiet ((go_at_call 61; first | exact Calls.quiet_of_same (is_dec _ _ _ _ _ HT.out) | exact Calls.quiet_of_same (is_dec _ _ _ _ _ HF.out)))
    go_wp2_with fail
    go_ret
    exact ⟨rfl, below_drewN HB.out _⟩
  | true =>
    cases bf with
    | false =>
      rw [show stepB n _ _ _ _ = false from stepB_no (by simp [StepOk, HT.out, HF.out])]
      go_enter Tryd.func44, Tryd.ntmps44
      go_wp2_with fail
      refine (is_yes _ _ _ _ h0 h1).mono ?_
      rintro e w1 ⟨rfl, rfl⟩
      go_wp2_with fail
      go_quiet ((go_at_call 61; first | exact Calls.quiet_of_same (is_dec _ _ _ _ _ HT.out) | exact Calls.quiet_of_same (is_dec _ _ _ _ _ HF.out)))
      go_wp2_with fail
      go_ret
      exact ⟨rfl, below_drewN HB.out _⟩
    | true =>
      by_cases hd : d.size = 8
      · have hd1 : ((d.size : Int) == 8) = true := by simp; omega
        rw [show stepB n _ _ _ _ = true from stepB_yes (by simp [StepOk, h0, h1, HT.out, HF.out, hd])]
        go_enter Tryd.func44, Tryd.ntmps44
        go_wp2_with fail
        refine (is_yes _ _ _ _ h0 h1).mono ?_
        rintro e w1 ⟨rfl, rfl⟩
        go_wp2_with fail
        go_quiet ((go_at_call 61; first | exact Calls.quiet_of_same (is_dec _ _ _ _ _ HT.out) | exact Calls.quiet_of_same (is_dec _ _ _ _ _ HF.out)))
        go_wp2_with fail
        go_ret
        exact ⟨rfl, below_drewN HB.out _⟩
      · have hd1 : ((d.size : Int) == 8) = false := by simp; omega
        rw [show stepB n _ _ _ _ = false from stepB_no (by simp [StepOk, HT.out, HF.out, hd])]
        go_enter Tryd.func44, Tryd.ntmps44
        go_wp2_with fail
        refine (is_yes _ _ _ _ h0 h1).mono ?_
        rintro e w1 ⟨rfl, rfl⟩
        go_wp2_with fail
        go_quiet ((go_at_call 61; first | exact Calls.quiet_of_same (is_dec _ _ _ _ _ HT.out) | exact Calls.quiet_of_same (is_dec _ _ _ _ _ HF.out)))
        go_wp2_with fail
        go_ret
        exact ⟨rfl, below_drewN HB.out _⟩

set_option maxRecDepth 100000 in
set_option maxHeartbeats 4000000 in
theorem specR5 (t f n : Int) (d : ByteArray) (w : World) (h0 : 1 ≤ n) (h1 : n ≤ 8) :
    Calls Tryd.prog 44 #[.agg #[.int .i64 5, .int .i64 t, .int .i64 f, .string d], .int .i64 n] w fun e w' => e = .returned (.bool (stepB n 5 t f d)) ∧ Below w.heap.size w w' := by
  have HB := Lib.hid ((Below.refl w.heap.size w).alloc (Nat.le_refl _) (.cells #[.int .i64 5, .int .i64 t, .int .i64 f, .string d] 33))
  have m0 : IntKind.i64.wrap (n - 1) = n - 1 := IntWalk.i64_in _ (by omega)
  obtain ⟨bt, ht⟩ : ∃ b, inB t n = b := ⟨_, rfl⟩
  obtain ⟨bf, hf⟩ : ∃ b, inB f n = b := ⟨_, rfl⟩
  have HT := Lib.hid ht
  have HF := Lib.hid hf
  clear ht hf
  by_cases hzt : t = 0
  · subst hzt
    obtain ⟨bT, hT⟩ : ∃ b, isT f = b := ⟨_, rfl⟩
    have HTT := Lib.hid hT
    clear hT
    cases bT with
    | false =>
      rw [show stepB n _ _ _ _ = false from stepB_no (by simp [StepOk, HTT.out])]
      go_enter Tryd.func44, Tryd.ntmps44
      go_wp2_with fail
      refine (is_yes _ _ _ _ h0 h1).mono ?_
      rintro e w1 ⟨rfl, rfl⟩
      go_wp2_with fail
      go_quiet ((go_at_call 61; first | exact Calls.quiet_of_same (is_dec _ _ _ _ _ HT.out) | exact Calls.quiet_of_same (is_dec _ _ _ _ _ HF.out)))
      go_wp2_with fail
      refine (is_dec _ _ _ _ _ HTT.out).mono ?_
      rintro e w2 ⟨rfl, rfl⟩
      go_wp2_with fail
      go_ret
      exact ⟨rfl, below_drewN HB.out _⟩
    | true =>
      by_cases hd : d.size = 0
      · obtain rfl := empty_of hd
        have hd0 : (ByteArray.mk #[]).size = 0 := rfl
        clear hd
        rw [show stepB n _ _ _ _ = true from stepB_yes (by simp [StepOk, h0, h1, HTT.out, hd0])]
        go_enter Tryd.func44, Tryd.ntmps44
        go_wp2_with fail
        refine (is_yes _ _ _ _ h0 h1).mono ?_
        rintro e w1 ⟨rfl, rfl⟩
        go_wp2_with fail
        go_quiet ((go_at_call 61; first | exact Calls.quiet_of_same (is_dec _ _ _ _ _ HT.out) | exact Calls.quiet_of_same (is_dec _ _ _ _ _ HF.out)))
        go_wp2_with fail
        refine (is_dec _ _ _ _ _ HTT.out).mono ?_
        rintro e w2 ⟨rfl, rfl⟩
        go_wp2_with fail
        go_ret
        exact ⟨rfl, below_drewN HB.out _⟩
      · have hd1 : d.toList.isEmpty = false := by have := toList_ne hd; simpa using this
        rw [show stepB n _ _ _ _ = false from stepB_no (by simp [StepOk, HTT.out, hd])]
        go_enter Tryd.func44, Tryd.ntmps44
        go_wp2_with fail
        refine (is_yes _ _ _ _ h0 h1).mono ?_
        rintro e w1 ⟨rfl, rfl⟩
        go_wp2_with fail
        go_quiet ((go_at_call 61; first | exact Calls.quiet_of_same (is_dec _ _ _ _ _ HT.out) | exact Calls.quiet_of_same (is_dec _ _ _ _ _ HF.out)))
        go_wp2_with fail
        refine (is_dec _ _ _ _ _ HTT.out).mono ?_
        rintro e w2 ⟨rfl, rfl⟩
        go_wp2_with fail
        go_ret
        exact ⟨rfl, below_drewN HB.out _⟩
  · have dzt : (t == 0) = false := by simpa using hzt
    rw [show stepB n _ _ _ _ = false from stepB_no (by simp [StepOk, hzt])]
    go_enter Tryd.func44, Tryd.ntmps44
    go_wp2_with fail
    refine (is_yes _ _ _ _ h0 h1).mono ?_
    rintro e w1 ⟨rfl, rfl⟩
    go_wp2_with fail
    go_quiet ((go_at_call 61; first | exact Calls.quiet_of_same (is_dec _ _ _ _ _ HT.out) | exact Calls.quiet_of_same (is_dec _ _ _ _ _ HF.out)))
    go_wp2_with fail
    go_ret
    exact ⟨rfl, below_drewN HB.out _⟩

set_option maxRecDepth 100000 in
set_option maxHeartbeats 4000000 in
theorem specRightS (k t f n : Int) (d : ByteArray) (w : World) :
    Calls Tryd.prog 44 #[.agg #[.int .i64 k, .int .i64 t, .int .i64 f, .string d], .int .i64 n] w fun e w' => e = .returned (.bool (stepB n k t f d)) ∧ Below w.heap.size w w' := by
  by_cases hn : 1 ≤ n ∧ n ≤ 8
  · obtain ⟨h0, h1⟩ := hn
    by_cases k1 : k = 1
    · subst k1; exact specR1 t f n d w h0 h1
    by_cases k2 : k = 2
    · subst k2; exact specR2 t f n d w h0 h1
    by_cases k3 : k = 3
    · subst k3; exact specR3 t f n d w h0 h1
    by_cases k4 : k = 4
    · subst k4; exact specR4 t f n d w h0 h1
    by_cases k5 : k = 5
    · subst k5; exact specR5 t f n d w h0 h1
    rw [show stepB n k t f d = false from stepB_no (by simp [StepOk, k1, k2, k3, k4, k5])]
    have HB := Lib.hid ((Below.refl w.heap.size w).alloc (Nat.le_refl _) (.cells #[.int .i64 k, .int .i64 t, .int .i64 f, .string d] 33))
    have m0 : IntKind.i64.wrap (n - 1) = n - 1 := IntWalk.i64_in _ (by omega)
    have e1 : (k == 1) = false := by simpa using k1
    have e2 : (k == 2) = false := by simpa using k2
    have e3 : (k == 3) = false := by simpa using k3
    have e4 : (k == 4) = false := by simpa using k4
    have e5 : (k == 5) = false := by simpa using k5
    clear k1 k2 k3 k4 k5
    go_enter Tryd.func44, Tryd.ntmps44
    go_wp2_with fail
    refine (is_yes _ _ _ _ h0 h1).mono ?_
    rintro e w1 ⟨rfl, rfl⟩
    go_wp2_with fail
    go_quiet ((go_at_call 61; exact Calls.quiet_of_same (is_dec _ _ _ _ _ rfl)))
    go_wp2_with fail
    go_ret
    exact ⟨rfl, below_drewN HB.out _⟩
  · rw [show stepB n k t f d = false from stepB_no (fun h => hn h.1)]
    have HB := Lib.hid ((Below.refl w.heap.size w).alloc (Nat.le_refl _) (.cells #[.int .i64 k, .int .i64 t, .int .i64 f, .string d] 33))
    have HN := Lib.hid (show (decide (1 ≤ n) && decide (n ≤ 8)) = false by cases h : (decide (1 ≤ n) && decide (n ≤ 8)) with | false => rfl | true => simp at h; exact absurd h hn)
    clear hn
    go_enter Tryd.func44, Tryd.ntmps44
    go_wp2_with fail
    refine (is_dec _ _ _ _ _ HN.out).mono ?_
    rintro e w1 ⟨rfl, rfl⟩
    go_wp2_with fail
    go_ret
    exact ⟨rfl, HB.out⟩
end Go.Proofs.YtgiiclkjffdjgaaDoor

namespace Go.Proofs.YtgiiclkjffdjgaaDoor
open Go.RowKit

set_option maxRecDepth 100000 in
theorem isBlock_any (x n : Int) (b : Bool) (w : World) (h : inB x n = b) :
    Calls Tryd.prog 106 #[.int .i64 x, .int .i64 n] w fun e w' => e = .returned (.bool b) ∧ w' = w := by
  subst h
  by_cases h0 : 0 ≤ x
  · by_cases h1 : x < n
    · rw [(inB_iff x n).2 ⟨h0, h1⟩]
      go_enter Tryd.func106, Tryd.ntmps106
      go_wp2
      go_ret
      exact ⟨rfl, rfl⟩
    · rw [(inB_no x n).2 (fun h => h1 h.2)]
      have d1 : decide (x < n) = false := decide_eq_false h1
      go_enter Tryd.func106, Tryd.ntmps106
      go_wp2
      go_ret
      exact ⟨rfl, rfl⟩
  · rw [(inB_no x n).2 (fun h => h0 h.1)]
    have d1 : decide (0 ≤ x) = false := decide_eq_false h0
    go_enter Tryd.func106, Tryd.ntmps106
    go_wp2
    go_ret
    exact ⟨rfl, rfl⟩
set_option maxRecDepth 100000 in
theorem isTime_any (x : Int) (b : Bool) (w : World) (h : isT x = b) :
    Calls Tryd.prog 103 #[.int .i64 x] w fun e w' => e = .returned (.bool b) ∧ w' = w := by
  subst h
  by_cases h0 : 0 ≤ x
  · by_cases h1 : x ≤ 1000000
    · rw [(isT_iff x).2 ⟨h0, h1⟩]
      go_enter Tryd.func103, Tryd.ntmps103
      go_wp2
      go_ret
      exact ⟨rfl, rfl⟩
    · rw [(isT_no x).2 (fun h => h1 h.2)]
      have d1 : decide (x ≤ 1000000) = false := decide_eq_false h1
      go_enter Tryd.func103, Tryd.ntmps103
      go_wp2
      go_ret
      exact ⟨rfl, rfl⟩
  · rw [(isT_no x).2 (fun h => h0 h.1)]
    have d1 : decide (0 ≤ x) = false := decide_eq_false h0
    go_enter Tryd.func103, Tryd.ntmps103
    go_wp2
    go_ret
    exact ⟨rfl, rfl⟩
set_option maxRecDepth 100000 in
theorem isCount_yes (n : Int) (w : World) (h0 : 1 ≤ n) (h1 : n ≤ 8) :
    Calls Tryd.prog 51 #[.int .i64 n] w fun e w' => e = .returned (.bool true) ∧ w' = w := by
  go_enter Tryd.func51, Tryd.ntmps51
  go_wp2
  go_ret
  exact ⟨rfl, rfl⟩
set_option maxRecDepth 100000 in
theorem isCount_no (n : Int) (w : World) (h : ¬ (1 ≤ n ∧ n ≤ 8)) :
    Calls Tryd.prog 51 #[.int .i64 n] w fun e w' => e = .returned (.bool false) ∧ w' = w := by
  by_cases h0 : 1 ≤ n
  · have d1 : decide (n ≤ 8) = false := decide_eq_false (fun h1 => h ⟨h0, h1⟩)
    clear h
    go_enter Tryd.func51, Tryd.ntmps51
    go_wp2
    go_ret
    exact ⟨rfl, rfl⟩
  · have d1 : decide (1 ≤ n) = false := decide_eq_false h0
    clear h
    go_enter Tryd.func51, Tryd.ntmps51
    go_wp2
    go_ret
    exact ⟨rfl, rfl⟩


set_option maxRecDepth 100000 in
set_option maxHeartbeats 1000000 in
theorem fits1 (t : Int) (n : Int) (b : Bool) (w : World) (h : (inB t n) = b) :
    Calls Tryd.prog 104 #[.agg #[.int .i64 t], .int .i64 n] w fun e w' => e = .returned (.bool b) ∧ Below w.heap.size w w' := by
  have HB := Lib.hid ((Below.refl w.heap.size w).alloc (Nat.le_refl _) (.cells #[.int .i64 t] 107))
  cases h0 : inB t n with
  | false =>
    have hb : b = false := by rw [← h]; simp [h0]
    clear h
    subst hb
    go_enter Tryd.func104, Tryd.ntmps104
    go_wp2_with fail
    refine (isBlock_any _ _ _ _ h0).mono ?_
    rintro e w1 ⟨rfl, rfl⟩
    go_wp2_with fail
    go_ret
    exact ⟨rfl, HB.out⟩
  | true =>
    have hb : b = true := by rw [← h]; simp [h0]
    clear h
    subst hb
    go_enter Tryd.func104, Tryd.ntmps104
    go_wp2_with fail
    refine (isBlock_any _ _ _ _ h0).mono ?_
    rintro e w1 ⟨rfl, rfl⟩
    go_wp2_with fail
    go_ret
    exact ⟨rfl, HB.out⟩

set_option maxRecDepth 100000 in
set_option maxHeartbeats 1000000 in
theorem step1 (t : Int) (w : World) :
    Calls Tryd.prog 105 #[.agg #[.int .i64 t]] w fun e w' => e = .returned (.agg #[.int .i64 1, .int .i64 t, .int .i64 0, .string ⟨#[]⟩]) ∧ Below w.heap.size w w' := by
  go_enter Tryd.func105, Tryd.ntmps105
  go_wp2_with fail
  refine bodyPost_ret (v := .agg #[.int .i64 1, .int .i64 t, .int .i64 0, .string ⟨#[]⟩]) (by simp [results, Tryd.results105, go_sem]) rfl ⟨rfl, ?_⟩
  exact ((Below.refl w.heap.size w).alloc (Nat.le_refl _) _).alloc (by simp) _
theorem method1f (v : Value) (w : World) : (Go.method 243 107 v "loop.example/g00668/impl.fits").run Tryd.prog w = .ok (104, v) w := by kernel_rfl
theorem method1s (v : Value) (w : World) : (Go.method 243 107 v "loop.example/g00668/impl.step").run Tryd.prog w = .ok (105, v) w := by kernel_rfl
set_option maxRecDepth 100000 in
set_option maxHeartbeats 1000000 in
theorem op1 (t f : Int) (d : ByteArray) (w : World) :
    Calls Tryd.prog 62 #[.agg #[.int .i64 1, .int .i64 t, .int .i64 f, .string d]] w fun e w' => e = .returned (.iface 107 (.agg #[.int .i64 t])) ∧ Below w.heap.size w w' := by
  go_enter Tryd.func62, Tryd.ntmps62
  go_wp2_with fail
  go_ret
  exact ⟨rfl, (Below.refl w.heap.size w).alloc (Nat.le_refl _) _⟩

set_option maxRecDepth 100000 in
set_option maxHeartbeats 1000000 in
theorem fits2 (t : Int) (d : ByteArray) (n : Int) (b : Bool) (w : World) (h : (inB t n && decide (d.size = 8)) = b) :
    Calls Tryd.prog 107 #[.agg #[.int .i64 t, .string d], .int .i64 n] w fun e w' => e = .returned (.bool b) ∧ Below w.heap.size w w' := by
  have HB := Lib.hid ((Below.refl w.heap.size w).alloc (Nat.le_refl _) (.cells #[.int .i64 t, .string d] 109))
  cases h0 : inB t n with
  | false =>
    have hb : b = false := by rw [← h]; simp [h0]
    clear h
    subst hb
    go_enter Tryd.func107, Tryd.ntmps107
    go_wp2_with fail
    refine (isBlock_any _ _ _ _ h0).mono ?_
    rintro e w1 ⟨rfl, rfl⟩
    go_wp2_with fail
    go_ret
    exact ⟨rfl, HB.out⟩
  | true =>
    cases h1 : decide (d.size = 8) with
    | false =>
      have hb : b = false := by rw [← h]; simp [h0, h1]
      clear h
      subst hb
      have hd1 : ((d.size : Int) == 8) = false := by simp at h1; simp; omega
      clear h1
      go_enter Tryd.func107, Tryd.ntmps107
      go_wp2_with fail
      refine (isBlock_any _ _ _ _ h0).mono ?_
      rintro e w1 ⟨rfl, rfl⟩
      go_wp2_with fail
      go_ret
      exact ⟨rfl, HB.out⟩
    | true =>
      have hd1 : ((d.size : Int) == 8) = true := by simp at h1; simp; omega
      have hb : b = true := by rw [← h]; simp [h0, h1]
      clear h
      subst hb
      go_enter Tryd.func107, Tryd.ntmps107
      go_wp2_with fail
      refine (isBlock_any _ _ _ _ h0).mono ?_
      rintro e w1 ⟨rfl, rfl⟩
      go_wp2_with fail
      go_ret
      exact ⟨rfl, HB.out⟩

set_option maxRecDepth 100000 in
set_option maxHeartbeats 1000000 in
theorem step2 (t : Int) (d : ByteArray) (w : World) :
    Calls Tryd.prog 108 #[.agg #[.int .i64 t, .string d]] w fun e w' => e = .returned (.agg #[.int .i64 2, .int .i64 t, .int .i64 0, .string d]) ∧ Below w.heap.size w w' := by
  go_enter Tryd.func108, Tryd.ntmps108
  go_wp2_with fail
  refine bodyPost_ret (v := .agg #[.int .i64 2, .int .i64 t, .int .i64 0, .string d]) (by simp [results, Tryd.results108, go_sem]) rfl ⟨rfl, ?_⟩
  exact ((Below.refl w.heap.size w).alloc (Nat.le_refl _) _).alloc (by simp) _
theorem method2f (v : Value) (w : World) : (Go.method 243 109 v "loop.example/g00668/impl.fits").run Tryd.prog w = .ok (107, v) w := by kernel_rfl
theorem method2s (v : Value) (w : World) : (Go.method 243 109 v "loop.example/g00668/impl.step").run Tryd.prog w = .ok (108, v) w := by kernel_rfl
set_option maxRecDepth 100000 in
set_option maxHeartbeats 1000000 in
theorem op2 (t f : Int) (d : ByteArray) (w : World) :
    Calls Tryd.prog 62 #[.agg #[.int .i64 2, .int .i64 t, .int .i64 f, .string d]] w fun e w' => e = .returned (.iface 109 (.agg #[.int .i64 t, .string d])) ∧ Below w.heap.size w w' := by
  go_enter Tryd.func62, Tryd.ntmps62
  go_wp2_with fail
  go_ret
  exact ⟨rfl, (Below.refl w.heap.size w).alloc (Nat.le_refl _) _⟩

set_option maxRecDepth 100000 in
set_option maxHeartbeats 1000000 in
theorem fits3 (t : Int) (f : Int) (n : Int) (b : Bool) (w : World) (h : (inB t n && inB f n) = b) :
    Calls Tryd.prog 109 #[.agg #[.int .i64 t, .int .i64 f], .int .i64 n] w fun e w' => e = .returned (.bool b) ∧ Below w.heap.size w w' := by
  have HB := Lib.hid ((Below.refl w.heap.size w).alloc (Nat.le_refl _) (.cells #[.int .i64 t, .int .i64 f] 111))
  cases h0 : inB t n with
  | false =>
    have hb : b = false := by rw [← h]; simp [h0]
    clear h
    subst hb
    go_enter Tryd.func109, Tryd.ntmps109
    go_wp2_with fail
    refine (isBlock_any _ _ _ _ h0).mono ?_
    rintro e w1 ⟨rfl, rfl⟩
    go_wp2_with fail
    go_ret
    exact ⟨rfl, HB.out⟩
  | true =>
    cases h1 : inB f n with
    | false =>
      have hb : b = false := by rw [← h]; simp [h0, h1]
      clear h
      subst hb
      go_enter Tryd.func109, Tryd.ntmps109
      go_wp2_with fail
      refine (isBlock_any _ _ _ _ h0).mono ?_
      rintro e w1 ⟨rfl, rfl⟩
      go_wp2_with fail
      refine (isBlock_any _ _ _ _ h1).mono ?_
      rintro e w2 ⟨rfl, rfl⟩
      go_wp2_with fail
      go_ret
      exact ⟨rfl, HB.out⟩
    | true =>
      have hb : b = true := by rw [← h]; simp [h0, h1]
      clear h
      subst hb
      go_enter Tryd.func109, Tryd.ntmps109
      go_wp2_with fail
      refine (isBlock_any _ _ _ _ h0).mono ?_
      rintro e w1 ⟨rfl, rfl⟩
      go_wp2_with fail
      refine (isBlock_any _ _ _ _ h1).mono ?_
      rintro e w2 ⟨rfl, rfl⟩
      go_wp2_with fail
      go_ret
      exact ⟨rfl, HB.out⟩

set_option maxRecDepth 100000 in
set_option maxHeartbeats 1000000 in
theorem step3 (t : Int) (f : Int) (w : World) :
    Calls Tryd.prog 110 #[.agg #[.int .i64 t, .int .i64 f]] w fun e w' => e = .returned (.agg #[.int .i64 3, .int .i64 t, .int .i64 f, .string ⟨#[]⟩]) ∧ Below w.heap.size w w' := by
  go_enter Tryd.func110, Tryd.ntmps110
  go_wp2_with fail
  refine bodyPost_ret (v := .agg #[.int .i64 3, .int .i64 t, .int .i64 f, .string ⟨#[]⟩]) (by simp [results, Tryd.results110, go_sem]) rfl ⟨rfl, ?_⟩
  exact ((Below.refl w.heap.size w).alloc (Nat.le_refl _) _).alloc (by simp) _
theorem method3f (v : Value) (w : World) : (Go.method 243 111 v "loop.example/g00668/impl.fits").run Tryd.prog w = .ok (109, v) w := by kernel_rfl
theorem method3s (v : Value) (w : World) : (Go.method 243 111 v "loop.example/g00668/impl.step").run Tryd.prog w = .ok (110, v) w := by kernel_rfl
set_option maxRecDepth 100000 in
set_option maxHeartbeats 1000000 in
theorem op3 (t f : Int) (d : ByteArray) (w : World) :
    Calls Tryd.prog 62 #[.agg #[.int .i64 3, .int .i64 t, .int .i64 f, .string d]] w fun e w' => e = .returned (.iface 111 (.agg #[.int .i64 t, .int .i64 f])) ∧ Below w.heap.size w w' := by
  go_enter Tryd.func62, Tryd.ntmps62
  go_wp2_with fail
  go_ret
  exact ⟨rfl, (Below.refl w.heap.size w).alloc (Nat.le_refl _) _⟩

set_option maxRecDepth 100000 in
set_option maxHeartbeats 1000000 in
theorem fits4 (t : Int) (f : Int) (d : ByteArray) (n : Int) (b : Bool) (w : World) (h : (inB t n && inB f n && decide (d.size = 8)) = b) :
    Calls Tryd.prog 111 #[.agg #[.int .i64 t, .int .i64 f, .string d], .int .i64 n] w fun e w' => e = .returned (.bool b) ∧ Below w.heap.size w w' := by
  have HB := Lib.hid ((Below.refl w.heap.size w).alloc (Nat.le_refl _) (.cells #[.int .i64 t, .int .i64 f, .string d] 113))
  cases h0 : inB t n with
  | false =>
    have hb : b = false := by rw [← h]; simp [h0]
    clear h
    subst hb
    go_enter Tryd.func111, Tryd.ntmps111
    go_wp2_with fail
    refine (isBlock_any _ _ _ _ h0).mono ?_
    rintro e w1 ⟨rfl, rfl⟩
    go_wp2_with fail
    go_ret
    exact ⟨rfl, HB.out⟩
  | true =>
    cases h1 : inB f n with
    | false =>
      have hb : b = false := by rw [← h]; simp [h0, h1]
      clear h
      subst hb
      go_enter Tryd.func111, Tryd.ntmps111
      go_wp2_with fail
      refine (isBlock_any _ _ _ _ h0).mono ?_
      rintro e w1 ⟨rfl, rfl⟩
      go_wp2_with fail
      refine (isBlock_any _ _ _ _ h1).mono ?_
      rintro e w2 ⟨rfl, rfl⟩
      go_wp2_with fail
      go_ret
      exact ⟨rfl, HB.out⟩
    | true =>
      cases h2 : decide (d.size = 8) with
      | false =>
        have hb : b = false := by rw [← h]; simp [h0, h1, h2]
        clear h
        subst hb
        have hd1 : ((d.size : Int) == 8) = false := by simp at h2; simp; omega
        clear h2
        go_enter Tryd.func111, Tryd.ntmps111
        go_wp2_with fail
        refine (isBlock_any _ _ _ _ h0).mono ?_
        rintro e w1 ⟨rfl, rfl⟩
        go_wp2_with fail
        refine (isBlock_any _ _ _ _ h1).mono ?_
        rintro e w2 ⟨rfl, rfl⟩
        go_wp2_with fail
        go_ret
        exact ⟨rfl, HB.out⟩
      | true =>
        have hd1 : ((d.size : Int) == 8) = true := by simp at h2; simp; omega
        have hb : b = true := by rw [← h]; simp [h0, h1, h2]
        clear h
        subst hb
        go_enter Tryd.func111, Tryd.ntmps111
        go_wp2_with fail
        refine (isBlock_any _ _ _ _ h0).mono ?_
        rintro e w1 ⟨rfl, rfl⟩
        go_wp2_with fail
        refine (isBlock_any _ _ _ _ h1).mono ?_
        rintro e w2 ⟨rfl, rfl⟩
        go_wp2_with fail
        go_ret
        exact ⟨rfl, HB.out⟩

set_option maxRecDepth 100000 in
set_option maxHeartbeats 1000000 in
theorem step4 (t : Int) (f : Int) (d : ByteArray) (w : World) :
    Calls Tryd.prog 112 #[.agg #[.int .i64 t, .int .i64 f, .string d]] w fun e w' => e = .returned (.agg #[.int .i64 4, .int .i64 t, .int .i64 f, .string d]) ∧ Below w.heap.size w w' := by
  go_enter Tryd.func112, Tryd.ntmps112
  go_wp2_with fail
  refine bodyPost_ret (v := .agg #[.int .i64 4, .int .i64 t, .int .i64 f, .string d]) (by simp [results, Tryd.results112, go_sem]) rfl ⟨rfl, ?_⟩
  exact ((Below.refl w.heap.size w).alloc (Nat.le_refl _) _).alloc (by simp) _
theorem method4f (v : Value) (w : World) : (Go.method 243 113 v "loop.example/g00668/impl.fits").run Tryd.prog w = .ok (111, v) w := by kernel_rfl
theorem method4s (v : Value) (w : World) : (Go.method 243 113 v "loop.example/g00668/impl.step").run Tryd.prog w = .ok (112, v) w := by kernel_rfl
set_option maxRecDepth 100000 in
set_option maxHeartbeats 1000000 in
theorem op4 (t f : Int) (d : ByteArray) (w : World) :
    Calls Tryd.prog 62 #[.agg #[.int .i64 4, .int .i64 t, .int .i64 f, .string d]] w fun e w' => e = .returned (.iface 113 (.agg #[.int .i64 t, .int .i64 f, .string d])) ∧ Below w.heap.size w w' := by
  go_enter Tryd.func62, Tryd.ntmps62
  go_wp2_with fail
  go_ret
  exact ⟨rfl, (Below.refl w.heap.size w).alloc (Nat.le_refl _) _⟩

set_option maxRecDepth 100000 in
set_option maxHeartbeats 1000000 in
theorem fits5 (f : Int) (n : Int) (b : Bool) (w : World) (h : (isT f) = b) :
    Calls Tryd.prog 101 #[.agg #[.int .i64 f], .int .i64 n] w fun e w' => e = .returned (.bool b) ∧ Below w.heap.size w w' := by
  have HB := Lib.hid ((Below.refl w.heap.size w).alloc (Nat.le_refl _) (.cells #[.int .i64 f] 105))
  cases h0 : isT f with
  | false =>
    have hb : b = false := by rw [← h]; simp [h0]
    clear h
    subst hb
    go_enter Tryd.func101, Tryd.ntmps101
    go_wp2_with fail
    refine (isTime_any _ _ _ h0).mono ?_
    rintro e w1 ⟨rfl, rfl⟩
    go_wp2_with fail
    go_ret
    exact ⟨rfl, HB.out⟩
  | true =>
    have hb : b = true := by rw [← h]; simp [h0]
    clear h
    subst hb
    go_enter Tryd.func101, Tryd.ntmps101
    go_wp2_with fail
    refine (isTime_any _ _ _ h0).mono ?_
    rintro e w1 ⟨rfl, rfl⟩
    go_wp2_with fail
    go_ret
    exact ⟨rfl, HB.out⟩

set_option maxRecDepth 100000 in
set_option maxHeartbeats 1000000 in
theorem step5 (f : Int) (w : World) :
    Calls Tryd.prog 102 #[.agg #[.int .i64 f]] w fun e w' => e = .returned (.agg #[.int .i64 5, .int .i64 0, .int .i64 f, .string ⟨#[]⟩]) ∧ Below w.heap.size w w' := by
  go_enter Tryd.func102, Tryd.ntmps102
  go_wp2_with fail
  refine bodyPost_ret (v := .agg #[.int .i64 5, .int .i64 0, .int .i64 f, .string ⟨#[]⟩]) (by simp [results, Tryd.results102, go_sem]) rfl ⟨rfl, ?_⟩
  exact ((Below.refl w.heap.size w).alloc (Nat.le_refl _) _).alloc (by simp) _
theorem method5f (v : Value) (w : World) : (Go.method 243 105 v "loop.example/g00668/impl.fits").run Tryd.prog w = .ok (101, v) w := by kernel_rfl
theorem method5s (v : Value) (w : World) : (Go.method 243 105 v "loop.example/g00668/impl.step").run Tryd.prog w = .ok (102, v) w := by kernel_rfl
set_option maxRecDepth 100000 in
set_option maxHeartbeats 1000000 in
theorem op5 (t f : Int) (d : ByteArray) (w : World) :
    Calls Tryd.prog 62 #[.agg #[.int .i64 5, .int .i64 t, .int .i64 f, .string d]] w fun e w' => e = .returned (.iface 105 (.agg #[.int .i64 f])) ∧ Below w.heap.size w w' := by
  go_enter Tryd.func62, Tryd.ntmps62
  go_wp2_with fail
  go_ret
  exact ⟨rfl, (Below.refl w.heap.size w).alloc (Nat.le_refl _) _⟩

set_option maxRecDepth 100000 in
set_option maxHeartbeats 1000000 in
theorem op0 (k t f : Int) (d : ByteArray) (w : World) (k1 : k ≠ 1) (k2 : k ≠ 2) (k3 : k ≠ 3) (k4 : k ≠ 4) (k5 : k ≠ 5) :
    Calls Tryd.prog 62 #[.agg #[.int .i64 k, .int .i64 t, .int .i64 f, .string d]] w fun e w' => e = .returned .nilIface ∧ Below w.heap.size w w' := by
  have e1 : (k == 1) = false := by simpa using k1
  have e2 : (k == 2) = false := by simpa using k2
  have e3 : (k == 3) = false := by simpa using k3
  have e4 : (k == 4) = false := by simpa using k4
  have e5 : (k == 5) = false := by simpa using k5
  clear k1 k2 k3 k4 k5
  go_enter Tryd.func62, Tryd.ntmps62
  go_wp2_with fail
  go_ret
  exact ⟨rfl, (Below.refl w.heap.size w).alloc (Nat.le_refl _) _⟩
end Go.Proofs.YtgiiclkjffdjgaaDoor

namespace Go.Proofs.YtgiiclkjffdjgaaDoor
open Go.RowKit

/-- Block n holds just these cells. -/
def Bx (w : World) (n : Nat) (T : TypeId) (vs : Array Value) : Prop := w.heap[n]? = some (.cells vs T (0, 0))
theorem bx_new (w : World) (T : TypeId) (vs : Array Value) : Bx (w.alloc (.cells vs T)) w.heap.size T vs := heap_alloc_new w _
theorem Bx.lt {w : World} {n : Nat} {T : TypeId} {vs : Array Value} (h : Bx w n T vs) : n < w.heap.size := (Array.getElem?_eq_some_iff.1 h).1
theorem Bx.below {w w' : World} {n B : Nat} {T : TypeId} {vs : Array Value} (h : Bx w n T vs) (hb : Below B w w') (hB : n < B) : Bx w' n T vs := (hb.block n hB).trans h
theorem Bx.next {w w' : World} {n : Nat} {T : TypeId} {vs : Array Value} (h : Bx w n T vs) (hb : Below w.heap.size w w') : Bx w' n T vs := (hb.block n h.lt).trans h
theorem Bx.two {w w' : World} {n : Nat} {T : TypeId} {vs : Array Value} {s d : Option Nat} (h : Bx w n T vs) (ht : Two s d w w') (h1 : some n ≠ s) (h2 : some n ≠ d) : Bx w' n T vs := (ht.block n h.lt h1 h2).trans h
theorem Bx.grown {w w' : World} {n : Nat} {T : TypeId} {vs : Array Value} {s : Option Nat} (h : Bx w n T vs) (hg : w.grownBy w' s) (h1 : some n ≠ s) : Bx w' n T vs := (hg.block n h.lt h1).trans h
theorem Bx.cell {w : World} {n : Nat} {T : TypeId} {vs : Array Value} (h : Bx w n T vs) (j : Nat) : w.cell? ⟨n, j, none⟩ = vs[j]? := cell_of_row w n j _ _ _ h
theorem Bx.frozen {w : World} {n : Nat} {T : TypeId} {vs : Array Value} (h : Bx w n T vs) (j : Nat) : w.frozen? ⟨n, j, none⟩ = false := frozen_of_row w n j _ _ h
theorem Bx.c0 {w : World} {n : Nat} {T : TypeId} {a b : Value} (h : Bx w n T #[a, b]) : w.cell? ⟨n, 0, none⟩ = some a := h.cell 0
theorem Bx.c1 {w : World} {n : Nat} {T : TypeId} {a b : Value} (h : Bx w n T #[a, b]) : w.cell? ⟨n, 1, none⟩ = some b := h.cell 1
theorem Bx.q0 {w : World} {n : Nat} {T : TypeId} {a b c d : Value} (h : Bx w n T #[a, b, c, d]) : w.cell? ⟨n, 0, none⟩ = some a := h.cell 0
theorem Bx.q1 {w : World} {n : Nat} {T : TypeId} {a b c d : Value} (h : Bx w n T #[a, b, c, d]) : w.cell? ⟨n, 1, none⟩ = some b := h.cell 1
theorem Bx.q2 {w : World} {n : Nat} {T : TypeId} {a b c d : Value} (h : Bx w n T #[a, b, c, d]) : w.cell? ⟨n, 2, none⟩ = some c := h.cell 2
theorem Bx.q3 {w : World} {n : Nat} {T : TypeId} {a b c d : Value} (h : Bx w n T #[a, b, c, d]) : w.cell? ⟨n, 3, none⟩ = some d := h.cell 3
theorem Bx.t0 {w : World} {n : Nat} {T : TypeId} {a b c : Value} (h : Bx w n T #[a, b, c]) : w.cell? ⟨n, 0, none⟩ = some a := h.cell 0
theorem Bx.t1 {w : World} {n : Nat} {T : TypeId} {a b c : Value} (h : Bx w n T #[a, b, c]) : w.cell? ⟨n, 1, none⟩ = some b := h.cell 1
theorem Bx.t2 {w : World} {n : Nat} {T : TypeId} {a b c : Value} (h : Bx w n T #[a, b, c]) : w.cell? ⟨n, 2, none⟩ = some c := h.cell 2
theorem Bx.set {w : World} {n j : Nat} {T : TypeId} {vs : Array Value} (h : Bx w n T vs) (x : Value) : Bx (w.setCell ⟨n, j, none⟩ x) n T (vs.setIfInBounds j x) := heap_setCell_same w n j _ T x h
theorem Bx.other {w : World} {n : Nat} {T : TypeId} {vs : Array Value} (h : Bx w n T vs) (p : Addr) (x : Value) (hp : n ≠ p.block) : Bx (w.setCell p x) n T vs := (Below.heap_setCell w p x n hp).trans h
theorem below_alloc1 (w : World) (o : Obj) : Below w.heap.size w (w.alloc o) := (Below.refl _ w).alloc (Nat.le_refl _) o
theorem size_alloc1 (w : World) (o : Obj) : (w.alloc o).heap.size = w.heap.size + 1 := by simp
theorem FOwn.two {w w' : World} {lo : Nat} {sv dv : Value} {F : FM} {s d : Option Nat} (h : FOwn w lo sv dv F) (ht : Two s d w w') (hne : ∀ k, (blk sv F.sec.length = some k ∨ blk dv F.dir.length = some k) → some k ≠ s ∧ some k ≠ d) : FOwn w' lo sv dv F :=
  ⟨h.1.two ht fun k hk => hne k (.inl hk), h.2.1.two ht fun k hk => hne k (.inr hk), h.2.2⟩
theorem FOwn.in {w : World} {lo : Nat} {sv dv : Value} {F : FM} (h : FOwn w lo sv dv F) : ∀ k, (blk sv F.sec.length = some k ∨ blk dv F.dir.length = some k) → lo ≤ k ∧ k < w.heap.size := fun k hk => by
  rcases hk with hk | hk
  · exact h.1.blk k hk
  · exact h.2.1.blk k hk
theorem FMarked.below {w w' : World} {lo n m k B : Nat} {sv dv : Value} (h : FMarked w lo sv dv n m k) (hb : Below B w w') (hB : w.heap.size ≤ B) : FMarked w' lo sv dv n m k := ⟨h.1.below hb hB, h.2.1.below hb hB, h.2.2⟩
theorem Two.keepBelow {s d : Option Nat} {w w' : World} {lo : Nat} (ht : Two s d w w') (h : ∀ k, (s = some k ∨ d = some k) → lo ≤ k) (hw : lo ≤ w.heap.size) : Below lo w w' := ht.below (fun k e => h k (.inl e)) (fun k e => h k (.inr e)) hw
end Go.Proofs.YtgiiclkjffdjgaaDoor

namespace Go.Proofs.YtgiiclkjffdjgaaDoor
open Go.RowKit


set_option maxRecDepth 100000 in
set_option maxHeartbeats 1000000 in
theorem implR1 (t f n : Int) (d : ByteArray) (w : World) (h0 : 1 ≤ n) (h1 : n ≤ 8) :
    Calls Tryd.prog 43 #[.agg #[.int .i64 1, .int .i64 t, .int .i64 f, .string d], .int .i64 n] w fun e w' => e = .returned (.bool (stepB n 1 t f d)) ∧ Below w.heap.size w w' := by
  have mf := method1f
  have ms := method1s
  obtain ⟨bb, hbb⟩ : ∃ b, (inB t n) = b := ⟨_, rfl⟩
  have HBB := Lib.hid hbb
  clear hbb
  have b0 := below_alloc1 w (.cells #[.int .i64 1, .int .i64 t, .int .i64 f, .string d] 33)
  have z0 := size_alloc1 w (.cells #[.int .i64 1, .int .i64 t, .int .i64 f, .string d] 33)
  have X0 := Lib.hid (bx_new w 33 #[.int .i64 1, .int .i64 t, .int .i64 f, .string d])
  have B0 := Lib.hid b0
  clear b0
  cases bb with
  | false =>
    have no : stepB n 1 t f d = false := stepB_no (by have := HBB.out; simp [StepOk]; try (intros; simp_all))
    rw [no]
    go_enter Tryd.func43, Tryd.ntmps43
    go_wp2_with fail
    refine (op1 _ _ _ _).mono ?_
    rintro e w1 ⟨rfl, hb1⟩
    have X1 := X0.out.next hb1
    have B1 := Lib.hid (B0.out.trans (hb1.mono (by omega)))
    have s1 := hb1.size
    have c0 := X1.q0
    have c1 := X1.q1
    have c2 := X1.q2
    have c3 := X1.q3
    have HX1 := Lib.hid X1
    clear X1 hb1
    go_wp2_with fail
    refine (isCount_yes n _ h0 h1).mono ?_
    rintro e w1 ⟨rfl, rfl⟩
    go_wp2_with fail
    (first | go_region_with ((first | (go_at_call 104; go_loud ( refine (fits1 t n _ _ HBB.out).mono ?_; rintro e w2 ⟨rfl, hb2⟩; have X2 := HX1.out.next ((Below.refl w1.heap.size w1).drew.trans hb2); have B2 := Lib.hid (B1.out.trans (((Below.refl w1.heap.size w1).drew.trans hb2).mono B1.out.size)); have c0 := X2.q0; have c1 := X2.q1; have c2 := X2.q2; have c3 := X2.q3; have s2 := hb2.size; have HX2 := Lib.hid X2; clear X2 hb2)) | (go_at_call 105; go_loud ( refine (step1 t _).mono ?_; rintro e w3 ⟨rfl, hb3⟩; have X3 := HX2.out.next hb3; have B3 := Lib.hid (B2.out.trans (hb3.mono B2.out.size)); have c0 := X3.q0; have c1 := X3.q1; have c2 := X3.q2; have c3 := X3.q3; clear X3 hb3)))) | fail "region")
    all_goals (go_wp2_with fail; go_ret; first | exact ⟨rfl, B3.out⟩ | exact ⟨rfl, B2.out⟩)
  | true =>
    by_cases hzf : f = 0
    · subst hzf
      by_cases hd : d.size = 0
      · obtain rfl := empty_of hd
        clear hd
        have ys : stepB n 1 t 0 ⟨#[]⟩ = true := stepB_yes (by have := HBB.out; (try simp at this); simp [StepOk, h0, h1, this]; try rfl)
        rw [ys]
        go_enter Tryd.func43, Tryd.ntmps43
        go_wp2_with fail
        refine (op1 _ _ _ _).mono ?_
        rintro e w1 ⟨rfl, hb1⟩
        have X1 := X0.out.next hb1
        have B1 := Lib.hid (B0.out.trans (hb1.mono (by omega)))
        have s1 := hb1.size
        have c0 := X1.q0
        have c1 := X1.q1
        have c2 := X1.q2
        have c3 := X1.q3
        have HX1 := Lib.hid X1
        clear X1 hb1
        go_wp2_with fail
        refine (isCount_yes n _ h0 h1).mono ?_
        rintro e w1 ⟨rfl, rfl⟩
        go_wp2_with fail
        (first | go_region_with ((first | (go_at_call 104; go_loud ( refine (fits1 t n _ _ HBB.out).mono ?_; rintro e w2 ⟨rfl, hb2⟩; have X2 := HX1.out.next ((Below.refl w1.heap.size w1).drew.trans hb2); have B2 := Lib.hid (B1.out.trans (((Below.refl w1.heap.size w1).drew.trans hb2).mono B1.out.size)); have c0 := X2.q0; have c1 := X2.q1; have c2 := X2.q2; have c3 := X2.q3; have s2 := hb2.size; have HX2 := Lib.hid X2; clear X2 hb2)) | (go_at_call 105; go_loud ( refine (step1 t _).mono ?_; rintro e w3 ⟨rfl, hb3⟩; have X3 := HX2.out.next hb3; have B3 := Lib.hid (B2.out.trans (hb3.mono B2.out.size)); have c0 := X3.q0; have c1 := X3.q1; have c2 := X3.q2; have c3 := X3.q3; clear X3 hb3)))) | fail "region")
        all_goals (go_wp2_with fail; go_ret; first | exact ⟨rfl, B3.out⟩ | exact ⟨rfl, B2.out⟩)
      · have no : stepB n 1 t 0 d = false := stepB_no (by simp [StepOk, hd])
        have hd1 : d.toList.isEmpty = false := by have := toList_ne hd; simpa using this
        rw [no]
        go_enter Tryd.func43, Tryd.ntmps43
        go_wp2_with fail
        refine (op1 _ _ _ _).mono ?_
        rintro e w1 ⟨rfl, hb1⟩
        have X1 := X0.out.next hb1
        have B1 := Lib.hid (B0.out.trans (hb1.mono (by omega)))
        have s1 := hb1.size
        have c0 := X1.q0
        have c1 := X1.q1
        have c2 := X1.q2
        have c3 := X1.q3
        have HX1 := Lib.hid X1
        clear X1 hb1
        go_wp2_with fail
        refine (isCount_yes n _ h0 h1).mono ?_
        rintro e w1 ⟨rfl, rfl⟩
        go_wp2_with fail
        (first | go_region_with ((first | (go_at_call 104; go_loud ( refine (fits1 t n _ _ HBB.out).mono ?_; rintro e w2 ⟨rfl, hb2⟩; have X2 := HX1.out.next ((Below.refl w1.heap.size w1).drew.trans hb2); have B2 := Lib.hid (B1.out.trans (((Below.refl w1.heap.size w1).drew.trans hb2).mono B1.out.size)); have c0 := X2.q0; have c1 := X2.q1; have c2 := X2.q2; have c3 := X2.q3; have s2 := hb2.size; have HX2 := Lib.hid X2; clear X2 hb2)) | (go_at_call 105; go_loud ( refine (step1 t _).mono ?_; rintro e w3 ⟨rfl, hb3⟩; have X3 := HX2.out.next hb3; have B3 := Lib.hid (B2.out.trans (hb3.mono B2.out.size)); have c0 := X3.q0; have c1 := X3.q1; have c2 := X3.q2; have c3 := X3.q3; clear X3 hb3)))) | fail "region")
        all_goals (go_wp2_with fail; go_ret; first | exact ⟨rfl, B3.out⟩ | exact ⟨rfl, B2.out⟩)
    · have no : stepB n 1 t f d = false := stepB_no (by simp [StepOk, hzf])
      have dzf : ((0 : Int) == f) = false := by simp; omega
      rw [no]
      go_enter Tryd.func43, Tryd.ntmps43
      go_wp2_with fail
      refine (op1 _ _ _ _).mono ?_
      rintro e w1 ⟨rfl, hb1⟩
      have X1 := X0.out.next hb1
      have B1 := Lib.hid (B0.out.trans (hb1.mono (by omega)))
      have s1 := hb1.size
      have c0 := X1.q0
      have c1 := X1.q1
      have c2 := X1.q2
      have c3 := X1.q3
      have HX1 := Lib.hid X1
      clear X1 hb1
      go_wp2_with fail
      refine (isCount_yes n _ h0 h1).mono ?_
      rintro e w1 ⟨rfl, rfl⟩
      go_wp2_with fail
      (first | go_region_with ((first | (go_at_call 104; go_loud ( refine (fits1 t n _ _ HBB.out).mono ?_; rintro e w2 ⟨rfl, hb2⟩; have X2 := HX1.out.next ((Below.refl w1.heap.size w1).drew.trans hb2); have B2 := Lib.hid (B1.out.trans (((Below.refl w1.heap.size w1).drew.trans hb2).mono B1.out.size)); have c0 := X2.q0; have c1 := X2.q1; have c2 := X2.q2; have c3 := X2.q3; have s2 := hb2.size; have HX2 := Lib.hid X2; clear X2 hb2)) | (go_at_call 105; go_loud ( refine (step1 t _).mono ?_; rintro e w3 ⟨rfl, hb3⟩; have X3 := HX2.out.next hb3; have B3 := Lib.hid (B2.out.trans (hb3.mono B2.out.size)); have c0 := X3.q0; have c1 := X3.q1; have c2 := X3.q2; have c3 := X3.q3; clear X3 hb3)))) | fail "region")
      all_goals (go_wp2_with fail; go_ret; first | exact ⟨rfl, B3.out⟩ | exact ⟨rfl, B2.out⟩)
end Go.Proofs.YtgiiclkjffdjgaaDoor

namespace Go.Proofs.YtgiiclkjffdjgaaDoor
open Go.RowKit


set_option maxRecDepth 100000 in
set_option maxHeartbeats 1000000 in
theorem implR2 (t f n : Int) (d : ByteArray) (w : World) (h0 : 1 ≤ n) (h1 : n ≤ 8) :
    Calls Tryd.prog 43 #[.agg #[.int .i64 2, .int .i64 t, .int .i64 f, .string d], .int .i64 n] w fun e w' => e = .returned (.bool (stepB n 2 t f d)) ∧ Below w.heap.size w w' := by
  have mf := method2f
  have ms := method2s
  obtain ⟨bb, hbb⟩ : ∃ b, (inB t n && decide (d.size = 8)) = b := ⟨_, rfl⟩
  have HBB := Lib.hid hbb
  clear hbb
  have b0 := below_alloc1 w (.cells #[.int .i64 2, .int .i64 t, .int .i64 f, .string d] 33)
  have z0 := size_alloc1 w (.cells #[.int .i64 2, .int .i64 t, .int .i64 f, .string d] 33)
  have X0 := Lib.hid (bx_new w 33 #[.int .i64 2, .int .i64 t, .int .i64 f, .string d])
  have B0 := Lib.hid b0
  clear b0
  cases bb with
  | false =>
    have no : stepB n 2 t f d = false := stepB_no (by have := HBB.out; simp [StepOk]; try (intros; simp_all))
    rw [no]
    go_enter Tryd.func43, Tryd.ntmps43
    go_wp2_with fail
    refine (op2 _ _ _ _).mono ?_
    rintro e w1 ⟨rfl, hb1⟩
    have X1 := X0.out.next hb1
    have B1 := Lib.hid (B0.out.trans (hb1.mono (by omega)))
    have s1 := hb1.size
    have c0 := X1.q0
    have c1 := X1.q1
    have c2 := X1.q2
    have c3 := X1.q3
    have HX1 := Lib.hid X1
    clear X1 hb1
    go_wp2_with fail
    refine (isCount_yes n _ h0 h1).mono ?_
    rintro e w1 ⟨rfl, rfl⟩
    go_wp2_with fail
    (first | go_region_with ((first | (go_at_call 107; go_loud ( refine (fits2 t d n _ _ HBB.out).mono ?_; rintro e w2 ⟨rfl, hb2⟩; have X2 := HX1.out.next ((Below.refl w1.heap.size w1).drew.trans hb2); have B2 := Lib.hid (B1.out.trans (((Below.refl w1.heap.size w1).drew.trans hb2).mono B1.out.size)); have c0 := X2.q0; have c1 := X2.q1; have c2 := X2.q2; have c3 := X2.q3; have s2 := hb2.size; have HX2 := Lib.hid X2; clear X2 hb2)) | (go_at_call 108; go_loud ( refine (step2 t d _).mono ?_; rintro e w3 ⟨rfl, hb3⟩; have X3 := HX2.out.next hb3; have B3 := Lib.hid (B2.out.trans (hb3.mono B2.out.size)); have c0 := X3.q0; have c1 := X3.q1; have c2 := X3.q2; have c3 := X3.q3; clear X3 hb3)))) | fail "region")
    all_goals (go_wp2_with fail; go_ret; first | exact ⟨rfl, B3.out⟩ | exact ⟨rfl, B2.out⟩)
  | true =>
    by_cases hzf : f = 0
    · subst hzf
      have ys : stepB n 2 t 0 d = true := stepB_yes (by have := HBB.out; (try simp at this); simp [StepOk, h0, h1, this]; try rfl)
      rw [ys]
      go_enter Tryd.func43, Tryd.ntmps43
      go_wp2_with fail
      refine (op2 _ _ _ _).mono ?_
      rintro e w1 ⟨rfl, hb1⟩
      have X1 := X0.out.next hb1
      have B1 := Lib.hid (B0.out.trans (hb1.mono (by omega)))
      have s1 := hb1.size
      have c0 := X1.q0
      have c1 := X1.q1
      have c2 := X1.q2
      have c3 := X1.q3
      have HX1 := Lib.hid X1
      clear X1 hb1
      go_wp2_with fail
      refine (isCount_yes n _ h0 h1).mono ?_
      rintro e w1 ⟨rfl, rfl⟩
      go_wp2_with fail
      (first | go_region_with ((first | (go_at_call 107; go_loud ( refine (fits2 t d n _ _ HBB.out).mono ?_; rintro e w2 ⟨rfl, hb2⟩; have X2 := HX1.out.next ((Below.refl w1.heap.size w1).drew.trans hb2); have B2 := Lib.hid (B1.out.trans (((Below.refl w1.heap.size w1).drew.trans hb2).mono B1.out.size)); have c0 := X2.q0; have c1 := X2.q1; have c2 := X2.q2; have c3 := X2.q3; have s2 := hb2.size; have HX2 := Lib.hid X2; clear X2 hb2)) | (go_at_call 108; go_loud ( refine (step2 t d _).mono ?_; rintro e w3 ⟨rfl, hb3⟩; have X3 := HX2.out.next hb3; have B3 := Lib.hid (B2.out.trans (hb3.mono B2.out.size)); have c0 := X3.q0; have c1 := X3.q1; have c2 := X3.q2; have c3 := X3.q3; clear X3 hb3)))) | fail "region")
      all_goals (go_wp2_with fail; go_ret; first | exact ⟨rfl, B3.out⟩ | exact ⟨rfl, B2.out⟩)
    · have no : stepB n 2 t f d = false := stepB_no (by simp [StepOk, hzf])
      have dzf : ((0 : Int) == f) = false := by simp; omega
      rw [no]
      go_enter Tryd.func43, Tryd.ntmps43
      go_wp2_with fail
      refine (op2 _ _ _ _).mono ?_
      rintro e w1 ⟨rfl, hb1⟩
      have X1 := X0.out.next hb1
      have B1 := Lib.hid (B0.out.trans (hb1.mono (by omega)))
      have s1 := hb1.size
      have c0 := X1.q0
      have c1 := X1.q1
      have c2 := X1.q2
      have c3 := X1.q3
      have HX1 := Lib.hid X1
      clear X1 hb1
      go_wp2_with fail
      refine (isCount_yes n _ h0 h1).mono ?_
      rintro e w1 ⟨rfl, rfl⟩
      go_wp2_with fail
      (first | go_region_with ((first | (go_at_call 107; go_loud ( refine (fits2 t d n _ _ HBB.out).mono ?_; rintro e w2 ⟨rfl, hb2⟩; have X2 := HX1.out.next ((Below.refl w1.heap.size w1).drew.trans hb2); have B2 := Lib.hid (B1.out.trans (((Below.refl w1.heap.size w1).drew.trans hb2).mono B1.out.size)); have c0 := X2.q0; have c1 := X2.q1; have c2 := X2.q2; have c3 := X2.q3; have s2 := hb2.size; have HX2 := Lib.hid X2; clear X2 hb2)) | (go_at_call 108; go_loud ( refine (step2 t d _).mono ?_; rintro e w3 ⟨rfl, hb3⟩; have X3 := HX2.out.next hb3; have B3 := Lib.hid (B2.out.trans (hb3.mono B2.out.size)); have c0 := X3.q0; have c1 := X3.q1; have c2 := X3.q2; have c3 := X3.q3; clear X3 hb3)))) | fail "region")
      all_goals (go_wp2_with fail; go_ret; first | exact ⟨rfl, B3.out⟩ | exact ⟨rfl, B2.out⟩)
end Go.Proofs.YtgiiclkjffdjgaaDoor

namespace Go.Proofs.YtgiiclkjffdjgaaDoor
open Go.RowKit


set_option maxRecDepth 100000 in
set_option maxHeartbeats 1000000 in
theorem implR3 (t f n : Int) (d : ByteArray) (w : World) (h0 : 1 ≤ n) (h1 : n ≤ 8) :
    Calls Tryd.prog 43 #[.agg #[.int .i64 3, .int .i64 t, .int .i64 f, .string d], .int .i64 n] w fun e w' => e = .returned (.bool (stepB n 3 t f d)) ∧ Below w.heap.size w w' := by
  have mf := method3f
  have ms := method3s
  obtain ⟨bb, hbb⟩ : ∃ b, (inB t n && inB f n) = b := ⟨_, rfl⟩
  have HBB := Lib.hid hbb
  clear hbb
  have b0 := below_alloc1 w (.cells #[.int .i64 3, .int .i64 t, .int .i64 f, .string d] 33)
  have z0 := size_alloc1 w (.cells #[.int .i64 3, .int .i64 t, .int .i64 f, .string d] 33)
  have X0 := Lib.hid (bx_new w 33 #[.int .i64 3, .int .i64 t, .int .i64 f, .string d])
  have B0 := Lib.hid b0
  clear b0
  cases bb with
  | false =>
    have no : stepB n 3 t f d = false := stepB_no (by have := HBB.out; simp [StepOk]; try (intros; simp_all))
    rw [no]
    go_enter Tryd.func43, Tryd.ntmps43
    go_wp2_with fail
    refine (op3 _ _ _ _).mono ?_
    rintro e w1 ⟨rfl, hb1⟩
    have X1 := X0.out.next hb1
    have B1 := Lib.hid (B0.out.trans (hb1.mono (by omega)))
    have s1 := hb1.size
    have c0 := X1.q0
    have c1 := X1.q1
    have c2 := X1.q2
    have c3 := X1.q3
    have HX1 := Lib.hid X1
    clear X1 hb1
    go_wp2_with fail
    refine (isCount_yes n _ h0 h1).mono ?_
    rintro e w1 ⟨rfl, rfl⟩
    go_wp2_with fail
    (first | go_region_with ((first | (go_at_call 109; go_loud ( refine (fits3 t f n _ _ HBB.out).mono ?_; rintro e w2 ⟨rfl, hb2⟩; have X2 := HX1.out.next ((Below.refl w1.heap.size w1).drew.trans hb2); have B2 := Lib.hid (B1.out.trans (((Below.refl w1.heap.size w1).drew.trans hb2).mono B1.out.size)); have c0 := X2.q0; have c1 := X2.q1; have c2 := X2.q2; have c3 := X2.q3; have s2 := hb2.size; have HX2 := Lib.hid X2; clear X2 hb2)) | (go_at_call 110; go_loud ( refine (step3 t f _).mono ?_; rintro e w3 ⟨rfl, hb3⟩; have X3 := HX2.out.next hb3; have B3 := Lib.hid (B2.out.trans (hb3.mono B2.out.size)); have c0 := X3.q0; have c1 := X3.q1; have c2 := X3.q2; have c3 := X3.q3; clear X3 hb3)))) | fail "region")
    all_goals (go_wp2_with fail; go_ret; first | exact ⟨rfl, B3.out⟩ | exact ⟨rfl, B2.out⟩)
  | true =>
    by_cases hd : d.size = 0
    · obtain rfl := empty_of hd
      clear hd
      have ys : stepB n 3 t f ⟨#[]⟩ = true := stepB_yes (by have := HBB.out; (try simp at this); simp [StepOk, h0, h1, this]; try rfl)
      rw [ys]
      go_enter Tryd.func43, Tryd.ntmps43
      go_wp2_with fail
      refine (op3 _ _ _ _).mono ?_
      rintro e w1 ⟨rfl, hb1⟩
      have X1 := X0.out.next hb1
      have B1 := Lib.hid (B0.out.trans (hb1.mono (by omega)))
      have s1 := hb1.size
      have c0 := X1.q0
      have c1 := X1.q1
      have c2 := X1.q2
      have c3 := X1.q3
      have HX1 := Lib.hid X1
      clear X1 hb1
      go_wp2_with fail
      refine (isCount_yes n _ h0 h1).mono ?_
      rintro e w1 ⟨rfl, rfl⟩
      go_wp2_with fail
      (first | go_region_with ((first | (go_at_call 109; go_loud ( refine (fits3 t f n _ _ HBB.out).mono ?_; rintro e w2 ⟨rfl, hb2⟩; have X2 := HX1.out.next ((Below.refl w1.heap.size w1).drew.trans hb2); have B2 := Lib.hid (B1.out.trans (((Below.refl w1.heap.size w1).drew.trans hb2).mono B1.out.size)); have c0 := X2.q0; have c1 := X2.q1; have c2 := X2.q2; have c3 := X2.q3; have s2 := hb2.size; have HX2 := Lib.hid X2; clear X2 hb2)) | (go_at_call 110; go_loud ( refine (step3 t f _).mono ?_; rintro e w3 ⟨rfl, hb3⟩; have X3 := HX2.out.next hb3; have B3 := Lib.hid (B2.out.trans (hb3.mono B2.out.size)); have c0 := X3.q0; have c1 := X3.q1; have c2 := X3.q2; have c3 := X3.q3; clear X3 hb3)))) | fail "region")
      all_goals (go_wp2_with fail; go_ret; first | exact ⟨rfl, B3.out⟩ | exact ⟨rfl, B2.out⟩)
    · have no : stepB n 3 t f d = false := stepB_no (by simp [StepOk, hd])
      have hd1 : d.toList.isEmpty = false := by have := toList_ne hd; simpa using this
      rw [no]
      go_enter Tryd.func43, Tryd.ntmps43
      go_wp2_with fail
      refine (op3 _ _ _ _).mono ?_
      rintro e w1 ⟨rfl, hb1⟩
      have X1 := X0.out.next hb1
      have B1 := Lib.hid (B0.out.trans (hb1.mono (by omega)))
      have s1 := hb1.size
      have c0 := X1.q0
      have c1 := X1.q1
      have c2 := X1.q2
      have c3 := X1.q3
      have HX1 := Lib.hid X1
      clear X1 hb1
      go_wp2_with fail
      refine (isCount_yes n _ h0 h1).mono ?_
      rintro e w1 ⟨rfl, rfl⟩
      go_wp2_with fail
      (first | go_region_with ((first | (go_at_call 109; go_loud ( refine (fits3 t f n _ _ HBB.out).mono ?_; rintro e w2 ⟨rfl, hb2⟩; have X2 := HX1.out.next ((Below.refl w1.heap.size w1).drew.trans hb2); have B2 := Lib.hid (B1.out.trans (((Below.refl w1.heap.size w1).drew.trans hb2).mono B1.out.size)); have c0 := X2.q0; have c1 := X2.q1; have c2 := X2.q2; have c3 := X2.q3; have s2 := hb2.size; have HX2 := Lib.hid X2; clear X2 hb2)) | (go_at_call 110; go_loud ( refine (step3 t f _).mono ?_; rintro e w3 ⟨rfl, hb3⟩; have X3 := HX2.out.next hb3; have B3 := Lib.hid (B2.out.trans (hb3.mono B2.out.size)); have c0 := X3.q0; have c1 := X3.q1; have c2 := X3.q2; have c3 := X3.q3; clear X3 hb3)))) | fail "region")
      all_goals (go_wp2_with fail; go_ret; first | exact ⟨rfl, B3.out⟩ | exact ⟨rfl, B2.out⟩)
end Go.Proofs.YtgiiclkjffdjgaaDoor

namespace Go.Proofs.YtgiiclkjffdjgaaDoor
open Go.RowKit


set_option maxRecDepth 100000 in
set_option maxHeartbeats 1000000 in
theorem implR4 (t f n : Int) (d : ByteArray) (w : World) (h0 : 1 ≤ n) (h1 : n ≤ 8) :
    Calls Tryd.prog 43 #[.agg #[.int .i64 4, .int .i64 t, .int .i64 f, .string d], .int .i64 n] w fun e w' => e = .returned (.bool (stepB n 4 t f d)) ∧ Below w.heap.size w w' := by
  have mf := method4f
  have ms := method4s
  obtain ⟨bb, hbb⟩ : ∃ b, (inB t n && inB f n && decide (d.size = 8)) = b := ⟨_, rfl⟩
  have HBB := Lib.hid hbb
  clear hbb
  have b0 := below_alloc1 w (.cells #[.int .i64 4, .int .i64 t, .int .i64 f, .string d] 33)
  have z0 := size_alloc1 w (.cells #[.int .i64 4, .int .i64 t, .int .i64 f, .string d] 33)
  have X0 := Lib.hid (bx_new w 33 #[.int .i64 4, .int .i64 t, .int .i64 f, .string d])
  have B0 := Lib.hid b0
  clear b0
  cases bb with
  | false =>
    have no : stepB n 4 t f d = false := stepB_no (by have := HBB.out; simp [StepOk]; try (intros; simp_all))
    rw [no]
    go_enter Tryd.func43, Tryd.ntmps43
    go_wp2_with fail
    refine (op4 _ _ _ _).mono ?_
    rintro e w1 ⟨rfl, hb1⟩
    have X1 := X0.out.next hb1
    have B1 := Lib.hid (B0.out.trans (hb1.mono (by omega)))
    have s1 := hb1.size
    have c0 := X1.q0
    have c1 := X1.q1
    have c2 := X1.q2
    have c3 := X1.q3
    have HX1 := Lib.hid X1
    clear X1 hb1
    go_wp2_with fail
    refine (isCount_yes n _ h0 h1).mono ?_
    rintro e w1 ⟨rfl, rfl⟩
    go_wp2_with fail
    (first | go_region_with ((first | (go_at_call 111; go_loud ( refine (fits4 t f d n _ _ HBB.out).mono ?_; rintro e w2 ⟨rfl, hb2⟩; have X2 := HX1.out.next ((Below.refl w1.heap.size w1).drew.trans hb2); have B2 := Lib.hid (B1.out.trans (((Below.refl w1.heap.size w1).drew.trans hb2).mono B1.out.size)); have c0 := X2.q0; have c1 := X2.q1; have c2 := X2.q2; have c3 := X2.q3; have s2 := hb2.size; have HX2 := Lib.hid X2; clear X2 hb2)) | (go_at_call 112; go_loud ( refine (step4 t f d _).mono ?_; rintro e w3 ⟨rfl, hb3⟩; have X3 := HX2.out.next hb3; have B3 := Lib.hid (B2.out.trans (hb3.mono B2.out.size)); have c0 := X3.q0; have c1 := X3.q1; have c2 := X3.q2; have c3 := X3.q3; clear X3 hb3)))) | fail "region")
    all_goals (go_wp2_with fail; go_ret; first | exact ⟨rfl, B3.out⟩ | exact ⟨rfl, B2.out⟩)
  | true =>
    have ys : stepB n 4 t f d = true := stepB_yes (by have := HBB.out; (try simp at this); simp [StepOk, h0, h1, this]; try rfl)
    rw [ys]
    go_enter Tryd.func43, Tryd.ntmps43
    go_wp2_with fail
    refine (op4 _ _ _ _).mono ?_
    rintro e w1 ⟨rfl, hb1⟩
    have X1 := X0.out.next hb1
    have B1 := Lib.hid (B0.out.trans (hb1.mono (by omega)))
    have s1 := hb1.size
    have c0 := X1.q0
    have c1 := X1.q1
    have c2 := X1.q2
    have c3 := X1.q3
    have HX1 := Lib.hid X1
    clear X1 hb1
    go_wp2_with fail
    refine (isCount_yes n _ h0 h1).mono ?_
    rintro e w1 ⟨rfl, rfl⟩
    go_wp2_with fail
    (first | go_region_with ((first | (go_at_call 111; go_loud ( refine (fits4 t f d n _ _ HBB.out).mono ?_; rintro e w2 ⟨rfl, hb2⟩; have X2 := HX1.out.next ((Below.refl w1.heap.size w1).drew.trans hb2); have B2 := Lib.hid (B1.out.trans (((Below.refl w1.heap.size w1).drew.trans hb2).mono B1.out.size)); have c0 := X2.q0; have c1 := X2.q1; have c2 := X2.q2; have c3 := X2.q3; have s2 := hb2.size; have HX2 := Lib.hid X2; clear X2 hb2)) | (go_at_call 112; go_loud ( refine (step4 t f d _).mono ?_; rintro e w3 ⟨rfl, hb3⟩; have X3 := HX2.out.next hb3; have B3 := Lib.hid (B2.out.trans (hb3.mono B2.out.size)); have c0 := X3.q0; have c1 := X3.q1; have c2 := X3.q2; have c3 := X3.q3; clear X3 hb3)))) | fail "region")
    all_goals (go_wp2_with fail; go_ret; first | exact ⟨rfl, B3.out⟩ | exact ⟨rfl, B2.out⟩)
end Go.Proofs.YtgiiclkjffdjgaaDoor

namespace Go.Proofs.YtgiiclkjffdjgaaDoor
open Go.RowKit


set_option maxRecDepth 100000 in
set_option maxHeartbeats 1000000 in
theorem implR5 (t f n : Int) (d : ByteArray) (w : World) (h0 : 1 ≤ n) (h1 : n ≤ 8) :
    Calls Tryd.prog 43 #[.agg #[.int .i64 5, .int .i64 t, .int .i64 f, .string d], .int .i64 n] w fun e w' => e = .returned (.bool (stepB n 5 t f d)) ∧ Below w.heap.size w w' := by
  have mf := method5f
  have ms := method5s
  obtain ⟨bb, hbb⟩ : ∃ b, (isT f) = b := ⟨_, rfl⟩
  have HBB := Lib.hid hbb
  clear hbb
  have b0 := below_alloc1 w (.cells #[.int .i64 5, .int .i64 t, .int .i64 f, .string d] 33)
  have z0 := size_alloc1 w (.cells #[.int .i64 5, .int .i64 t, .int .i64 f, .string d] 33)
  have X0 := Lib.hid (bx_new w 33 #[.int .i64 5, .int .i64 t, .int .i64 f, .string d])
  have B0 := Lib.hid b0
  clear b0
  cases bb with
  | false =>
    have no : stepB n 5 t f d = false := stepB_no (by have := HBB.out; simp [StepOk]; try (intros; simp_all))
    rw [no]
    go_enter Tryd.func43, Tryd.ntmps43
    go_wp2_with fail
    refine (op5 _ _ _ _).mono ?_
    rintro e w1 ⟨rfl, hb1⟩
    have X1 := X0.out.next hb1
    have B1 := Lib.hid (B0.out.trans (hb1.mono (by omega)))
    have s1 := hb1.size
    have c0 := X1.q0
    have c1 := X1.q1
    have c2 := X1.q2
    have c3 := X1.q3
    have HX1 := Lib.hid X1
    clear X1 hb1
    go_wp2_with fail
    refine (isCount_yes n _ h0 h1).mono ?_
    rintro e w1 ⟨rfl, rfl⟩
    go_wp2_with fail
    (first | go_region_with ((first | (go_at_call 101; go_loud ( refine (fits5 f n _ _ HBB.out).mono ?_; rintro e w2 ⟨rfl, hb2⟩; have X2 := HX1.out.next ((Below.refl w1.heap.size w1).drew.trans hb2); have B2 := Lib.hid (B1.out.trans (((Below.refl w1.heap.size w1).drew.trans hb2).mono B1.out.size)); have c0 := X2.q0; have c1 := X2.q1; have c2 := X2.q2; have c3 := X2.q3; have s2 := hb2.size; have HX2 := Lib.hid X2; clear X2 hb2)) | (go_at_call 102; go_loud ( refine (step5 f _).mono ?_; rintro e w3 ⟨rfl, hb3⟩; have X3 := HX2.out.next hb3; have B3 := Lib.hid (B2.out.trans (hb3.mono B2.out.size)); have c0 := X3.q0; have c1 := X3.q1; have c2 := X3.q2; have c3 := X3.q3; clear X3 hb3)))) | fail "region")
    all_goals (go_wp2_with fail; go_ret; first | exact ⟨rfl, B3.out⟩ | exact ⟨rfl, B2.out⟩)
  | true =>
    by_cases hzt : t = 0
    · subst hzt
      by_cases hd : d.size = 0
      · obtain rfl := empty_of hd
        clear hd
        have ys : stepB n 5 0 f ⟨#[]⟩ = true := stepB_yes (by have := HBB.out; (try simp at this); simp [StepOk, h0, h1, this]; try rfl)
        rw [ys]
        go_enter Tryd.func43, Tryd.ntmps43
        go_wp2_with fail
        refine (op5 _ _ _ _).mono ?_
        rintro e w1 ⟨rfl, hb1⟩
        have X1 := X0.out.next hb1
        have B1 := Lib.hid (B0.out.trans (hb1.mono (by omega)))
        have s1 := hb1.size
        have c0 := X1.q0
        have c1 := X1.q1
        have c2 := X1.q2
        have c3 := X1.q3
        have HX1 := Lib.hid X1
        clear X1 hb1
        go_wp2_with fail
        refine (isCount_yes n _ h0 h1).mono ?_
        rintro e w1 ⟨rfl, rfl⟩
        go_wp2_with fail
        (first | go_region_with ((first | (go_at_call 101; go_loud ( refine (fits5 f n _ _ HBB.out).mono ?_; rintro e w2 ⟨rfl, hb2⟩; have X2 := HX1.out.next ((Below.refl w1.heap.size w1).drew.trans hb2); have B2 := Lib.hid (B1.out.trans (((Below.refl w1.heap.size w1).drew.trans hb2).mono B1.out.size)); have c0 := X2.q0; have c1 := X2.q1; have c2 := X2.q2; have c3 := X2.q3; have s2 := hb2.size; have HX2 := Lib.hid X2; clear X2 hb2)) | (go_at_call 102; go_loud ( refine (step5 f _).mono ?_; rintro e w3 ⟨rfl, hb3⟩; have X3 := HX2.out.next hb3; have B3 := Lib.hid (B2.out.trans (hb3.mono B2.out.size)); have c0 := X3.q0; have c1 := X3.q1; have c2 := X3.q2; have c3 := X3.q3; clear X3 hb3)))) | fail "region")
        all_goals (go_wp2_with fail; go_ret; first | exact ⟨rfl, B3.out⟩ | exact ⟨rfl, B2.out⟩)
      · have no : stepB n 5 0 f d = false := stepB_no (by simp [StepOk, hd])
        have hd1 : d.toList.isEmpty = false := by have := toList_ne hd; simpa using this
        rw [no]
        go_enter Tryd.func43, Tryd.ntmps43
        go_wp2_with fail
        refine (op5 _ _ _ _).mono ?_
        rintro e w1 ⟨rfl, hb1⟩
        have X1 := X0.out.next hb1
        have B1 := Lib.hid (B0.out.trans (hb1.mono (by omega)))
        have s1 := hb1.size
        have c0 := X1.q0
        have c1 := X1.q1
        have c2 := X1.q2
        have c3 := X1.q3
        have HX1 := Lib.hid X1
        clear X1 hb1
        go_wp2_with fail
        refine (isCount_yes n _ h0 h1).mono ?_
        rintro e w1 ⟨rfl, rfl⟩
        go_wp2_with fail
        (first | go_region_with ((first | (go_at_call 101; go_loud ( refine (fits5 f n _ _ HBB.out).mono ?_; rintro e w2 ⟨rfl, hb2⟩; have X2 := HX1.out.next ((Below.refl w1.heap.size w1).drew.trans hb2); have B2 := Lib.hid (B1.out.trans (((Below.refl w1.heap.size w1).drew.trans hb2).mono B1.out.size)); have c0 := X2.q0; have c1 := X2.q1; have c2 := X2.q2; have c3 := X2.q3; have s2 := hb2.size; have HX2 := Lib.hid X2; clear X2 hb2)) | (go_at_call 102; go_loud ( refine (step5 f _).mono ?_; rintro e w3 ⟨rfl, hb3⟩; have X3 := HX2.out.next hb3; have B3 := Lib.hid (B2.out.trans (hb3.mono B2.out.size)); have c0 := X3.q0; have c1 := X3.q1; have c2 := X3.q2; have c3 := X3.q3; clear X3 hb3)))) | fail "region")
        all_goals (go_wp2_with fail; go_ret; first | exact ⟨rfl, B3.out⟩ | exact ⟨rfl, B2.out⟩)
    · have no : stepB n 5 t f d = false := stepB_no (by simp [StepOk, hzt])
      have dzt : ((0 : Int) == t) = false := by simp; omega
      rw [no]
      go_enter Tryd.func43, Tryd.ntmps43
      go_wp2_with fail
      refine (op5 _ _ _ _).mono ?_
      rintro e w1 ⟨rfl, hb1⟩
      have X1 := X0.out.next hb1
      have B1 := Lib.hid (B0.out.trans (hb1.mono (by omega)))
      have s1 := hb1.size
      have c0 := X1.q0
      have c1 := X1.q1
      have c2 := X1.q2
      have c3 := X1.q3
      have HX1 := Lib.hid X1
      clear X1 hb1
      go_wp2_with fail
      refine (isCount_yes n _ h0 h1).mono ?_
      rintro e w1 ⟨rfl, rfl⟩
      go_wp2_with fail
      (first | go_region_with ((first | (go_at_call 101; go_loud ( refine (fits5 f n _ _ HBB.out).mono ?_; rintro e w2 ⟨rfl, hb2⟩; have X2 := HX1.out.next ((Below.refl w1.heap.size w1).drew.trans hb2); have B2 := Lib.hid (B1.out.trans (((Below.refl w1.heap.size w1).drew.trans hb2).mono B1.out.size)); have c0 := X2.q0; have c1 := X2.q1; have c2 := X2.q2; have c3 := X2.q3; have s2 := hb2.size; have HX2 := Lib.hid X2; clear X2 hb2)) | (go_at_call 102; go_loud ( refine (step5 f _).mono ?_; rintro e w3 ⟨rfl, hb3⟩; have X3 := HX2.out.next hb3; have B3 := Lib.hid (B2.out.trans (hb3.mono B2.out.size)); have c0 := X3.q0; have c1 := X3.q1; have c2 := X3.q2; have c3 := X3.q3; clear X3 hb3)))) | fail "region")
      all_goals (go_wp2_with fail; go_ret; first | exact ⟨rfl, B3.out⟩ | exact ⟨rfl, B2.out⟩)
end Go.Proofs.YtgiiclkjffdjgaaDoor

namespace Go.Proofs.YtgiiclkjffdjgaaDoor
open Go.RowKit

set_option maxRecDepth 100000 in
set_option maxHeartbeats 2000000 in
theorem implRight (k t f n : Int) (d : ByteArray) (w : World) :
    Calls Tryd.prog 43 #[.agg #[.int .i64 k, .int .i64 t, .int .i64 f, .string d], .int .i64 n] w fun e w' => e = .returned (.bool (stepB n k t f d)) ∧ Below w.heap.size w w' := by
  by_cases hn : 1 ≤ n ∧ n ≤ 8
  · obtain ⟨h0, h1⟩ := hn
    by_cases k1 : k = 1
    · subst k1; exact implR1 t f n d w h0 h1
    by_cases k2 : k = 2
    · subst k2; exact implR2 t f n d w h0 h1
    by_cases k3 : k = 3
    · subst k3; exact implR3 t f n d w h0 h1
    by_cases k4 : k = 4
    · subst k4; exact implR4 t f n d w h0 h1
    by_cases k5 : k = 5
    · subst k5; exact implR5 t f n d w h0 h1
    rw [show stepB n k t f d = false from stepB_no (by simp [StepOk, k1, k2, k3, k4, k5])]
    have HB := Lib.hid (below_alloc1 w (.cells #[.int .i64 k, .int .i64 t, .int .i64 f, .string d] 33))
    go_enter Tryd.func43, Tryd.ntmps43
    go_wp2_with fail
    refine (op0 k t f d _ k1 k2 k3 k4 k5).mono ?_
    rintro e w1 ⟨rfl, hb⟩
    have HB2 := Lib.hid (HB.out.trans (hb.mono HB.out.size))
    clear hb
    go_wp2_with fail
    go_ret
    exact ⟨rfl, HB2.out⟩
  · rw [show stepB n k t f d = false from stepB_no (fun h => hn h.1)]
    have HB := Lib.hid (below_alloc1 w (.cells #[.int .i64 k, .int .i64 t, .int .i64 f, .string d] 33))
    have HN := Lib.hid hn
    clear hn
    have all : ∃ v, Calls Tryd.prog 62 #[.agg #[.int .i64 k, .int .i64 t, .int .i64 f, .string d]] (w.alloc (.cells #[.int .i64 k, .int .i64 t, .int .i64 f, .string d] 33)) (fun e w' => e = .returned v ∧ Below (w.alloc (.cells #[.int .i64 k, .int .i64 t, .int .i64 f, .string d] 33)).heap.size (w.alloc (.cells #[.int .i64 k, .int .i64 t, .int .i64 f, .string d] 33)) w') ∧ (v = .nilIface ∨ ∃ T x, v = .iface T x) := by
      by_cases k1 : k = 1
      · subst k1; exact ⟨_, op1 t f d _, .inr ⟨_, _, rfl⟩⟩
      by_cases k2 : k = 2
      · subst k2; exact ⟨_, op2 t f d _, .inr ⟨_, _, rfl⟩⟩
      by_cases k3 : k = 3
      · subst k3; exact ⟨_, op3 t f d _, .inr ⟨_, _, rfl⟩⟩
      by_cases k4 : k = 4
      · subst k4; exact ⟨_, op4 t f d _, .inr ⟨_, _, rfl⟩⟩
      by_cases k5 : k = 5
      · subst k5; exact ⟨_, op5 t f d _, .inr ⟨_, _, rfl⟩⟩
      exact ⟨_, op0 k t f d _ k1 k2 k3 k4 k5, .inl rfl⟩
    obtain ⟨v, hc, hv⟩ := all
    rcases hv with rfl | ⟨T, x, rfl⟩
    · go_enter Tryd.func43, Tryd.ntmps43
      go_wp2_with fail
      refine hc.mono ?_
      rintro e w1 ⟨rfl, hb⟩
      have HB2 := Lib.hid (HB.out.trans (hb.mono HB.out.size))
      clear hb
      go_wp2_with fail
      go_ret
      exact ⟨rfl, HB2.out⟩
    · go_enter Tryd.func43, Tryd.ntmps43
      go_wp2_with fail
      refine hc.mono ?_
      rintro e w1 ⟨rfl, hb⟩
      have HB2 := Lib.hid (HB.out.trans (hb.mono HB.out.size))
      clear hb
      go_wp2_with fail
      refine (isCount_no n _ HN.out).mono ?_
      rintro e w2 ⟨rfl, rfl⟩
      go_wp2_with fail
      go_ret
      exact ⟨rfl, HB2.out⟩
end Go.Proofs.YtgiiclkjffdjgaaDoor

namespace Go.Proofs.YtgiiclkjffdjgaaDoor
open Go

theorem xor_comm64 (a b : Int) : bits BinOp.xor IntKind.u64 a b = bits BinOp.xor IntKind.u64 b a := by
  simp only [bits, BitVec.xor_comm]

theorem zz_pos (n : Int) (h0 : 0 ≤ n) (h1 : n ≤ 9223372036854775807) : bits BinOp.xor IntKind.u64 (n * 2) (n / 9223372036854775808) = (Lib.zigzag n : Int) := by
  have e : n / 9223372036854775808 = ((0 : Nat) : Int) := by omega
  have e2 : n * 2 = (((n * 2).toNat : Nat) : Int) := by omega
  rw [e, e2, bits_xor_u64_nat _ _ (by omega) (by omega), Nat.xor_zero, Lib.zigzag_nonneg h0]
  omega

theorem zz_neg (n : Int) (h0 : n < 0) (h1 : -9223372036854775808 ≤ n) :
    bits BinOp.xor IntKind.u64 (IntKind.u64.wrap (IntKind.u64.wrap n * 2)) (IntKind.u64.wrap (n / 9223372036854775808)) = (Lib.zigzag n : Int) := by
  have e : n / 9223372036854775808 = -1 := by omega
  rw [e, xor_comm64, show IntKind.u64.wrap (-1) = IntKind.u64.max by decide, Lib.zigzag_neg h1 h0]

theorem zz_fold (n : Int) (h0 : 0 ≤ n) : 2 * n = (Lib.zigzag n : Int) := by rw [Lib.zigzag_nonneg h0]; omega
theorem zz_foldn (n : Int) (h0 : n < 0) : 2 * -(n + 1) + 1 = (Lib.zigzag n : Int) := by
  unfold Lib.zigzag; rw [if_neg (by omega)]; omega

/-- 2 ^ 64, behind a name. -/
def lim64 : Nat := 18446744073709551616

def moreB (x : Nat) : UInt8 := (x % 128 + 128).toUInt8
def lastB (x : Nat) : UInt8 := x.toUInt8
theorem var_more (l : List UInt8) (x : Nat) (h : 128 ≤ x) : (l ++ [moreB x]) ++ Lib.uvarint (x / 128) = l ++ Lib.uvarint x := by
  rw [Lib.uvarint_big h]; simp [moreB]
theorem var_last (l : List UInt8) (x : Nat) (h : x < 128) : l ++ [lastB x] = l ++ Lib.uvarint x := by
  rw [Lib.uvarint_small h]; rfl
theorem var_len (l : List UInt8) (x x0 : Nat) (h0 : x0 < lim64) (h : l ++ Lib.uvarint x = Lib.uvarint x0) : l.length + 1 ≤ 10 := by
  have a := Lib.uvarint_length64 (x := x0) h0
  have b := Lib.uvarint_pos x
  have c := congrArg List.length h
  simp at c; omega
theorem zz_lt (n : Int) (h0 : -9223372036854775808 ≤ n) (h1 : n ≤ 9223372036854775807) : Lib.zigzag n < lim64 := Lib.zigzag_lt h0 h1
theorem div_lt (x : Nat) (h : x < lim64) : x / 128 < lim64 := Nat.lt_of_le_of_lt (Nat.div_le_self _ _) h
theorem byte_more (x : Nat) : (x : Int) % 128 + 128 = ((moreB x).toNat : Int) := by
  unfold moreB; simp; omega
theorem byte_more2 (x : Nat) : bits BinOp.or IntKind.u8 ((x : Int) % 256) 128 = ((moreB x).toNat : Int) := by
  rw [Lib.u8_or128_any _ (by omega) (by omega), ← byte_more]; omega
theorem byte_last (x : Nat) (h : x < 128) : (x : Int) = ((lastB x).toNat : Int) := by
  unfold lastB; simp; omega
theorem wrap_div (x : Nat) (h : x < lim64) : IntKind.u64.wrap ((x : Int) / 128) = ((x / 128 : Nat) : Int) := by
  unfold lim64 at h; rw [IntKind.wrap_u64]; omega
end Go.Proofs.YtgiiclkjffdjgaaDoor

namespace Go.Proofs.YtgiiclkjffdjgaaDoor
open Go.RowKit

def SpecRel (w : World) (x0 : Nat) (u v : Value) (wr : World) : Prop :=
  ∃ (x : Nat) (l : List UInt8), x < lim64 ∧ u = .int .u64 x ∧ wr.ownsRow w.heap.size 5 1 v l.length (l.map B) ∧ Below w.heap.size w wr ∧ l ++ Lib.uvarint x = Lib.uvarint x0

theorem take_set_more (xs : List Value) (l : List UInt8) (b : UInt8) (v : Value) (h : l.length < xs.length) (hx : xs.take l.length = l.map B) (hv : v = B b) :
    (xs.set l.length v).take (l ++ [b]).length = (l ++ [b]).map B := by
  subst hv
  rw [List.length_append, List.length_singleton, List.take_succ_eq_append_getElem (by simpa using h), List.take_set_of_le (Nat.le_refl _), hx]
  simp

/-- The bytes of an integer, behind a name. -/
def putS (n : Int) : ByteArray := ⟨(Lib.uvarint (Lib.zigzag n)).toArray⟩
theorem putS_size (n : Int) (h0 : -9223372036854775808 ≤ n) (h1 : n ≤ 9223372036854775807) : (putS n).size ≤ 10 := by
  have := Lib.uvarint_length64 (Lib.zigzag_lt h0 h1)
  simpa [putS, ByteArray.size] using this
end Go.Proofs.YtgiiclkjffdjgaaDoor

namespace Go.Proofs.YtgiiclkjffdjgaaDoor
open Go.RowKit

/-- copy of a string into a row that the call owns; the place is given by the prover. -/
theorem wpList_copy_str {P : Program} {w : World} {ops : Array Oper} {rest : List Oper} {o : Oper} {a : Act} {Q : Exit → Act → World → Prop} (hgd : o.guard = none) (d s : Operand) (dT sT : TypeId)
    (ho : o.op = .call { callee := .builtin .copy, args := #[d, s], argTypes := #[dT, sT] }) (elem : TypeId) (hu : P.underlying dT = some (.slice elem)) (hsz : (P.info? elem).map (·.size) = some 1)
    (dp : Option Addr) (dLen dCap : Nat) (str : ByteArray) (hd : a.eval d = .slice dp dLen dCap) (hs : a.eval s = .string str)
    (g off : Nat) (cur : List Value) (t : TypeId) (hg : w.heap[g]? = some (.cells cur.toArray t (0, 0))) (hle : str.size ≤ dLen)
    (hpos : 0 < str.size → dp = some ⟨g, off, none⟩) (hfit : off + str.size ≤ cur.length) (B : Nat) (w0 : World) (hb : Below B w0 w) (hBg : B ≤ g)
    (h : ∀ w', Hid (w'.heap[g]? = some (.cells (splice cur off (Lib.byteCells str.data.toList)).toArray t (0, 0))) → Below B w0 w' → wpList P ops Q rest (a.put o.dst (goInt str.size)) w') :
    wpList P ops Q (o :: rest) a w := by
  have hlen : (Lib.byteCells str.data.toList).length = str.size := by rw [Lib.byteCells_length, ← Lib.size_eq]
  refine wpList_plain hgd fun K hK => ?_
  by_cases h0 : str.size = 0
  · have hrun := Lib.run_copy_empty_string (P := P) w dT sT o.type elem dp dLen dCap str hu (by simp [hsz]) h0
    have hnil : Lib.byteCells str.data.toList = [] := List.eq_nil_of_length_eq_zero (by rw [hlen, h0])
    unfold Oper.wp
    simp [execOp, ho, resolve, invoke, builtin, hd, hs, hrun, Result.andThen]
    refine hK _ _ ?_
    have := h w (show _ = _ by rw [hnil]; simpa [splice] using hg) hb
    rw [h0] at this
    exact this
  · obtain rfl := hpos (by omega)
    have hrun := Lib.run_copy_row_string (P := P) w dT sT o.type elem g off dLen dCap str cur.toArray t hu hsz hg hle (by simpa using hfit)
    unfold Oper.wp
    simp [execOp, ho, resolve, invoke, builtin, hd, hs, hrun, Result.andThen]
    refine hK _ _ (h _ (show _ = _ by simpa [splice, hlen] using setRow_heap w g _ _ t _ hg) (below_setRow hb hBg _))

theorem Tryd.size5 : (Tryd.prog.info? 5).map (·.size) = some 1 := by kernel_rfl

theorem cells_B (s : ByteArray) : Lib.byteCells s.data.toList = s.data.toList.map B := rfl
theorem str_app (a b : ByteArray) : (⟨(a.data.toList ++ b.data.toList).toArray⟩ : ByteArray) = a ++ b := by
  apply ByteArray.ext; simp
theorem splice_two (Z X Y : List Value) (hZ : Z.length = X.length + Y.length) : splice (splice Z 0 X) X.length Y = X ++ Y := by
  unfold splice; simp; omega

end Go.Proofs.YtgiiclkjffdjgaaDoor

namespace Go.Proofs.YtgiiclkjffdjgaaDoor
open Go.RowKit

end Go.Proofs.YtgiiclkjffdjgaaDoor

namespace Go.Proofs.YtgiiclkjffdjgaaDoor
open Go.RowKit

def stepS (k t f : Int) (d : ByteArray) : ByteArray := putS k ++ putS t ++ putS f ++ (putS d.size ++ d)
def stepBs (k t f : Int) (d : ByteArray) : ByteArray := if stepB 8 k t f d then stepS k t f d else ⟨#[]⟩
theorem ok_bounds {k t f : Int} {d : ByteArray} (h : stepB 8 k t f d = true) : 1 ≤ k ∧ k ≤ 5 ∧ 0 ≤ t ∧ t ≤ 7 ∧ 0 ≤ f ∧ f ≤ 1000000 ∧ d.size ≤ 8 := by
  obtain ⟨-, h⟩ := (stepB_iff ..).1 h
  rcases h with ⟨rfl, h1, rfl, h2⟩ | ⟨rfl, h1, rfl, h2⟩ | ⟨rfl, h1, h3, h2⟩ | ⟨rfl, h1, h3, h2⟩ | ⟨rfl, rfl, h3, h2⟩
  · have := (inB_iff _ _).1 h1; omega
  · have := (inB_iff _ _).1 h1; omega
  · have := (inB_iff _ _).1 h1; have := (inB_iff _ _).1 h3; omega
  · have := (inB_iff _ _).1 h1; have := (inB_iff _ _).1 h3; omega
  · have := (isT_iff _).1 h3; omega
theorem keepQ {W W' : World} {n : Nat} {T : TypeId} {a b c d : Value} (X : Bx W n T #[a, b, c, d]) (h : Below W.heap.size W W') :
    W'.cell? ⟨n, 0, none⟩ = some a ∧ W'.cell? ⟨n, 1, none⟩ = some b ∧ W'.cell? ⟨n, 2, none⟩ = some c ∧ W'.cell? ⟨n, 3, none⟩ = some d ∧ Below W.heap.size W W' :=
  have h' := X.next h
  ⟨h'.q0, h'.q1, h'.q2, h'.q3, h⟩
theorem below_more {W a b : World} (h : Below W.heap.size W a) (k : Below a.heap.size a b) : Below W.heap.size W b := h.trans (k.mono h.size)


end Go.Proofs.YtgiiclkjffdjgaaDoor

namespace Go.Proofs.YtgiiclkjffdjgaaDoor
open Go.RowKit

/-- Of what was there nothing but block b has turned. -/
def Kept (b : Nat) (w w' : World) : Prop := w.grownBy w' (some b)
theorem Kept.refl (b : Nat) (w : World) : Kept b w w := World.grownBy.refl w _
theorem Kept.trans {b : Nat} {w w1 w2 : World} (h : Kept b w w1) (k : Kept b w1 w2) : Kept b w w2 := h.andThen k (fun _ e => .inr e)
theorem Kept.drew {b : Nat} {w w1 : World} (h : Kept b w w1) : Kept b w w1.drew := ⟨h.os, h.tape, h.output, h.size, h.block⟩
theorem Kept.drewN {b : Nat} {w w1 : World} (h : Kept b w w1) (n : Nat) : Kept b w (w1.drewN n) := ⟨h.os, h.tape, h.output, h.size, h.block⟩
theorem Kept.alloc {b : Nat} {w w1 : World} (h : Kept b w w1) (o : Obj) : Kept b w (w1.alloc o) := h.trans (World.grownBy_alloc w1 o _)
theorem Kept.setCell {b : Nat} {w w1 : World} (h : Kept b w w1) (i : Nat) (v : Value) : Kept b w (w1.setCell ⟨b, i, none⟩ v) :=
  h.trans ⟨rfl, rfl, rfl, by simp, fun k _ hk => Below.heap_setCell w1 ⟨b, i, none⟩ v k (fun e => hk (by rw [e]))⟩
theorem Kept.grown {b : Nat} {w w1 w2 : World} {row : Option Nat} (h : Kept b w w1) (k : w1.grownBy w2 row) (hr : ∀ j, row = some j → w.heap.size ≤ j) : Kept b w w2 := h.andThen k (fun j e => .inl (hr j e))
theorem Kept.cell {b : Nat} {w w' : World} (h : Kept b w w') {p : Addr} (hl : p.block < w.heap.size) (hp : p.block ≠ b) : w'.cell? p = w.cell? p := World.cell?_of_block (w := w) (h.block p.block hl (fun e => hp (Option.some.inj e)))
theorem Kept.below {b B : Nat} {w w' : World} (h : Kept b w w') (hB : B ≤ b) (hw : B ≤ w.heap.size) : Below B w w' :=
  ⟨h.os, h.tape, h.output, h.size, fun k hk => h.block k (by omega) (fun e => by have := Option.some.inj e; omega)⟩

/-- A slice of bytes that came in can be read. -/
def Bytes (w : World) (a : Option Addr) (len : Nat) : Prop :=
  0 < len → ∃ x, a = some x ∧ x.spot = none ∧ x.block < w.heap.size ∧ ∀ i, i < len → ∃ z : Nat, z < 256 ∧ w.cell? ⟨x.block, x.off + i, none⟩ = some (.int .u8 (z : Int))
theorem Bytes.below {w w' : World} {a : Option Addr} {len : Nat} (h : Bytes w a len) (k : Below w.heap.size w w') : Bytes w' a len := fun h0 => by
  obtain ⟨x, e, hs, hl, hc⟩ := h h0
  exact ⟨x, e, hs, Nat.lt_of_lt_of_le hl k.size, fun i hi => by
    obtain ⟨z, hz, hz'⟩ := hc i hi
    exact ⟨z, hz, by rw [k.cell (p := ⟨x.block, x.off + i, none⟩) hl]; exact hz'⟩⟩
/-- The same, the bytes lying in another block than b. -/
def Row (w : World) (a : Option Addr) (len : Nat) (b : Nat) : Prop :=
  0 < len → ∃ x, a = some x ∧ x.spot = none ∧ x.block ≠ b ∧ x.block < w.heap.size ∧ ∀ i, i < len → ∃ z : Nat, z < 256 ∧ w.cell? ⟨x.block, x.off + i, none⟩ = some (.int .u8 (z : Int))
theorem Row.kept {w w' : World} {a : Option Addr} {len b : Nat} (h : Row w a len b) (k : Kept b w w') : Row w' a len b := fun h0 => by
  obtain ⟨x, e, hs, hb, hl, hc⟩ := h h0
  exact ⟨x, e, hs, hb, Nat.lt_of_lt_of_le hl k.size, fun i hi => by
    obtain ⟨z, hz, hz'⟩ := hc i hi
    exact ⟨z, hz, by rw [k.cell (p := ⟨x.block, x.off + i, none⟩) hl hb]; exact hz'⟩⟩

/-- The source in block b, over the slice a, len, cap. -/
def Src (w : World) (b : Nat) (a : Option Addr) (len cap : Nat) : Prop :=
  ∃ (k : Nat) (mix size : Int), k ≤ len ∧ w.heap[b]? = some (.cells #[.slice a len cap, .int .i64 k, .int .u64 mix, .int .i64 size] 74 (0, 0)) ∧ len ≤ 1048576
theorem lt_of_some {w : World} {b : Nat} {o : Obj} (h : w.heap[b]? = some o) : b < w.heap.size := (Array.getElem?_eq_some_iff.1 h).1
theorem Src.lt {w : World} {b : Nat} {a : Option Addr} {len cap : Nat} (h : Src w b a len cap) : b < w.heap.size := by
  obtain ⟨_, _, _, _, hb, _⟩ := h; exact lt_of_some hb
theorem Src.grown {w w' : World} {b : Nat} {a : Option Addr} {len cap : Nat} {row : Option Nat} (h : Src w b a len cap) (g : w.grownBy w' row) (hr : row ≠ some b) : Src w' b a len cap := by
  obtain ⟨k, m, s, h1, h2, h3⟩ := h
  exact ⟨k, m, s, h1, by rw [g.block b (lt_of_some h2) (fun e => hr e.symm)]; exact h2, h3⟩
theorem Src.cells {w : World} {b : Nat} {V c1 c2 c3 : Value} (h : w.heap[b]? = some (.cells #[V, c1, c2, c3] 74 (0, 0))) :
    (w.cell? ⟨b, 0, none⟩ = some V ∧ w.cell? ⟨b, 1, none⟩ = some c1 ∧ w.cell? ⟨b, 2, none⟩ = some c2 ∧ w.cell? ⟨b, 3, none⟩ = some c3) ∧
    (w.frozen? ⟨b, 0, none⟩ = false ∧ w.frozen? ⟨b, 1, none⟩ = false ∧ w.frozen? ⟨b, 2, none⟩ = false ∧ w.frozen? ⟨b, 3, none⟩ = false) := by
  refine ⟨⟨?_, ?_, ?_, ?_⟩, ?_, ?_, ?_, ?_⟩
  all_goals first | (rw [cell_of_row w b _ _ _ _ h]; rfl) | exact frozen_of_row w b _ _ _ h

/-- What a draw gives: a number of which P holds; the source goes on; nothing else turns. -/
def Drawn (b : Nat) (a : Option Addr) (len cap : Nat) (P : Int → Prop) (w : World) (e : Ending) (w' : World) : Prop :=
  ∃ v : Int, P v ∧ e = .returned (.int .i64 v) ∧ Src w' b a len cap ∧ Kept b w w'

/-- The source's block as it stands in w, nothing else having turned since w0. -/
def SrcIn (b : Nat) (V : Value) (k : Nat) (size : Int) (w0 w : World) : Prop :=
  ∃ mix : Int, w.heap[b]? = some (.cells #[V, .int .i64 k, .int .u64 mix, .int .i64 size] 74 (0, 0)) ∧ Kept b w0 w
theorem set_one {b : Nat} {w : World} {V c1 c2 c3 : Value} (h : w.heap[b]? = some (.cells #[V, c1, c2, c3] 74 (0, 0))) (v : Value) : (w.setCell ⟨b, 1, none⟩ v).heap[b]? = some (.cells #[V, v, c2, c3] 74 (0, 0)) :=
  heap_setCell_same w b 1 _ _ v h
theorem set_two {b : Nat} {w : World} {V c1 c2 c3 : Value} (h : w.heap[b]? = some (.cells #[V, c1, c2, c3] 74 (0, 0))) (v : Value) : (w.setCell ⟨b, 2, none⟩ v).heap[b]? = some (.cells #[V, c1, v, c3] 74 (0, 0)) :=
  heap_setCell_same w b 2 _ _ v h
theorem set_three {b : Nat} {w : World} {V c1 c2 c3 : Value} (h : w.heap[b]? = some (.cells #[V, c1, c2, c3] 74 (0, 0))) (v : Value) : (w.setCell ⟨b, 3, none⟩ v).heap[b]? = some (.cells #[V, c1, c2, v] 74 (0, 0)) :=
  heap_setCell_same w b 3 _ _ v h
theorem drawn_mod (x most : Int) (h1 : 1 < most) (h2 : most ≤ 9223372036854775807) : 0 ≤ wrap64 ((IntKind.u64.wrap x).tmod most) ∧ wrap64 ((IntKind.u64.wrap x).tmod most) < most := by
  have h0 : 0 ≤ IntKind.u64.wrap x := by rw [IntKind.wrap_u64]; omega
  rw [Int.tmod_eq_emod_of_nonneg h0]
  have a := Int.emod_nonneg (IntKind.u64.wrap x) (show most ≠ 0 by omega)
  have b := Int.emod_lt_of_pos (IntKind.u64.wrap x) (show 0 < most by omega)
  rw [IntWalk.wrap64_in _ (by omega)]
  exact ⟨a, b⟩

set_option maxHeartbeats 1000000 in
set_option maxRecDepth 100000 in
theorem n_any (b : Nat) (a : Option Addr) (len cap : Nat) (most : Int) (w : World) (hS : Src w b a len cap) (hR : Row w a len b) (h1 : 1 < most) (h2 : most ≤ 9223372036854775807) :
    Calls Tryd.prog 34 #[.pointer (some ⟨b, 0, none⟩), .int .i64 most] w (Drawn b a len cap (fun v => 0 ≤ v ∧ v < most) w) := by
  obtain ⟨k, mix, size, hk, hb, hl⟩ := hS
  obtain ⟨⟨c0, c1, c2, c3⟩, f0, f1, f2, f3⟩ := Src.cells hb
  have HB := Lib.hid hb
  have HR := Lib.hid hR
  clear hb hR
  go_enter Tryd.func34, Tryd.ntmps34
  go_wp2_with fail
  go_quiet (fail)
  go_upto_if 17 with fail
  go_cut [5] (fun s5 wx => ∃ z j : Nat, z < 256 ∧ j ≤ len ∧ s5 = .int .u64 (z : Int) ∧ SrcIn b (.slice a len cap) j size w wx)
  case first =>
    by_cases hkl : k < len
    · obtain ⟨x, rfl, hs, hxb, hxl, hc⟩ := HR.out (by omega)
      obtain ⟨xb, xo, xs⟩ := x
      simp only at hs hxb hxl hc
      subst hs
      obtain ⟨z, hz, hcz⟩ := hc k hkl
      clear hc
      have d0 : (k : Int) < (len : Int) := by omega
      have d1 : (0 : Int) ≤ (k : Int) := by omega
      go_wp2_with fail
      go_quiet (fail)
      go_wp2_with fail
      go_meet
      case rel => exact ⟨z, k + 1, hz, by omega, rfl, mix, by rw [show ((k + 1 : Nat) : Int) = (k : Int) + 1 by omega]; exact set_one (w := w.drewN _) HB.out _, Kept.setCell (w1 := w.drewN _) ((Kept.refl b w).drewN _) 1 _⟩
    · have d0 : decide ((k : Int) < (len : Int)) = false := by simp; omega
      go_wp2_with fail
      go_meet
      case rel => exact ⟨0, k, by omega, hk, rfl, mix, HB.out, (Kept.refl b w).drewN _⟩
  case rest =>
    obtain ⟨z, j, hz, hj, rfl, mix1, hb1, ho1⟩ := hcut
    clear c0 c1 c2 c3 f0 f1 f2 f3 HB HR
    obtain ⟨⟨c0, c1, c2, c3⟩, f0, f1, f2, f3⟩ := Src.cells hb1
    have HB1 := Lib.hid hb1
    have HO1 := Lib.hid ho1
    clear hb1 ho1
    go_upto_region 7 with fail
    go_cut [] (fun wx => SrcIn b (.slice a len cap) j size w wx)
    case first =>
      go_region
      go_wp2_with fail
      go_meet
      case rel => exact ⟨_, set_two HB1.out _, (HO1.out.setCell 2 _).drew⟩
    case rest =>
      clear c0 c1 c2 c3 f0 f1 f2 f3 HB1 HO1
      obtain ⟨mix1, hb1, ho1⟩ := hcut
      obtain ⟨⟨c0, c1, c2, c3⟩, f0, f1, f2, f3⟩ := Src.cells hb1
      have HB1 := Lib.hid hb1
      have HO1 := Lib.hid ho1
      clear hb1 ho1
      go_upto_region 8 with fail
      go_cut [] (fun wx => SrcIn b (.slice a len cap) j size w wx)
      case first =>
        go_region
        go_wp2_with fail
        go_meet
        case rel => exact ⟨_, set_two HB1.out _, (HO1.out.setCell 2 _).drew⟩
      case rest =>
        clear c0 c1 c2 c3 f0 f1 f2 f3 HB1 HO1
        obtain ⟨mix1, hb1, ho1⟩ := hcut
        obtain ⟨⟨c0, c1, c2, c3⟩, f0, f1, f2, f3⟩ := Src.cells hb1
        have HB1 := Lib.hid hb1
        have HO1 := Lib.hid ho1
        clear hb1 ho1
        go_upto_region 9 with fail
        go_cut [] (fun wx => SrcIn b (.slice a len cap) j size w wx)
        case first =>
          go_region
          go_wp2_with fail
          go_meet
          case rel => exact ⟨_, set_two HB1.out _, (HO1.out.setCell 2 _).drew⟩
        case rest =>
          clear c0 c1 c2 c3 f0 f1 f2 f3 HB1 HO1
          obtain ⟨mix1, hb1, ho1⟩ := hcut
          obtain ⟨⟨c0, c1, c2, c3⟩, f0, f1, f2, f3⟩ := Src.cells hb1
          have HB1 := Lib.hid hb1
          have HO1 := Lib.hid ho1
          clear hb1 ho1
          go_wp2_with fail
          go_ret
          exact ⟨_, drawn_mod _ _ h1 h2, rfl, ⟨j, _, _, hj, HB1.out, hl⟩, HO1.out⟩

/-- The same of a draw that says yes or no. -/
def DrawnB (b : Nat) (a : Option Addr) (len cap : Nat) (w : World) (e : Ending) (w' : World) : Prop :=
  ∃ v : Bool, e = .returned (.bool v) ∧ Src w' b a len cap ∧ Kept b w w'

set_option maxHeartbeats 400000 in
theorem one_any (b : Nat) (a : Option Addr) (len cap : Nat) (most : Int) (w : World) (hS : Src w b a len cap) (hR : Row w a len b) (h1 : 1 < most) (h2 : most ≤ 9223372036854775807) :
    Calls Tryd.prog 32 #[.pointer (some ⟨b, 0, none⟩), .int .i64 most] w (DrawnB b a len cap w) := by
  have HC := Lib.hid (n_any b a len cap most w hS hR h1 h2)
  clear hS hR
  go_enter Tryd.func32, Tryd.ntmps32
  go_wp2_with fail
  refine HC.out.mono ?_
  rintro e w1 ⟨v, hv, rfl, hs, hk⟩
  have HS := Lib.hid hs
  have HK := Lib.hid hk
  clear hs hk
  go_wp2_with fail
  go_ret
  exact ⟨_, rfl, HS.out, HK.out⟩

theorem owned_from {base : Nat} {wr : World} {v : Value} {n : Nat} {xs : List Value} (h : wr.ownsRow base 5 1 v n xs) : ∀ k, v.ownBlock = some k → base ≤ k := fun k hk => (h.lt k hk).1
theorem owned_not {base b : Nat} {wr : World} {v : Value} {n : Nat} {xs : List Value} (h : wr.ownsRow base 5 1 v n xs) (hb : b < base) : v.ownBlock = none ∨ v.ownBlock ≠ some b := by
  right; intro e; have := (h.lt b e).1; omega
theorem ownShape {base : Nat} {wr : World} {e : TypeId} {v : Value} {n : Nat} {xs : List Value} (h : wr.ownsRow base e 1 v n xs) : v = .slice none 0 0 ∧ n = 0 ∨ ∃ g cap, v = .slice (some ⟨g, 0, none⟩) n cap := by
  rcases h.2 with ⟨h0, h1⟩ | ⟨g, cap, cur, h', _⟩
  · exact .inl ⟨h0, h1⟩
  · exact .inr ⟨g, cap, h'⟩

/-- What drawing bytes gives: a string of so many bytes. -/
def DrawnS (b : Nat) (a : Option Addr) (len cap : Nat) (n : Nat) (w : World) (e : Ending) (w' : World) : Prop :=
  ∃ s : ByteArray, s.size = n ∧ e = .returned (.string s) ∧ Src w' b a len cap ∧ Kept b w w'
def BytesRel (b : Nat) (a : Option Addr) (len cap n : Nat) (w : World) (v i : Value) (wr : World) : Prop :=
  ∃ l : List UInt8, l.length ≤ n ∧ i = .int .i64 (l.length : Int) ∧ (∃ g c, v = .slice (some ⟨g, 0, none⟩) l.length c) ∧ wr.ownsRow w.heap.size 5 1 v l.length (l.map B) ∧ Src wr b a len cap ∧ Kept b w wr
theorem byte_of (v : Int) (h0 : 0 ≤ v) (h1 : v < 256) : v = ((v.toNat.toUInt8).toNat : Int) := by simp; omega

set_option maxHeartbeats 1000000 in
set_option maxRecDepth 100000 in
theorem bytes_any (b : Nat) (a : Option Addr) (len cap n : Nat) (w : World) (hS : Src w b a len cap) (hR : Row w a len b) (hn : n ≤ 1000) :
    Calls Tryd.prog 33 #[.pointer (some ⟨b, 0, none⟩), .int .i64 (n : Int)] w (DrawnS b a len cap n w) := by
  obtain ⟨i0, hi, hz0, hz1, hz2⟩ := info_parts Tryd.info5
  have hbl := hS.lt
  have HS := Lib.hid hS
  have HR := Lib.hid hR
  clear hS hR
  go_enter Tryd.func33, Tryd.ntmps33
  go_wp2_with fail
  go_loopw [5, 6] (fun v i wr => BytesRel b a len cap n w v i wr) (fun _ i _ => n - (intOf i).toNat)
  case atStart => exact ⟨[], by simp, rfl, ⟨_, _, rfl⟩, World.ownsRow_lit w #[] 0 (Nat.le_refl _) (by decide) rfl, HS.out.grown (World.grownBy_alloc w _ none) (by simp), (Kept.refl b w).alloc _⟩
  case round =>
    obtain ⟨l, hln, rfl, ⟨g, c, rfl⟩, hown, hs, hk⟩ := hrel
    have HOWN := Lib.hid hown
    have HSR := Lib.hid hs
    have HK := Lib.hid hk
    have hsz : w.heap.size ≤ wr.heap.size := hk.size
    clear hown hs hk
    by_cases hlt : l.length < n
    · go_wp2_with fail
      refine (n_any b a len cap 256 _ HSR.out (HR.out.kept HK.out) (by omega) (by omega)).mono ?_
      rintro e w1 ⟨x, ⟨hx0, hx1⟩, rfl, hs1, hk1⟩
      have hown := HOWN.out.kept hk1 (owned_not HOWN.out hbl)
      have HS1 := Lib.hid hs1
      have HK1 := Lib.hid (HK.out.trans hk1)
      have hsz1 : w.heap.size ≤ w1.heap.size := Nat.le_trans hsz hk1.size
      clear hs1 hk1 HOWN HSR HK
      go_wp2_with (at_builtin; refine wpList_append_own _ rfl _ _ 22 rfl w.heap.size 5 i0 (.int .u8 0) 1 1 Tryd.underlying22 hi hz0 hz1 hz2 rfl (by decide) _ _ _ rfl (hown.alloc _) ⟨w1.heap.size, 0, none⟩ 1 1 [B x.toNat.toUInt8] rfl rfl ?c1 ?c2 ?c3 ?c4 ?c5 ?_)
      case c1 => exact one_cell _ _ _ (val_int (byte_of x hx0 hx1))
      case c2 => intro u hu; simp at hu; subst hu; rfl
      case c3 => unfold maxLen; omega
      case c4 => omega
      case c5 => simp; omega
      intro v' w2 hown' hgrow _
      have hsh := ownShape hown'
      have HO2 := Lib.hid hown'
      have HS2 := Lib.hid ((HS1.out.grown (World.grownBy_alloc w1 _ none) (by simp)).grown hgrow (fun e => by
        have := owned_from hown b (by simpa using e); omega))
      have HK2 := Lib.hid ((HK1.out.alloc _).grown hgrow (fun j e => owned_from hown j (by simpa using e)))
      have HSH := Lib.hid (show ∃ g c, v' = .slice (some ⟨g, 0, none⟩) (l.length + 1) c by
        rcases hsh with ⟨_, h0⟩ | h
        · omega
        · exact h)
      clear hown' hgrow hown hsh
      go_wp2
      go_roundw
      case rel => exact ⟨l ++ [x.toNat.toUInt8], by simp; omega, by simp, by simpa using HSH.out, by simpa using HO2.out, HS2.out, HK2.out⟩
      case measure => simp [intOf]; omega
    · obtain rfl : l.length = n := by omega
      have conv := conv_row (c := c) HOWN.out l l.length rfl (Nat.le_refl _) (by rw [List.take_of_length_le (by simp)])
      obtain ⟨str, hstr⟩ : ∃ str : ByteArray, str = ⟨l.toArray⟩ := ⟨_, rfl⟩
      have HZ := Lib.hid (show str.size = l.length by rw [hstr]; simp [ByteArray.size])
      rw [← hstr] at conv
      clear hstr
      go_wp2
      go_ret
      exact ⟨str, HZ.out, rfl, HSR.out, HK.out⟩
end Go.Proofs.YtgiiclkjffdjgaaDoor

namespace Go.Proofs.YtgiiclkjffdjgaaDoor
open Go.RowKit

theorem Bytes.row {w w' : World} {a : Option Addr} {len b : Nat} (h : Bytes w a len) (hk : Below w.heap.size w w') (hb : w.heap.size ≤ b) : Row w' a len b := fun h0 => by
  obtain ⟨x, e, hs, hl, hc⟩ := (h h0)
  exact ⟨x, e, hs, by omega, Nat.lt_of_lt_of_le hl hk.size, fun i hi => by
    obtain ⟨z, hz, hz'⟩ := hc i hi
    exact ⟨z, hz, by rw [hk.cell (p := ⟨x.block, x.off + i, none⟩) hl]; exact hz'⟩⟩

def SourceRel (a : Option Addr) (len cap : Nat) (w : World) (i : Value) (wr : World) : Prop :=
  ∃ (k : Nat) (mix : Int), k ≤ len ∧ i = .int .i64 (k : Int) ∧ wr.heap[w.heap.size]? = some (.cells #[.slice a len cap, .int .i64 0, .int .u64 mix, .int .i64 0] 74 (0, 0)) ∧ Below w.heap.size w wr
/-- What making a source gives. -/
def Made (a : Option Addr) (len cap : Nat) (w : World) (e : Ending) (w' : World) : Prop :=
  e = .returned (.pointer (some ⟨w.heap.size, 0, none⟩)) ∧ Src w' w.heap.size a len cap ∧ Below w.heap.size w w'

set_option maxHeartbeats 1000000 in
set_option maxRecDepth 100000 in
theorem source_any (a : Option Addr) (len cap : Nat) (w : World) (hB : Bytes w a len) (hl : len ≤ 1048576) :
    Calls Tryd.prog 23 #[.slice a len cap] w (Made a len cap w) := by
  have HB := Lib.hid hB
  clear hB
  go_enter Tryd.func23, Tryd.ntmps23
  go_wp2_with fail
  go_loopw [4] (fun i wr => SourceRel a len cap w i wr) (fun i _ => len - (intOf i).toNat)
  case atStart => exact ⟨0, _, Nat.zero_le _, rfl, heap_alloc_new w _, (Below.refl _ _).alloc (Nat.le_refl _) _⟩
  case round =>
    obtain ⟨k, mix, hk, rfl, hb, hbel⟩ := hrel
    obtain ⟨⟨c0, c1, c2, c3⟩, f0, f1, f2, f3⟩ := Src.cells hb
    have HW := Lib.hid hb
    have HBEL := Lib.hid hbel
    clear hb hbel
    by_cases hgo : k < len ∧ k < 64
    · obtain ⟨hkl, hk64⟩ := hgo
      obtain ⟨x, rfl, hs, hxl, hc⟩ := HB.out (by omega)
      obtain ⟨xb, xo, xs⟩ := x
      simp only at hs hxl hc
      subst hs
      obtain ⟨z, hz, hcz0⟩ := hc k hkl
      have hcz : wr.cell? ⟨xb, xo + k, none⟩ = some (.int .u8 (z : Int)) := by rw [HBEL.out.cell (p := ⟨xb, xo + k, none⟩) hxl]; exact hcz0
      have hne : ¬ xb = w.heap.size := by omega
      clear hc hcz0
      have d0 : (k : Int) < (len : Int) := by omega
      have d1 : (k : Int) < 64 := by omega
      have d2 : (0 : Int) ≤ (k : Int) := by omega
      go_wp2_with fail
      go_region
      go_wp2_with fail
      go_roundw
      case rel => exact ⟨k + 1, _, by omega, by go_num, set_two HW.out _, (HBEL.out.setCell (p := ⟨w.heap.size, 2, none⟩) (Nat.le_refl _) _).drew⟩
      case measure => simp [intOf]; omega
    · have hend : len ≤ k ∨ k < len ∧ 64 ≤ k := by omega
      clear hgo
      by_cases h12 : (len : Int) / 20 ≤ 12
      · rcases hend with e0 | ⟨e0, e1⟩
        all_goals go_wp2_with fail
        all_goals go_ret
        all_goals exact ⟨rfl, ⟨0, _, _, Nat.zero_le _, set_three HW.out _, hl⟩, HBEL.out.setCell (p := ⟨w.heap.size, 3, none⟩) (Nat.le_refl _) _⟩
      · rcases hend with e0 | ⟨e0, e1⟩
        all_goals go_wp2_with fail
        all_goals go_ret
        all_goals exact ⟨rfl, ⟨0, _, _, Nat.zero_le _, set_three (set_three HW.out _) _, hl⟩, (HBEL.out.setCell (p := ⟨w.heap.size, 3, none⟩) (Nat.le_refl _) _).setCell (p := ⟨w.heap.size, 3, none⟩) (Nat.le_refl _) _⟩
end Go.Proofs.YtgiiclkjffdjgaaDoor

namespace Go.Proofs.YtgiiclkjffdjgaaDoor
open Go.RowKit

theorem below_kept {b : Nat} {w w' : World} (h : Below w.heap.size w w') : Kept b w w' := ⟨h.os, h.tape, h.output, h.size, fun k hk _ => h.block k hk⟩
theorem Src.below {w w' : World} {b : Nat} {a : Option Addr} {len cap : Nat} (h : Src w b a len cap) (hb : Below w.heap.size w w') : Src w' b a len cap := by
  obtain ⟨k, m, s, h1, h2, h3⟩ := h
  exact ⟨k, m, s, h1, by rw [hb.block b (lt_of_some h2)]; exact h2, h3⟩
theorem Bx.kept {w w' : World} {n b : Nat} {T : TypeId} {vs : Array Value} (h : Bx w n T vs) (hk : Kept b w w') (hn : n ≠ b) : Bx w' n T vs := (hk.block n h.lt (fun e => hn (Option.some.inj e))).trans h
def stpV (x : stpT) : Value := .agg #[.int .i64 x.1, .int .i64 x.2.1, .int .i64 x.2.2.1, .string x.2.2.2]
/-- What a drawn step gives. -/
def DrawnX (b : Nat) (a : Option Addr) (len cap : Nat) (w : World) (e : Ending) (w' : World) : Prop :=
  ∃ x : stpT, x.2.2.2.size ≤ 10 ∧ e = .returned (stpV x) ∧ Src w' b a len cap ∧ Kept b w w'
/-- A string of a few is drawn. -/
def DrawnD (b : Nat) (a : Option Addr) (len cap : Nat) (w : World) (e : Ending) (w' : World) : Prop :=
  ∃ s : ByteArray, s.size ≤ 10 ∧ e = .returned (.string s) ∧ Src w' b a len cap ∧ Kept b w w'

set_option maxRecDepth 100000 in
set_option maxHeartbeats 1000000 in
theorem pick_any (b : Nat) (a : Option Addr) (len cap g : Nat) (w : World) (hS : Src w b a len cap) (hR : Row w a len b) (hg : ∀ j : Nat, j < 5 → ∃ s : ByteArray, s.size ≤ 10 ∧ w.cell? ⟨g, j, none⟩ = some (.string s)) (hl : g < w.heap.size) (hn : g ≠ b) :
    Calls Tryd.prog 60 #[.pointer (some ⟨b, 0, none⟩), .slice (some ⟨g, 0, none⟩) 5 5] w (DrawnD b a len cap w) := by
  have HC := Lib.hid (n_any b a len cap 5 w hS hR (by omega) (by omega))
  have HG := Lib.hid hg
  clear hS hR hg
  go_enter Tryd.func60, Tryd.ntmps60
  go_wp2_with fail
  refine HC.out.mono ?_
  rintro e w1 ⟨v, ⟨hv0, hv1⟩, rfl, hs, hk⟩
  obtain ⟨j, rfl⟩ := Int.eq_ofNat_of_zero_le hv0
  obtain ⟨s, hz, hc⟩ := HG.out j (by omega)
  have hc1 : w1.cell? ⟨g, j, none⟩ = some (.string s) := (hk.cell (p := ⟨g, j, none⟩) hl hn).trans hc
  have HS := Lib.hid hs
  have HK := Lib.hid hk
  clear hs hk hc HG HC
  go_wp2_with fail
  go_ret
  exact ⟨s, hz, rfl, HS.out, HK.out⟩

set_option maxRecDepth 100000 in
set_option maxHeartbeats 1000000 in
theorem data_any (b : Nat) (a : Option Addr) (len cap : Nat) (w : World) (hS : Src w b a len cap) (hR : Row w a len b) :
    Calls Tryd.prog 31 #[.pointer (some ⟨b, 0, none⟩)] w (DrawnD b a len cap w) := by
  have hbl := hS.lt
  have HS := Lib.hid hS
  have HR := Lib.hid hR
  clear hS hR
  go_enter Tryd.func31, Tryd.ntmps31
  go_wp2_with fail
  generalize hW : w.alloc _ = W
  have hk : Kept b w W := by rw [← hW]; exact (Kept.refl b w).alloc _
  have hs : Src W b a len cap := by rw [← hW]; exact HS.out.below (below_alloc1 w _)
  have hg : ∀ j : Nat, j < 5 → ∃ s : ByteArray, s.size ≤ 10 ∧ W.cell? ⟨w.heap.size, j, none⟩ = some (.string s) := by
    intro j hj
    rw [← hW]
    match j, hj with
    | 0, _ => exact ⟨_, by decide, (bx_new w _ _).cell 0⟩
    | 1, _ => exact ⟨_, by decide, (bx_new w _ _).cell 1⟩
    | 2, _ => exact ⟨_, by decide, (bx_new w _ _).cell 2⟩
    | 3, _ => exact ⟨_, by decide, (bx_new w _ _).cell 3⟩
    | 4, _ => exact ⟨_, by decide, (bx_new w _ _).cell 4⟩
  have hl : w.heap.size < W.heap.size := by rw [← hW]; simp
  clear hW
  have HK := Lib.hid hk
  have HC := Lib.hid (pick_any b a len cap w.heap.size W hs (HR.out.kept hk) hg hl (by omega))
  clear hk hs hg
  refine HC.out.mono ?_
  rintro e w1 ⟨s, hz, rfl, hs, hk⟩
  have HS1 := Lib.hid hs
  have HK1 := Lib.hid (HK.out.trans hk)
  clear hs hk
  go_wp2_with fail
  go_ret
  exact ⟨s, hz, rfl, HS1.out, HK1.out⟩


theorem Kept.box {b n : Nat} {w0 w : World} (h : Kept b w0 w) (i : Nat) (v : Value) (hn : w0.heap.size ≤ n) : Kept b w0 (w.setCell ⟨n, i, none⟩ v) :=
  ⟨h.os, h.tape, h.output, by simpa using h.size, fun k hk hne => by
    rw [Below.heap_setCell w ⟨n, i, none⟩ v k (by simp; omega)]
    exact h.block k hk hne⟩
theorem Src.box {w : World} {b n : Nat} {a : Option Addr} {len cap : Nat} (h : Src w b a len cap) (i : Nat) (v : Value) (hn : b ≠ n) : Src (w.setCell ⟨n, i, none⟩ v) b a len cap := by
  obtain ⟨k, m, s, h1, h2, h3⟩ := h
  exact ⟨k, m, s, h1, by rw [Below.heap_setCell w ⟨n, i, none⟩ v b hn]; exact h2, h3⟩
theorem Kept.four {b n : Nat} {w0 w : World} (h : Kept b w0 w) (hn : w0.heap.size ≤ n) (x y z u : Value) : Kept b w0 ((((w.setCell ⟨n, 0, none⟩ x).setCell ⟨n, 1, none⟩ y).setCell ⟨n, 2, none⟩ z).setCell ⟨n, 3, none⟩ u) :=
  (((h.box 0 x hn).box 1 y hn).box 2 z hn).box 3 u hn
theorem Src.four {w : World} {b n : Nat} {a : Option Addr} {len cap : Nat} (h : Src w b a len cap) (hn : b ≠ n) (x y z u : Value) : Src ((((w.setCell ⟨n, 0, none⟩ x).setCell ⟨n, 1, none⟩ y).setCell ⟨n, 2, none⟩ z).setCell ⟨n, 3, none⟩ u) b a len cap :=
  (((h.box 0 x hn).box 1 y hn).box 2 z hn).box 3 u hn
theorem Bx.four {w : World} {n m : Nat} {T : TypeId} {vs : Array Value} (h : Bx w n T vs) (hn : n ≠ m) (x y z u : Value) : Bx ((((w.setCell ⟨m, 0, none⟩ x).setCell ⟨m, 1, none⟩ y).setCell ⟨m, 2, none⟩ z).setCell ⟨m, 3, none⟩ u) n T vs :=
  (((h.other ⟨m, 0, none⟩ x hn).other ⟨m, 1, none⟩ y hn).other ⟨m, 2, none⟩ z hn).other ⟨m, 3, none⟩ u hn
theorem Bx.all4 {w : World} {n : Nat} {T : TypeId} {a b c d : Value} (h : Bx w n T #[a, b, c, d]) (x y z u : Value) : Bx ((((w.setCell ⟨n, 0, none⟩ x).setCell ⟨n, 1, none⟩ y).setCell ⟨n, 2, none⟩ z).setCell ⟨n, 3, none⟩ u) n T #[x, y, z, u] :=
  (((h.set (j := 0) x).set (j := 1) y).set (j := 2) z).set (j := 3) u
theorem Bx.cf4 {w : World} {n : Nat} {T : TypeId} {a b c d : Value} (h : Bx w n T #[a, b, c, d]) : (w.cell? ⟨n, 0, none⟩ = some a ∧ w.cell? ⟨n, 1, none⟩ = some b ∧ w.cell? ⟨n, 2, none⟩ = some c ∧ w.cell? ⟨n, 3, none⟩ = some d) ∧ (w.frozen? ⟨n, 0, none⟩ = false ∧ w.frozen? ⟨n, 1, none⟩ = false ∧ w.frozen? ⟨n, 2, none⟩ = false ∧ w.frozen? ⟨n, 3, none⟩ = false) :=
  ⟨⟨h.cell 0, h.cell 1, h.cell 2, h.cell 3⟩, h.frozen 0, h.frozen 1, h.frozen 2, h.frozen 3⟩
/-- The state of a draw of a step: the answer's box m0, the step's box n, the source. -/
structure XSt (b : Nat) (a : Option Addr) (len cap : Nat) (w : World) (m0 n : Nat) (x : stpT) (wr : World) : Prop where
  ans : Bx wr m0 33 #[.int .i64 0, .int .i64 0, .int .i64 0, .string { data := #[] }]
  box : Bx wr n 33 #[.int .i64 x.1, .int .i64 x.2.1, .int .i64 x.2.2.1, .string x.2.2.2]
  src : Src wr b a len cap
  kept : Kept b w wr
  m0b : m0 ≠ b
  nb : n ≠ b
  mn : m0 ≠ n
  lo : w.heap.size ≤ m0
  ln : w.heap.size ≤ n
section
variable {b : Nat} {a : Option Addr} {len cap : Nat} {w : World} {m0 n : Nat} {x : stpT} {w1 w2 : World}
theorem XSt.keep (h : XSt b a len cap w m0 n x w1) (hk : Kept b w1 w2) (hs : Src w2 b a len cap) : XSt b a len cap w m0 n x w2 :=
  ⟨h.ans.kept hk h.m0b, h.box.kept hk h.nb, hs, h.kept.trans hk, h.m0b, h.nb, h.mn, h.lo, h.ln⟩
theorem XSt.next (h : XSt b a len cap w m0 n x w1) (hb : Below w1.heap.size w1 w2) : XSt b a len cap w m0 n x w2 := h.keep (below_kept hb) (h.src.below hb)
theorem XSt.set0 (h : XSt b a len cap w m0 n x w1) (v : Int) : XSt b a len cap w m0 n (v, x.2.1, x.2.2.1, x.2.2.2) (w1.setCell ⟨n, 0, none⟩ (.int .i64 v)) :=
  ⟨h.ans.other ⟨n, 0, none⟩ _ h.mn, h.box.set (j := 0) _, h.src.box 0 _ (Ne.symm h.nb), h.kept.box 0 _ h.ln, h.m0b, h.nb, h.mn, h.lo, h.ln⟩
theorem XSt.set1 (h : XSt b a len cap w m0 n x w1) (v : Int) : XSt b a len cap w m0 n (x.1, v, x.2.2.1, x.2.2.2) (w1.setCell ⟨n, 1, none⟩ (.int .i64 v)) :=
  ⟨h.ans.other ⟨n, 1, none⟩ _ h.mn, h.box.set (j := 1) _, h.src.box 1 _ (Ne.symm h.nb), h.kept.box 1 _ h.ln, h.m0b, h.nb, h.mn, h.lo, h.ln⟩
theorem XSt.set2 (h : XSt b a len cap w m0 n x w1) (v : Int) : XSt b a len cap w m0 n (x.1, x.2.1, v, x.2.2.2) (w1.setCell ⟨n, 2, none⟩ (.int .i64 v)) :=
  ⟨h.ans.other ⟨n, 2, none⟩ _ h.mn, h.box.set (j := 2) _, h.src.box 2 _ (Ne.symm h.nb), h.kept.box 2 _ h.ln, h.m0b, h.nb, h.mn, h.lo, h.ln⟩
theorem XSt.set3 (h : XSt b a len cap w m0 n x w1) (v : ByteArray) : XSt b a len cap w m0 n (x.1, x.2.1, x.2.2.1, v) (w1.setCell ⟨n, 3, none⟩ (.string v)) :=
  ⟨h.ans.other ⟨n, 3, none⟩ _ h.mn, h.box.set (j := 3) _, h.src.box 3 _ (Ne.symm h.nb), h.kept.box 3 _ h.ln, h.m0b, h.nb, h.mn, h.lo, h.ln⟩
theorem XSt.all (h : XSt b a len cap w m0 n x w1) (y : stpT) : XSt b a len cap w m0 n y ((((w1.setCell ⟨n, 0, none⟩ (.int .i64 y.1)).setCell ⟨n, 1, none⟩ (.int .i64 y.2.1)).setCell ⟨n, 2, none⟩ (.int .i64 y.2.2.1)).setCell ⟨n, 3, none⟩ (.string y.2.2.2)) :=
  ⟨h.ans.four h.mn _ _ _ _, h.box.all4 _ _ _ _, h.src.four (Ne.symm h.nb) _ _ _ _, h.kept.four h.ln _ _ _ _, h.m0b, h.nb, h.mn, h.lo, h.ln⟩
/-- The answer stored. -/
theorem XSt.fin (h : XSt b a len cap w m0 n x w1) (p q r s : Value) : Src ((((w1.setCell ⟨m0, 0, none⟩ p).setCell ⟨m0, 1, none⟩ q).setCell ⟨m0, 2, none⟩ r).setCell ⟨m0, 3, none⟩ s) b a len cap ∧ Kept b w ((((w1.setCell ⟨m0, 0, none⟩ p).setCell ⟨m0, 1, none⟩ q).setCell ⟨m0, 2, none⟩ r).setCell ⟨m0, 3, none⟩ s) :=
  ⟨h.src.four (Ne.symm h.m0b) _ _ _ _, h.kept.four h.lo _ _ _ _⟩
end


set_option maxRecDepth 100000 in
set_option maxHeartbeats 4000000 in
theorem step_any (b : Nat) (a : Option Addr) (len cap : Nat) (w : World) (hS : Src w b a len cap) (hR : Row w a len b) :
    Calls Tryd.prog 36 #[.pointer (some ⟨b, 0, none⟩), .int .i64 4] w (DrawnX b a len cap w) := by
  have hbl := hS.lt
  have Z := #[Value.int .i64 0, Value.int .i64 0, Value.int .i64 0, Value.string { data := #[] }]
  have Y0 := Lib.hid (bx_new w 33 #[.int .i64 0, .int .i64 0, .int .i64 0, .string { data := #[] }])
  have K0 := Lib.hid ((Kept.refl b w).alloc (.cells #[.int .i64 0, .int .i64 0, .int .i64 0, .string { data := #[] }] 33))
  have S0 := Lib.hid (hS.below (below_alloc1 w (.cells #[.int .i64 0, .int .i64 0, .int .i64 0, .string { data := #[] }] 33)))
  have z0 := size_alloc1 w (.cells #[.int .i64 0, .int .i64 0, .int .i64 0, .string { data := #[] }] 33)
  have HR := Lib.hid hR
  clear hS hR Z
  go_enter Tryd.func36, Tryd.ntmps36
  go_wp2_with fail
  generalize w.alloc (.cells #[.int .i64 0, .int .i64 0, .int .i64 0, .string { data := #[] }] 33) = W0 at *
  refine (n_any b a len cap 4 W0 S0.out (HR.out.kept K0.out) (by omega) (by omega)).mono ?_
  rintro e w1 ⟨y, ⟨hy0, hy1⟩, rfl, hs1, hk1⟩
  have Y1 := Lib.hid (Y0.out.kept hk1 (by omega))
  have K1 := Lib.hid (K0.out.trans hk1)
  have S1 := Lib.hid hs1
  have g1 : W0.heap.size ≤ w1.heap.size := hk1.size
  clear hs1 hk1 Y0 S0 K0
  have m0 : wrap64 (1 + y) = 1 + y := IntWalk.wrap64_in _ (by omega)
  have m1 : IntKind.i64.wrap (1 + y) = 1 + y := IntWalk.i64_in _ (by omega)
  go_wp2_with fail
  refine (n_any b a len cap 4 w1 S1.out (HR.out.kept K1.out) (by omega) (by omega)).mono ?_
  rintro e w2 ⟨t, ⟨ht0, ht1⟩, rfl, hs2, hk2⟩
  have g2 : w1.heap.size ≤ w2.heap.size := hk2.size
  have ST2 := Lib.hid (show XSt b a len cap w w.heap.size w2.heap.size (1 + y, t, 0, ⟨#[]⟩) (w2.alloc (.cells #[.int .i64 (1 + y), .int .i64 t, .int .i64 0, .string { data := #[] }] 33)) from
    ⟨(Y1.out.kept hk2 (by omega)).next (below_alloc1 w2 _), bx_new w2 _ _, hs2.below (below_alloc1 w2 _), (K1.out.trans hk2).alloc _, by omega, by omega, by omega, Nat.le_refl _, by omega⟩)
  clear hs2 hk2 Y1 K1 S1 m0 m1
  have hy : y = 0 ∨ y = 1 ∨ y = 2 ∨ y = 3 := by omega
  rcases hy with rfl | rfl | rfl | rfl
  · replace ST2 : Hid (XSt b a len cap w w.heap.size w2.heap.size (1, t, 0, ⟨#[]⟩) (w2.alloc (.cells #[.int .i64 1, .int .i64 t, .int .i64 0, .string { data := #[] }] 33))) := ST2
    obtain ⟨⟨r0, r1, r2, r3⟩, s0, s1, s2, s3⟩ := ST2.out.ans.cf4
    obtain ⟨⟨q0, q1, q2, q3⟩, t0, t1, t2, t3⟩ := ST2.out.box.cf4
    go_wp2_with fail
    refine bodyPost_ret (v := stpV (1, t, 0, ⟨#[]⟩)) (by simp [stpV, results, Tryd.results36, go_sem, r0, r1, r2, r3]) rfl ⟨(1, t, 0, ⟨#[]⟩), Nat.zero_le _, rfl, ?_⟩
    exact ST2.out.fin _ _ _ _
  · obtain ⟨⟨q0, q1, q2, q3⟩, t0, t1, t2, t3⟩ := ST2.out.box.cf4
    go_wp2_with fail
    clear q0 q1 q2 q3 t0 t1 t2 t3
    have d0 := ST2.out.box.cf4.2.2.2.2
    refine (data_any b a len cap _ ST2.out.src (HR.out.kept ST2.out.kept)).mono ?_
    rintro e w4 ⟨d, hd, rfl, hs4, hk4⟩
    have ST4 := Lib.hid (ST2.out.keep hk4 hs4)
    obtain ⟨⟨q0, q1, q2, q3⟩, t0, t1, t2, t3⟩ := ST4.out.box.cf4
    have ST4' := Lib.hid (ST4.out.set3 d)
    clear hs4 hk4 d0
    obtain ⟨⟨r0, r1, r2, r3⟩, s0, s1, s2, s3⟩ := ST4'.out.ans.cf4
    obtain ⟨⟨u0, u1, u2, u3⟩, v0, v1, v2, v3⟩ := ST4'.out.box.cf4
    go_wp2_with fail
    refine bodyPost_ret (v := stpV (2, t, 0, d)) (by simp [stpV, results, Tryd.results36, go_sem, r0, r1, r2, r3]) rfl ⟨(2, t, 0, d), hd, rfl, ?_⟩
    exact ST4'.out.fin _ _ _ _
  · obtain ⟨⟨q0, q1, q2, q3⟩, t0, t1, t2, t3⟩ := ST2.out.box.cf4
    go_wp2_with fail
    clear q0 q1 q2 q3 t0 t1 t2 t3
    refine (n_any b a len cap 4 _ ST2.out.src (HR.out.kept ST2.out.kept) (by omega) (by omega)).mono ?_
    rintro e w3 ⟨f, ⟨hf0, hf1⟩, rfl, hs3, hk3⟩
    have ST3 := Lib.hid (ST2.out.keep hk3 hs3)
    obtain ⟨⟨q0, q1, q2, q3⟩, t0, t1, t2, t3⟩ := ST3.out.box.cf4
    have ST4 := Lib.hid (ST3.out.set2 f)
    obtain ⟨⟨u0, u1, u2, u3⟩, v0, v1, v2, v3⟩ := ST4.out.box.cf4
    clear hs3 hk3
    obtain ⟨⟨r0, r1, r2, r3⟩, s0, s1, s2, s3⟩ := ST4.out.ans.cf4
    go_wp2_with fail
    refine bodyPost_ret (v := stpV (3, t, f, ⟨#[]⟩)) (by simp [stpV, results, Tryd.results36, go_sem, r0, r1, r2, r3]) rfl ⟨(3, t, f, ⟨#[]⟩), Nat.zero_le _, rfl, ?_⟩
    exact ST4.out.fin _ _ _ _
  · obtain ⟨⟨q0, q1, q2, q3⟩, t0, t1, t2, t3⟩ := ST2.out.box.cf4
    go_wp2_with fail
    clear q0 q1 q2 q3 t0 t1 t2 t3
    refine (n_any b a len cap 4 _ ST2.out.src (HR.out.kept ST2.out.kept) (by omega) (by omega)).mono ?_
    rintro e w3 ⟨f, ⟨hf0, hf1⟩, rfl, hs3, hk3⟩
    have ST3 := Lib.hid (ST2.out.keep hk3 hs3)
    obtain ⟨⟨q0, q1, q2, q3⟩, t0, t1, t2, t3⟩ := ST3.out.box.cf4
    have ST4 := Lib.hid (ST3.out.set2 f)
    obtain ⟨⟨u0, u1, u2, u3⟩, v0, v1, v2, v3⟩ := ST4.out.box.cf4
    clear hs3 hk3
    go_wp2_with fail
    clear q0 q1 q2 q3 t0 t1 t2 t3 u0 u1 u2 u3 v0 v1 v2 v3
    have d0 := ST4.out.box.cf4.2.2.2.2
    refine (data_any b a len cap _ ST4.out.src (HR.out.kept ST4.out.kept)).mono ?_
    rintro e w4 ⟨d, hd, rfl, hs4, hk4⟩
    have ST5 := Lib.hid (ST4.out.keep hk4 hs4)
    obtain ⟨⟨q0, q1, q2, q3⟩, t0, t1, t2, t3⟩ := ST5.out.box.cf4
    have ST5' := Lib.hid (ST5.out.set3 d)
    clear hs4 hk4 d0
    obtain ⟨⟨r0, r1, r2, r3⟩, s0, s1, s2, s3⟩ := ST5'.out.ans.cf4
    obtain ⟨⟨u0, u1, u2, u3⟩, v0, v1, v2, v3⟩ := ST5'.out.box.cf4
    go_wp2_with fail
    refine bodyPost_ret (v := stpV (4, t, f, d)) (by simp [stpV, results, Tryd.results36, go_sem, r0, r1, r2, r3]) rfl ⟨(4, t, f, d), hd, rfl, ?_⟩
    exact ST5'.out.fin _ _ _ _
end Go.Proofs.YtgiiclkjffdjgaaDoor

namespace Go.Proofs.YtgiiclkjffdjgaaDoor
open Go.RowKit

theorem ints3 (x0 x1 x2 : Int) (j : Nat) (h : j < 3) : ∃ z : Int, (#[Value.int .i64 x0, .int .i64 x1, .int .i64 x2])[j]? = some (.int .i64 z) := by
  match j, h with
  | 0, _ => exact ⟨_, rfl⟩
  | 1, _ => exact ⟨_, rfl⟩
  | 2, _ => exact ⟨_, rfl⟩
theorem ints5 (x0 x1 x2 x3 x4 : Int) (j : Nat) (h : j < 5) : ∃ z : Int, (#[Value.int .i64 x0, .int .i64 x1, .int .i64 x2, .int .i64 x3, .int .i64 x4])[j]? = some (.int .i64 z) := by
  match j, h with
  | 0, _ => exact ⟨_, rfl⟩
  | 1, _ => exact ⟨_, rfl⟩
  | 2, _ => exact ⟨_, rfl⟩
  | 3, _ => exact ⟨_, rfl⟩
  | 4, _ => exact ⟨_, rfl⟩
theorem ints7 (x0 x1 x2 x3 x4 x5 x6 : Int) (j : Nat) (h : j < 7) : ∃ z : Int, (#[Value.int .i64 x0, .int .i64 x1, .int .i64 x2, .int .i64 x3, .int .i64 x4, .int .i64 x5, .int .i64 x6])[j]? = some (.int .i64 z) := by
  match j, h with
  | 0, _ => exact ⟨_, rfl⟩
  | 1, _ => exact ⟨_, rfl⟩
  | 2, _ => exact ⟨_, rfl⟩
  | 3, _ => exact ⟨_, rfl⟩
  | 4, _ => exact ⟨_, rfl⟩
  | 5, _ => exact ⟨_, rfl⟩
  | 6, _ => exact ⟨_, rfl⟩

set_option maxRecDepth 100000 in
set_option maxHeartbeats 4000000 in
theorem any_any (b : Nat) (a : Option Addr) (len cap : Nat) (w : World) (hS : Src w b a len cap) (hR : Row w a len b) :
    Calls Tryd.prog 35 #[.pointer (some ⟨b, 0, none⟩)] w (DrawnX b a len cap w) := by
  have hbl := hS.lt
  have Y0 := Lib.hid (bx_new w 33 #[.int .i64 0, .int .i64 0, .int .i64 0, .string { data := #[] }])
  have K0 := Lib.hid ((Kept.refl b w).alloc (.cells #[.int .i64 0, .int .i64 0, .int .i64 0, .string { data := #[] }] 33))
  have S0 := Lib.hid (hS.below (below_alloc1 w (.cells #[.int .i64 0, .int .i64 0, .int .i64 0, .string { data := #[] }] 33)))
  have z0 := size_alloc1 w (.cells #[.int .i64 0, .int .i64 0, .int .i64 0, .string { data := #[] }] 33)
  have HR := Lib.hid hR
  clear hS hR
  go_enter Tryd.func35, Tryd.ntmps35
  go_wp2_with fail
  generalize w.alloc (.cells #[.int .i64 0, .int .i64 0, .int .i64 0, .string { data := #[] }] 33) = W0 at *
  refine (step_any b a len cap W0 S0.out (HR.out.kept K0.out)).mono ?_
  rintro e w1 ⟨x, hx, rfl, hs1, hk1⟩
  have g1 : W0.heap.size ≤ w1.heap.size := hk1.size
  unfold stpV
  have ST1 := Lib.hid (show XSt b a len cap w w.heap.size w1.heap.size x (w1.alloc (.cells #[.int .i64 x.1, .int .i64 x.2.1, .int .i64 x.2.2.1, .string x.2.2.2] 33)) from
    ⟨(Y0.out.kept hk1 (by omega)).next (below_alloc1 w1 _), bx_new w1 _ _, hs1.below (below_alloc1 w1 _), (K0.out.trans hk1).alloc _, by omega, by omega, by omega, Nat.le_refl _, by omega⟩)
  clear hs1 hk1 Y0 K0 S0
  go_wp2_with fail
  generalize w1.alloc (.cells #[.int .i64 x.1, .int .i64 x.2.1, .int .i64 x.2.2.1, .string x.2.2.2] 33) = W1 at *
  generalize w1.heap.size = n at *
  refine (one_any b a len cap 6 W1 ST1.out.src (HR.out.kept ST1.out.kept) (by omega) (by omega)).mono ?_
  rintro e w2 ⟨bb, rfl, hs2, hk2⟩
  have ST2 := Lib.hid (ST1.out.keep hk2 hs2)
  clear hs2 hk2 ST1
  cases bb with
  | false =>
    go_wp2_with fail
    refine (one_any b a len cap 10 _ ST2.out.src (HR.out.kept ST2.out.kept) (by omega) (by omega)).mono ?_
    rintro e w4 ⟨cc, rfl, hs4, hk4⟩
    have T4 := Lib.hid (ST2.out.keep hk4 hs4)
    clear hs4 hk4 ST2
    cases cc with
    | false =>
      obtain ⟨⟨r0, r1, r2, r3⟩, s0, s1, s2, s3⟩ := T4.out.ans.cf4
      obtain ⟨⟨u0, u1, u2, u3⟩, v0, v1, v2, v3⟩ := T4.out.box.cf4
      go_wp2_with fail
      refine bodyPost_ret (v := stpV (x.1, x.2.1, x.2.2.1, x.2.2.2)) (by simp [stpV, results, Tryd.results35, go_sem, r0, r1, r2, r3]) rfl ⟨(x.1, x.2.1, x.2.2.1, x.2.2.2), hx, rfl, ?_⟩
      exact T4.out.fin _ _ _ _
    | true =>
      go_wp2_with fail
      refine (n_any b a len cap 5 _ T4.out.src (HR.out.kept T4.out.kept) (by omega) (by omega)).mono ?_
      rintro e w5 ⟨y, ⟨hy0, hy1⟩, rfl, hs5, hk5⟩
      have T5 := Lib.hid (T4.out.keep hk5 hs5)
      clear hs5 hk5 T4
      have hy : y = 0 ∨ y = 1 ∨ y = 2 ∨ y = 3 ∨ y = 4 := by omega
      clear hy0 hy1
      rcases hy with rfl | rfl | rfl | rfl | rfl
      · go_wp2_with fail
        refine (n_any b a len cap 7 _ T5.out.src (HR.out.kept T5.out.kept) (by omega) (by omega)).mono ?_
        rintro e w6 ⟨z, -, rfl, hs6, hk6⟩
        have T6 := Lib.hid (T5.out.keep hk6 hs6)
        obtain ⟨⟨q0, q1, q2, q3⟩, t0, t1, t2, t3⟩ := T6.out.box.cf4
        have T7 := Lib.hid (T6.out.set0 z)
        clear hs6 hk6
        obtain ⟨⟨r0, r1, r2, r3⟩, s0, s1, s2, s3⟩ := T7.out.ans.cf4
        obtain ⟨⟨u0, u1, u2, u3⟩, v0, v1, v2, v3⟩ := T7.out.box.cf4
        go_wp2_with fail
        refine bodyPost_ret (v := stpV (z, x.2.1, x.2.2.1, x.2.2.2)) (by simp [stpV, results, Tryd.results35, go_sem, r0, r1, r2, r3]) rfl ⟨(z, x.2.1, x.2.2.1, x.2.2.2), hx, rfl, ?_⟩
        exact T7.out.fin _ _ _ _
      · have T6 := Lib.hid (T5.out.next (below_alloc1 w5 (.cells #[.int .i64 (-1), .int .i64 7, .int .i64 8] 2)))
        have BX := Lib.hid (bx_new w5 2 #[.int .i64 (-1), .int .i64 7, .int .i64 8])
        have hgb : w5.heap.size ≠ b := by have := T5.out.src.lt; omega
        go_wp2_with fail
        generalize w5.alloc (.cells #[.int .i64 (-1), .int .i64 7, .int .i64 8] 2) = W6 at *
        generalize w5.heap.size = g5 at *
        refine (n_any b a len cap 3 _ T6.out.src (HR.out.kept T6.out.kept) (by omega) (by omega)).mono ?_
        rintro e w7 ⟨v, ⟨hv0, hv1⟩, rfl, hs7, hk7⟩
        obtain ⟨j, rfl⟩ := Int.eq_ofNat_of_zero_le hv0
        obtain ⟨zz, hzz⟩ := ints3 (-1) (7) (8) j (by omega)
        have hcell := (BX.out.kept hk7 hgb).cell j
        rw [hzz] at hcell
        have T7 := Lib.hid (T6.out.keep hk7 hs7)
        obtain ⟨⟨q0, q1, q2, q3⟩, t0, t1, t2, t3⟩ := T7.out.box.cf4
        have T8 := Lib.hid (T7.out.set1 zz)
        clear hs7 hk7 hzz BX
        obtain ⟨⟨r0, r1, r2, r3⟩, s0, s1, s2, s3⟩ := T8.out.ans.cf4
        obtain ⟨⟨u0, u1, u2, u3⟩, v0, v1, v2, v3⟩ := T8.out.box.cf4
        go_wp2_with fail
        refine bodyPost_ret (v := stpV (x.1, zz, x.2.2.1, x.2.2.2)) (by simp [stpV, results, Tryd.results35, go_sem, r0, r1, r2, r3]) rfl ⟨(x.1, zz, x.2.2.1, x.2.2.2), hx, rfl, ?_⟩
        exact T8.out.fin _ _ _ _
      · have T6 := Lib.hid (T5.out.next (below_alloc1 w5 (.cells #[.int .i64 (-1), .int .i64 7, .int .i64 8, .int .i64 1000000, .int .i64 1000001] 2)))
        have BX := Lib.hid (bx_new w5 2 #[.int .i64 (-1), .int .i64 7, .int .i64 8, .int .i64 1000000, .int .i64 1000001])
        have hgb : w5.heap.size ≠ b := by have := T5.out.src.lt; omega
        go_wp2_with fail
        generalize w5.alloc (.cells #[.int .i64 (-1), .int .i64 7, .int .i64 8, .int .i64 1000000, .int .i64 1000001] 2) = W6 at *
        generalize w5.heap.size = g5 at *
        refine (n_any b a len cap 5 _ T6.out.src (HR.out.kept T6.out.kept) (by omega) (by omega)).mono ?_
        rintro e w7 ⟨v, ⟨hv0, hv1⟩, rfl, hs7, hk7⟩
        obtain ⟨j, rfl⟩ := Int.eq_ofNat_of_zero_le hv0
        obtain ⟨zz, hzz⟩ := ints5 (-1) (7) (8) (1000000) (1000001) j (by omega)
        have hcell := (BX.out.kept hk7 hgb).cell j
        rw [hzz] at hcell
        have T7 := Lib.hid (T6.out.keep hk7 hs7)
        obtain ⟨⟨q0, q1, q2, q3⟩, t0, t1, t2, t3⟩ := T7.out.box.cf4
        have T8 := Lib.hid (T7.out.set2 zz)
        clear hs7 hk7 hzz BX
        obtain ⟨⟨r0, r1, r2, r3⟩, s0, s1, s2, s3⟩ := T8.out.ans.cf4
        obtain ⟨⟨u0, u1, u2, u3⟩, v0, v1, v2, v3⟩ := T8.out.box.cf4
        go_wp2_with fail
        refine bodyPost_ret (v := stpV (x.1, x.2.1, zz, x.2.2.2)) (by simp [stpV, results, Tryd.results35, go_sem, r0, r1, r2, r3]) rfl ⟨(x.1, x.2.1, zz, x.2.2.2), hx, rfl, ?_⟩
        exact T8.out.fin _ _ _ _
      · go_wp2_with fail
        refine (n_any b a len cap 3 _ T5.out.src (HR.out.kept T5.out.kept) (by omega) (by omega)).mono ?_
        rintro e w6 ⟨v, ⟨hv0, hv1⟩, rfl, hs6, hk6⟩
        obtain ⟨j, rfl⟩ := Int.eq_ofNat_of_zero_le hv0
        have T6 := Lib.hid (T5.out.keep hk6 hs6)
        have hw : wrap64 (7 + (j : Int)) = ((7 + j : Nat) : Int) := by rw [IntWalk.wrap64_in _ (by omega)]; omega
        clear hs6 hk6
        go_wp2_with fail
        refine (bytes_any b a len cap (7 + j) _ T6.out.src (HR.out.kept T6.out.kept) (by omega)).mono ?_
        rintro e w7 ⟨d, hd, rfl, hs7, hk7⟩
        have T7 := Lib.hid (T6.out.keep hk7 hs7)
        obtain ⟨⟨q0, q1, q2, q3⟩, t0, t1, t2, t3⟩ := T7.out.box.cf4
        have T8 := Lib.hid (T7.out.set3 d)
        clear hs7 hk7 hw
        obtain ⟨⟨r0, r1, r2, r3⟩, s0, s1, s2, s3⟩ := T8.out.ans.cf4
        obtain ⟨⟨u0, u1, u2, u3⟩, v0, v1, v2, v3⟩ := T8.out.box.cf4
        go_wp2_with fail
        refine bodyPost_ret (v := stpV (x.1, x.2.1, x.2.2.1, d)) (by simp [stpV, results, Tryd.results35, go_sem, r0, r1, r2, r3]) rfl ⟨(x.1, x.2.1, x.2.2.1, d), by simp only; omega, rfl, ?_⟩
        exact T8.out.fin _ _ _ _
      · obtain ⟨⟨q0, q1, q2, q3⟩, t0, t1, t2, t3⟩ := T5.out.box.cf4
        have T8 := Lib.hid (T5.out.set3 ⟨#[]⟩)
        obtain ⟨⟨r0, r1, r2, r3⟩, s0, s1, s2, s3⟩ := T8.out.ans.cf4
        obtain ⟨⟨u0, u1, u2, u3⟩, v0, v1, v2, v3⟩ := T8.out.box.cf4
        go_wp2_with fail
        refine bodyPost_ret (v := stpV (x.1, x.2.1, x.2.2.1, ⟨#[]⟩)) (by simp [stpV, results, Tryd.results35, go_sem, r0, r1, r2, r3]) rfl ⟨(x.1, x.2.1, x.2.2.1, ⟨#[]⟩), Nat.zero_le _, rfl, ?_⟩
        exact T8.out.fin _ _ _ _
  | true =>
    go_wp2_with fail
    refine (n_any b a len cap 9 _ ST2.out.src (HR.out.kept ST2.out.kept) (by omega) (by omega)).mono ?_
    rintro e w3 ⟨f, -, rfl, hs3, hk3⟩
    have ST3 := Lib.hid (ST2.out.keep hk3 hs3)
    obtain ⟨⟨q0, q1, q2, q3⟩, t0, t1, t2, t3⟩ := ST3.out.box.cf4
    have ST4 := Lib.hid (ST3.out.all (5, 0, f, ⟨#[]⟩))
    clear hs3 hk3 ST2
    go_wp2_with fail
    clear q0 q1 q2 q3 t0 t1 t2 t3
    refine (one_any b a len cap 10 _ ST4.out.src (HR.out.kept ST4.out.kept) (by omega) (by omega)).mono ?_
    rintro e w4 ⟨cc, rfl, hs4, hk4⟩
    have T4 := Lib.hid (ST4.out.keep hk4 hs4)
    clear hs4 hk4 ST4
    cases cc with
    | false =>
      obtain ⟨⟨r0, r1, r2, r3⟩, s0, s1, s2, s3⟩ := T4.out.ans.cf4
      obtain ⟨⟨u0, u1, u2, u3⟩, v0, v1, v2, v3⟩ := T4.out.box.cf4
      go_wp2_with fail
      refine bodyPost_ret (v := stpV (5, 0, f, ⟨#[]⟩)) (by simp [stpV, results, Tryd.results35, go_sem, r0, r1, r2, r3]) rfl ⟨(5, 0, f, ⟨#[]⟩), Nat.zero_le _, rfl, ?_⟩
      exact T4.out.fin _ _ _ _
    | true =>
      go_wp2_with fail
      refine (n_any b a len cap 5 _ T4.out.src (HR.out.kept T4.out.kept) (by omega) (by omega)).mono ?_
      rintro e w5 ⟨y, ⟨hy0, hy1⟩, rfl, hs5, hk5⟩
      have T5 := Lib.hid (T4.out.keep hk5 hs5)
      clear hs5 hk5 T4
      have hy : y = 0 ∨ y = 1 ∨ y = 2 ∨ y = 3 ∨ y = 4 := by omega
      clear hy0 hy1
      rcases hy with rfl | rfl | rfl | rfl | rfl
      · go_wp2_with fail
        refine (n_any b a len cap 7 _ T5.out.src (HR.out.kept T5.out.kept) (by omega) (by omega)).mono ?_
        rintro e w6 ⟨z, -, rfl, hs6, hk6⟩
        have T6 := Lib.hid (T5.out.keep hk6 hs6)
        obtain ⟨⟨q0, q1, q2, q3⟩, t0, t1, t2, t3⟩ := T6.out.box.cf4
        have T7 := Lib.hid (T6.out.set0 z)
        clear hs6 hk6
        obtain ⟨⟨r0, r1, r2, r3⟩, s0, s1, s2, s3⟩ := T7.out.ans.cf4
        obtain ⟨⟨u0, u1, u2, u3⟩, v0, v1, v2, v3⟩ := T7.out.box.cf4
        go_wp2_with fail
        refine bodyPost_ret (v := stpV (z, 0, f, ⟨#[]⟩)) (by simp [stpV, results, Tryd.results35, go_sem, r0, r1, r2, r3]) rfl ⟨(z, 0, f, ⟨#[]⟩), Nat.zero_le _, rfl, ?_⟩
        exact T7.out.fin _ _ _ _
      · have T6 := Lib.hid (T5.out.next (below_alloc1 w5 (.cells #[.int .i64 (-1), .int .i64 7, .int .i64 8] 2)))
        have BX := Lib.hid (bx_new w5 2 #[.int .i64 (-1), .int .i64 7, .int .i64 8])
        have hgb : w5.heap.size ≠ b := by have := T5.out.src.lt; omega
        go_wp2_with fail
        generalize w5.alloc (.cells #[.int .i64 (-1), .int .i64 7, .int .i64 8] 2) = W6 at *
        generalize w5.heap.size = g5 at *
        refine (n_any b a len cap 3 _ T6.out.src (HR.out.kept T6.out.kept) (by omega) (by omega)).mono ?_
        rintro e w7 ⟨v, ⟨hv0, hv1⟩, rfl, hs7, hk7⟩
        obtain ⟨j, rfl⟩ := Int.eq_ofNat_of_zero_le hv0
        obtain ⟨zz, hzz⟩ := ints3 (-1) (7) (8) j (by omega)
        have hcell := (BX.out.kept hk7 hgb).cell j
        rw [hzz] at hcell
        have T7 := Lib.hid (T6.out.keep hk7 hs7)
        obtain ⟨⟨q0, q1, q2, q3⟩, t0, t1, t2, t3⟩ := T7.out.box.cf4
        have T8 := Lib.hid (T7.out.set1 zz)
        clear hs7 hk7 hzz BX
        obtain ⟨⟨r0, r1, r2, r3⟩, s0, s1, s2, s3⟩ := T8.out.ans.cf4
        obtain ⟨⟨u0, u1, u2, u3⟩, v0, v1, v2, v3⟩ := T8.out.box.cf4
        go_wp2_with fail
        refine bodyPost_ret (v := stpV (5, zz, f, ⟨#[]⟩)) (by simp [stpV, results, Tryd.results35, go_sem, r0, r1, r2, r3]) rfl ⟨(5, zz, f, ⟨#[]⟩), Nat.zero_le _, rfl, ?_⟩
        exact T8.out.fin _ _ _ _
      · have T6 := Lib.hid (T5.out.next (below_alloc1 w5 (.cells #[.int .i64 (-1), .int .i64 7, .int .i64 8, .int .i64 1000000, .int .i64 1000001] 2)))
        have BX := Lib.hid (bx_new w5 2 #[.int .i64 (-1), .int .i64 7, .int .i64 8, .int .i64 1000000, .int .i64 1000001])
        have hgb : w5.heap.size ≠ b := by have := T5.out.src.lt; omega
        go_wp2_with fail
        generalize w5.alloc (.cells #[.int .i64 (-1), .int .i64 7, .int .i64 8, .int .i64 1000000, .int .i64 1000001] 2) = W6 at *
        generalize w5.heap.size = g5 at *
        refine (n_any b a len cap 5 _ T6.out.src (HR.out.kept T6.out.kept) (by omega) (by omega)).mono ?_
        rintro e w7 ⟨v, ⟨hv0, hv1⟩, rfl, hs7, hk7⟩
        obtain ⟨j, rfl⟩ := Int.eq_ofNat_of_zero_le hv0
        obtain ⟨zz, hzz⟩ := ints5 (-1) (7) (8) (1000000) (1000001) j (by omega)
        have hcell := (BX.out.kept hk7 hgb).cell j
        rw [hzz] at hcell
        have T7 := Lib.hid (T6.out.keep hk7 hs7)
        obtain ⟨⟨q0, q1, q2, q3⟩, t0, t1, t2, t3⟩ := T7.out.box.cf4
        have T8 := Lib.hid (T7.out.set2 zz)
        clear hs7 hk7 hzz BX
        obtain ⟨⟨r0, r1, r2, r3⟩, s0, s1, s2, s3⟩ := T8.out.ans.cf4
        obtain ⟨⟨u0, u1, u2, u3⟩, v0, v1, v2, v3⟩ := T8.out.box.cf4
        go_wp2_with fail
        refine bodyPost_ret (v := stpV (5, 0, zz, ⟨#[]⟩)) (by simp [stpV, results, Tryd.results35, go_sem, r0, r1, r2, r3]) rfl ⟨(5, 0, zz, ⟨#[]⟩), Nat.zero_le _, rfl, ?_⟩
        exact T8.out.fin _ _ _ _
      · go_wp2_with fail
        refine (n_any b a len cap 3 _ T5.out.src (HR.out.kept T5.out.kept) (by omega) (by omega)).mono ?_
        rintro e w6 ⟨v, ⟨hv0, hv1⟩, rfl, hs6, hk6⟩
        obtain ⟨j, rfl⟩ := Int.eq_ofNat_of_zero_le hv0
        have T6 := Lib.hid (T5.out.keep hk6 hs6)
        have hw : wrap64 (7 + (j : Int)) = ((7 + j : Nat) : Int) := by rw [IntWalk.wrap64_in _ (by omega)]; omega
        clear hs6 hk6
        go_wp2_with fail
        refine (bytes_any b a len cap (7 + j) _ T6.out.src (HR.out.kept T6.out.kept) (by omega)).mono ?_
        rintro e w7 ⟨d, hd, rfl, hs7, hk7⟩
        have T7 := Lib.hid (T6.out.keep hk7 hs7)
        obtain ⟨⟨q0, q1, q2, q3⟩, t0, t1, t2, t3⟩ := T7.out.box.cf4
        have T8 := Lib.hid (T7.out.set3 d)
        clear hs7 hk7 hw
        obtain ⟨⟨r0, r1, r2, r3⟩, s0, s1, s2, s3⟩ := T8.out.ans.cf4
        obtain ⟨⟨u0, u1, u2, u3⟩, v0, v1, v2, v3⟩ := T8.out.box.cf4
        go_wp2_with fail
        refine bodyPost_ret (v := stpV (5, 0, f, d)) (by simp [stpV, results, Tryd.results35, go_sem, r0, r1, r2, r3]) rfl ⟨(5, 0, f, d), by simp only; omega, rfl, ?_⟩
        exact T8.out.fin _ _ _ _
      · obtain ⟨⟨q0, q1, q2, q3⟩, t0, t1, t2, t3⟩ := T5.out.box.cf4
        have T8 := Lib.hid (T5.out.set3 ⟨#[]⟩)
        obtain ⟨⟨r0, r1, r2, r3⟩, s0, s1, s2, s3⟩ := T8.out.ans.cf4
        obtain ⟨⟨u0, u1, u2, u3⟩, v0, v1, v2, v3⟩ := T8.out.box.cf4
        go_wp2_with fail
        refine bodyPost_ret (v := stpV (5, 0, f, ⟨#[]⟩)) (by simp [stpV, results, Tryd.results35, go_sem, r0, r1, r2, r3]) rfl ⟨(5, 0, f, ⟨#[]⟩), Nat.zero_le _, rfl, ?_⟩
        exact T8.out.fin _ _ _ _
end Go.Proofs.YtgiiclkjffdjgaaDoor

namespace Go.Proofs.YtgiiclkjffdjgaaDoor
open Go.RowKit

set_option maxRecDepth 100000 in
/-- A number below most, also where there is one alone. -/
theorem n_any1 (b : Nat) (a : Option Addr) (len cap : Nat) (most : Nat) (w : World) (hS : Src w b a len cap) (hR : Row w a len b) (h1 : 1 ≤ most) (h2 : most ≤ 1000000) :
    Calls Tryd.prog 34 #[.pointer (some ⟨b, 0, none⟩), .int .i64 (most : Int)] w fun e w' => ∃ j : Nat, j < most ∧ e = .returned (.int .i64 (j : Int)) ∧ Src w' b a len cap ∧ Kept b w w' := by
  by_cases h : most = 1
  · subst h
    have HS := Lib.hid hS
    clear hS hR
    go_enter Tryd.func34, Tryd.ntmps34
    go_wp2_with fail
    go_ret
    exact ⟨0, by omega, rfl, HS.out, Kept.refl _ _⟩
  · refine (n_any b a len cap (most : Int) w hS hR (by omega) (by omega)).mono ?_
    rintro e w1 ⟨v, ⟨h0, h1⟩, rfl, hs, hk⟩
    obtain ⟨j, rfl⟩ := Int.eq_ofNat_of_zero_le h0
    exact ⟨j, by omega, rfl, hs, hk⟩
theorem spoilByte (k : Nat) (h : k < 17) : ∃ z : UInt8, ∀ w : World, (Instr.index 9 (.string ⟨#[32, 10, 48, 97, 45, 110, 44, 58, 93, 255, 40, 120, 126, 49, 128, 225, 59]⟩) (.int .i64 (k : Int))).run Tryd.prog w = .ok (.int .u8 (z.toNat : Int)) w := by
  have : k = 0 ∨ k = 1 ∨ k = 2 ∨ k = 3 ∨ k = 4 ∨ k = 5 ∨ k = 6 ∨ k = 7 ∨ k = 8 ∨ k = 9 ∨ k = 10 ∨ k = 11 ∨ k = 12 ∨ k = 13 ∨ k = 14 ∨ k = 15 ∨ k = 16 := by omega
  rcases this with rfl | rfl | rfl | rfl | rfl | rfl | rfl | rfl | rfl | rfl | rfl | rfl | rfl | rfl | rfl | rfl | rfl
  · exact ⟨32, fun w => by kernel_rfl⟩
  · exact ⟨10, fun w => by kernel_rfl⟩
  · exact ⟨48, fun w => by kernel_rfl⟩
  · exact ⟨97, fun w => by kernel_rfl⟩
  · exact ⟨45, fun w => by kernel_rfl⟩
  · exact ⟨110, fun w => by kernel_rfl⟩
  · exact ⟨44, fun w => by kernel_rfl⟩
  · exact ⟨58, fun w => by kernel_rfl⟩
  · exact ⟨93, fun w => by kernel_rfl⟩
  · exact ⟨255, fun w => by kernel_rfl⟩
  · exact ⟨40, fun w => by kernel_rfl⟩
  · exact ⟨120, fun w => by kernel_rfl⟩
  · exact ⟨126, fun w => by kernel_rfl⟩
  · exact ⟨49, fun w => by kernel_rfl⟩
  · exact ⟨128, fun w => by kernel_rfl⟩
  · exact ⟨225, fun w => by kernel_rfl⟩
  · exact ⟨59, fun w => by kernel_rfl⟩
def DrawnT (b : Nat) (a : Option Addr) (len cap : Nat) (m : Nat) (w : World) (e : Ending) (w' : World) : Prop :=
  ∃ s : ByteArray, s.size ≤ m ∧ e = .returned (.string s) ∧ Src w' b a len cap ∧ Kept b w w'
end Go.Proofs.YtgiiclkjffdjgaaDoor

namespace Go.Proofs.YtgiiclkjffdjgaaDoor
open Go.RowKit

/-- Steps i and j write the same block. -/
def Pair (l : List stpT) (i j : Nat) : Prop := ∃ (hi : i < l.length) (hj : j < l.length), l[i].1 ≠ 5 ∧ l[j].1 ≠ 5 ∧ l[i].2.1 = l[j].2.1
def Twice (l : List stpT) : Prop := ∃ i j, j < i ∧ Pair l i j
/-- The number of the last label among the first k. -/
def lastT (l : List stpT) : Nat → Int
  | 0 => -1
  | k + 1 => if (l.getD k (0, 0, 0, ⟨#[]⟩)).1 = 5 then (l.getD k (0, 0, 0, ⟨#[]⟩)).2.2.1 else lastT l k
theorem lastT_yes {l : List stpT} {k : Nat} (h : k < l.length) (h5 : l[k].1 = 5) : lastT l (k + 1) = l[k].2.2.1 := by
  simp only [lastT, List.getD_eq_getElem?_getD, List.getElem?_eq_getElem h, Option.getD_some, h5, if_true]
theorem lastT_no {l : List stpT} {k : Nat} (h : k < l.length) (h5 : l[k].1 ≠ 5) : lastT l (k + 1) = lastT l k := by
  simp only [lastT, List.getD_eq_getElem?_getD, List.getElem?_eq_getElem h, Option.getD_some, h5, if_false]
/-- A label's number is no greater than that of the one ahead of it. -/
def LowAt (l : List stpT) (k : Nat) : Prop := ∃ h : k < l.length, l[k].1 = 5 ∧ l[k].2.2.1 ≤ lastT l k
def Low (l : List stpT) (n : Nat) : Prop := ∃ k, k < n ∧ LowAt l k
theorem Low.more {l : List stpT} {n : Nat} (h : Low l n) : Low l (n + 1) := by obtain ⟨k, h1, h2⟩ := h; exact ⟨k, by omega, h2⟩
theorem low_yes {l : List stpT} {n : Nat} (h : LowAt l n) : Low l (n + 1) := ⟨n, by omega, h⟩
theorem low_no {l : List stpT} {n : Nat} (h : ¬ LowAt l n) : Low l (n + 1) ↔ Low l n := by
  constructor
  · rintro ⟨k, h1, h2⟩
    by_cases hk : k = n
    · subst hk; exact absurd h2 h
    · exact ⟨k, by omega, h2⟩
  · exact Low.more
def wrongS (n : Int) (s : stpT) : Bool := !stepB n s.1 s.2.1 s.2.2.1 s.2.2.2
def FormBad (l : List stpT) (n : Int) : Prop := ¬ (1 ≤ n ∧ n ≤ 8) ∨ 20 < l.length ∨ ∃ s ∈ l, wrongS n s = true
open Classical in
noncomputable def codeS (l : List stpT) (n : Int) : Int := if FormBad l n then 1 else if Twice l then 12 else if Low l l.length then 8 else 0
theorem codeS_form {l : List stpT} {n : Int} (h : FormBad l n) : codeS l n = 1 := by unfold codeS; rw [if_pos h]
theorem codeS_twice {l : List stpT} {n : Int} (h : ¬ FormBad l n) (h2 : Twice l) : codeS l n = 12 := by unfold codeS; rw [if_neg h, if_pos h2]
theorem codeS_low {l : List stpT} {n : Int} (h : ¬ FormBad l n) (h2 : ¬ Twice l) (h3 : Low l l.length) : codeS l n = 8 := by unfold codeS; rw [if_neg h, if_neg h2, if_pos h3]
theorem codeS_ok {l : List stpT} {n : Int} (h : ¬ FormBad l n) (h2 : ¬ Twice l) (h3 : ¬ Low l l.length) : codeS l n = 0 := by unfold codeS; rw [if_neg h, if_neg h2, if_neg h3]
/-- No two of the first k write the same block. -/
def Apart (l : List stpT) (k : Nat) : Prop := ∀ i j, i < k → j < i → ¬ Pair l i j
theorem apart_all {l : List stpT} (h : Apart l l.length) : ¬ Twice l := by
  rintro ⟨i, j, hji, hp⟩
  exact h i j hp.1 hji hp
theorem Apart.next {l : List stpT} {k : Nat} (h : Apart l k) (hk : ∀ j, j < k → ¬ Pair l k j) : Apart l (k + 1) := by
  intro i j hi hj
  by_cases h' : i = k
  · subst h'; exact hk j hj
  · exact h i j (by omega) hj
/-- What one of the first k writes. -/
def Wrote (l : List stpT) (k : Nat) (b : Nat) : Prop := ∃ j, j < k ∧ ∃ h : j < l.length, l[j].1 ≠ 5 ∧ l[j].2.1 = (b : Int)
open Classical in
noncomputable def wroteB (l : List stpT) (k b : Nat) : Bool := decide (Wrote l k b)
theorem wroteB_iff (l : List stpT) (k b : Nat) : wroteB l k b = true ↔ Wrote l k b := by unfold wroteB; simp
theorem wroteB_zero (l : List stpT) (b : Nat) : wroteB l 0 b = false := by
  cases h : wroteB l 0 b with
  | false => rfl
  | true => obtain ⟨j, hj, _⟩ := (wroteB_iff ..).1 h; omega
theorem wroteB_label {l : List stpT} {k : Nat} (h : k < l.length) (h5 : l[k].1 = 5) (b : Nat) : wroteB l (k + 1) b = wroteB l k b := by
  rw [Bool.eq_iff_iff, wroteB_iff, wroteB_iff]
  constructor
  · rintro ⟨j, hj, hjl, h1, h2⟩
    by_cases h' : j = k
    · subst h'; exact absurd h5 h1
    · exact ⟨j, by omega, hjl, h1, h2⟩
  · rintro ⟨j, hj, r⟩; exact ⟨j, by omega, r⟩
theorem wroteB_same {l : List stpT} {k : Nat} (h : k < l.length) (h5 : l[k].1 ≠ 5) {b : Nat} (hb : l[k].2.1 = (b : Int)) : wroteB l (k + 1) b = true := (wroteB_iff ..).2 ⟨k, by omega, h, h5, hb⟩
theorem wroteB_other {l : List stpT} {k : Nat} (h : k < l.length) {b c : Nat} (hb : l[k].2.1 = (b : Int)) (hc : c ≠ b) : wroteB l (k + 1) c = wroteB l k c := by
  rw [Bool.eq_iff_iff, wroteB_iff, wroteB_iff]
  constructor
  · rintro ⟨j, hj, hjl, h1, h2⟩
    by_cases h' : j = k
    · subst h'; rw [hb] at h2; exact absurd (by omega) hc
    · exact ⟨j, by omega, hjl, h1, h2⟩
  · rintro ⟨j, hj, r⟩; exact ⟨j, by omega, r⟩
theorem wrote_pair {l : List stpT} {k : Nat} (h : k < l.length) (h5 : l[k].1 ≠ 5) {b : Nat} (hb : l[k].2.1 = (b : Int)) (hw : wroteB l k b = true) : Twice l := by
  obtain ⟨j, hj, hjl, h1, h2⟩ := (wroteB_iff ..).1 hw
  exact ⟨k, j, hj, h, hjl, h5, h1, by rw [hb, h2]⟩
theorem wrote_apart {l : List stpT} {k : Nat} (h : k < l.length) {b : Nat} (hb : l[k].2.1 = (b : Int)) (hw : wroteB l k b = false) : ∀ j, j < k → ¬ Pair l k j := by
  rintro j hj ⟨_, hjl, h5, h1, h2⟩
  have : wroteB l k b = true := (wroteB_iff ..).2 ⟨j, hj, hjl, h1, by rw [← h2, hb]⟩
  rw [this] at hw; cases hw
end Go.Proofs.YtgiiclkjffdjgaaDoor

namespace Go.Proofs.YtgiiclkjffdjgaaDoor
open Go.RowKit

def ScR1 (l : List stpT) (n : Int) (w : World) (i : Value) (wr : World) : Prop := ∃ k : Nat, k ≤ l.length ∧ i = .int .i64 k ∧ (∀ j (h : j < l.length), j < k → wrongS n l[j] = false) ∧ Below w.heap.size w wr
def ScR2 (l : List stpT) (W : World) (i : Value) (wr : World) : Prop := ∃ k : Nat, k ≤ l.length ∧ i = .int .i64 k ∧ Apart l k ∧ Still W wr
def ScR3 (l : List stpT) (k : Nat) (W : World) (i : Value) (wr : World) : Prop := ∃ m : Nat, m ≤ k ∧ i = .int .i64 m ∧ (∀ j, j < m → ¬ Pair l k j) ∧ Still W wr
def ScR4 (l : List stpT) (W : World) (x i : Value) (wr : World) : Prop := ∃ k : Nat, k ≤ l.length ∧ i = .int .i64 k ∧ x = .int .i64 (lastT l k) ∧ ¬ Low l k ∧ Still W wr

set_option maxRecDepth 100000 in
set_option maxHeartbeats 4000000 in
theorem specCode (v : Value) (l : List stpT) (n : Int) (w : World) (h : Rd w v l.length 4 (stpCs l)) (hn : l.length ≤ 1048576) :
    Calls Tryd.prog 39 #[v, .int .i64 n] w fun e w' => e = .returned (.int .i64 (codeS l n)) ∧ Below w.heap.size w w' := by
  obtain ⟨R, hR⟩ : ∃ R, R = codeS l n := ⟨_, rfl⟩
  rw [← hR]
  have HR := Lib.hid hR
  clear hR
  obtain ⟨a, c, rfl, -⟩ := id h.2
  have HV := Lib.hid h
  clear h
  by_cases hbig : 20 < l.length
  · have hr : R = 1 := by rw [HR.out]; exact codeS_form (.inr (.inl hbig))
    subst hr
    clear HR
    go_enter Tryd.func39, Tryd.ntmps39
    go_wp2_with fail
    go_ret
    exact ⟨rfl, Below.refl _ _⟩
  have d0 : decide ((20 : Int) < (l.length : Int)) = false := decide_eq_false (by omega)
  by_cases hnn : 1 ≤ n ∧ n ≤ 8
  rotate_left
  · have hr : R = 1 := by rw [HR.out]; exact codeS_form (.inl hnn)
    subst hr
    clear HR
    have HN := Lib.hid (show (decide (1 ≤ n) && decide (n ≤ 8)) = false by cases h : (decide (1 ≤ n) && decide (n ≤ 8)) with | false => rfl | true => simp at h; exact absurd h hnn)
    clear hnn
    go_enter Tryd.func39, Tryd.ntmps39
    go_wp2_with fail
    refine (is_dec _ _ _ _ _ HN.out).mono ?_
    rintro e w1 ⟨rfl, rfl⟩
    go_wp2_with fail
    go_ret
    exact ⟨rfl, Below.refl _ _⟩
  obtain ⟨n0, n1⟩ := hnn
  go_enter Tryd.func39, Tryd.ntmps39
  go_wp2_with fail
  refine (is_yes _ _ _ _ n0 n1).mono ?_
  rintro e w1 ⟨rfl, rfl⟩
  go_wp2_with fail
  go_loopw [5] (fun i wr => ScR1 l n w1 i wr) (fun i _ => l.length - (intOf i).toNat)
  case atStart => exact ⟨0, by omega, rfl, fun j _ hj => absurd hj (by omega), Below.refl _ _⟩
  case round =>
    obtain ⟨k, hk, rfl, hseen, hb⟩ := hrel
    have SEEN := Lib.hid hseen
    have HB := Lib.hid hb
    have hsz := hb.size
    clear hseen
    by_cases hlt : k < l.length
    · obtain ⟨b, off, rfl, hbl, hcell⟩ := HV.out.get (by omega)
      have r0 : wr.cell? ⟨b, off + k * 4, none⟩ = some (.int .i64 l[k].1) := by rw [hb.cell (p := ⟨b, off + k * 4, none⟩) hbl, hcell (k * 4) (by omega), stpCs_0 l k hlt]
      have r1 : wr.cell? ⟨b, off + k * 4 + 1, none⟩ = some (.int .i64 l[k].2.1) := by rw [hb.cell (p := ⟨b, off + k * 4 + 1, none⟩) hbl, Nat.add_assoc, hcell (k * 4 + 1) (by omega), stpCs_1 l k hlt]
      have r2 : wr.cell? ⟨b, off + k * 4 + 2, none⟩ = some (.int .i64 l[k].2.2.1) := by rw [hb.cell (p := ⟨b, off + k * 4 + 2, none⟩) hbl, Nat.add_assoc, hcell (k * 4 + 2) (by omega), stpCs_2 l k hlt]
      have r3 : wr.cell? ⟨b, off + k * 4 + 3, none⟩ = some (.string l[k].2.2.2) := by rw [hb.cell (p := ⟨b, off + k * 4 + 3, none⟩) hbl, Nat.add_assoc, hcell (k * 4 + 3) (by omega), stpCs_3 l k hlt]
      have e0 : (k : Int) < (l.length : Int) := by omega
      have e1 : (0 : Int) ≤ (k : Int) := by omega
      clear hcell hb
      go_wp2_with fail
      refine (specRightS _ _ _ n _ _).mono ?_
      rintro e w2 ⟨rfl, hb2⟩
      have HB2 := Lib.hid (HB.out.trans (hb2.mono hsz))
      clear hb2 r0 r1 r2 r3
      cases hs : stepB n l[k].1 l[k].2.1 l[k].2.2.1 l[k].2.2.2 with
      | false =>
        have hr : R = 1 := by rw [HR.out]; exact codeS_form (.inr (.inr ⟨_, List.getElem_mem hlt, by unfold wrongS; rw [hs]; rfl⟩))
        subst hr
        clear hs HR
        go_wp2_with fail
        go_ret
        exact ⟨rfl, HB2.out⟩
      | true =>
        have HS := Lib.hid (show wrongS n l[k] = false by unfold wrongS; rw [hs]; rfl)
        clear hs
        go_wp2_with fail
        go_roundw
        case rel =>
          refine ⟨k + 1, by omega, by go_num, fun j h hj => ?_, HB2.out⟩
          by_cases hjk : j = k
          · subst hjk; exact HS.out
          · exact SEEN.out j h (by omega)
        case measure => simp [intOf]; omega
    · obtain rfl : k = l.length := by omega
      have NF := Lib.hid (show ¬ FormBad l n from by
        rintro (h | h | ⟨s, hs, hw⟩)
        · exact h ⟨n0, n1⟩
        · omega
        · obtain ⟨j, hj, rfl⟩ := List.mem_iff_getElem.1 hs
          rw [SEEN.out j hj hj] at hw; cases hw)
      have RV := Lib.hid (HV.out.below HB.out (Nat.le_refl _))
      clear SEEN hb hlt hk
      obtain ⟨W1, rfl⟩ : ∃ W, W = wr := ⟨_, rfl⟩
      go_wp2_with fail
      go_loopw [6] (fun i wq => ScR2 l W1 i wq) (fun i _ => l.length - (intOf i).toNat)
      case atStart => exact ⟨0, by omega, rfl, fun i j hi _ => absurd hi (by omega), Still.refl _⟩
      case round =>
        obtain ⟨wq, rfl⟩ : ∃ W, W = wr := ⟨_, rfl⟩
        obtain ⟨k, hk, rfl, hap, hst⟩ := hrel
        have AP := Lib.hid hap
        have ST := Lib.hid hst
        clear hap
        by_cases hlt : k < l.length
        · clear hst
          go_wp2_with fail
          go_loopw [7] (fun i wz => ScR3 l k wq i wz) (fun i _ => k - (intOf i).toNat)
          case atStart => exact ⟨0, by omega, rfl, fun j hj => absurd hj (by omega), Still.refl _⟩
          case round =>
            obtain ⟨wz, rfl⟩ : ∃ W, W = wr := ⟨_, rfl⟩
            obtain ⟨m, hm, rfl, hno, hst3⟩ := hrel
            have NO := Lib.hid hno
            have ST3 := Lib.hid hst3
            clear hno
            by_cases hmk : m < k
            · obtain ⟨b, off, rfl, hbl, hcell⟩ := RV.out.get (by omega)
              have hq := (ST.out.trans hst3).below W1.heap.size
              have rk0 : wz.cell? ⟨b, off + k * 4, none⟩ = some (.int .i64 l[k].1) := by rw [hq.cell (p := ⟨b, off + k * 4, none⟩) hbl, hcell (k * 4) (by omega), stpCs_0 l k hlt]
              have rk1 : wz.cell? ⟨b, off + k * 4 + 1, none⟩ = some (.int .i64 l[k].2.1) := by rw [hq.cell (p := ⟨b, off + k * 4 + 1, none⟩) hbl, Nat.add_assoc, hcell (k * 4 + 1) (by omega), stpCs_1 l k hlt]
              have rm0 : wz.cell? ⟨b, off + m * 4, none⟩ = some (.int .i64 l[m].1) := by rw [hq.cell (p := ⟨b, off + m * 4, none⟩) hbl, hcell (m * 4) (by omega), stpCs_0 l m (by omega)]
              have rm1 : wz.cell? ⟨b, off + m * 4 + 1, none⟩ = some (.int .i64 l[m].2.1) := by rw [hq.cell (p := ⟨b, off + m * 4 + 1, none⟩) hbl, Nat.add_assoc, hcell (m * 4 + 1) (by omega), stpCs_1 l m (by omega)]
              have e0 : (k : Int) < (l.length : Int) := by omega
              have e1 : (0 : Int) ≤ (k : Int) := by omega
              have e2 : (m : Int) < (l.length : Int) := by omega
              have e3 : (0 : Int) ≤ (m : Int) := by omega
              have PP := Lib.hid (show Pair l k m ↔ l[k].1 ≠ 5 ∧ l[m].1 ≠ 5 ∧ l[k].2.1 = l[m].2.1 from ⟨fun ⟨_, _, r⟩ => r, fun r => ⟨hlt, by omega, r⟩⟩)
              clear hcell hq hst3
              generalize l[k].1 = x0 at *
              generalize l[k].2.1 = x1 at *
              generalize l[m].1 = y0 at *
              generalize l[m].2.1 = y1 at *
              by_cases hx : x0 = 5
              · have dx : (x0 != 5) = false := by simpa using hx
                have HX := Lib.hid hx
                clear hx
                have NP := Lib.hid (show ¬ Pair l k m from fun h => by have := PP.out.1 h; exact this.1 HX.out)
                go_wp2_with fail
                go_quiet (fail)
                go_wp2_with fail
                go_roundw
                case rel =>
                  have fin : ScR3 l k wq (.int .i64 ((m : Int) + 1)) (wz.drewN nq) := by
                    refine ⟨m + 1, by omega, by go_num, fun j hj => ?_, ST3.out.trans ⟨_, rfl⟩⟩
                    by_cases hjm : j = m
                    · subst hjm; exact NP.out
                    · exact NO.out j (by omega)
                  first | exact fin | ((repeat apply Exists.intro); exact ⟨fin, rfl⟩)
                case measure => simp [intOf]; omega
              have dx : (x0 != 5) = true := by simpa using hx
              have HX := Lib.hid hx
              clear hx
              by_cases hy : y0 = 5
              · have dy : (y0 != 5) = false := by simpa using hy
                have HY := Lib.hid hy
                clear hy
                have NP := Lib.hid (show ¬ Pair l k m from fun h => by have := PP.out.1 h; exact this.2.1 HY.out)
                go_wp2_with fail
                go_quiet (fail)
                go_wp2_with fail
                go_roundw
                case rel =>
                  have fin : ScR3 l k wq (.int .i64 ((m : Int) + 1)) (wz.drewN nq) := by
                    refine ⟨m + 1, by omega, by go_num, fun j hj => ?_, ST3.out.trans ⟨_, rfl⟩⟩
                    by_cases hjm : j = m
                    · subst hjm; exact NP.out
                    · exact NO.out j (by omega)
                  first | exact fin | ((repeat apply Exists.intro); exact ⟨fin, rfl⟩)
                case measure => simp [intOf]; omega
              have dy : (y0 != 5) = true := by simpa using hy
              have HY := Lib.hid hy
              clear hy
              by_cases he : x1 = y1
              · have de : (x1 == y1) = true := by simpa using he
                have hr : R = 12 := by rw [HR.out]; exact codeS_twice NF.out ⟨k, m, hmk, PP.out.2 ⟨HX.out, HY.out, he⟩⟩
                subst hr
                clear he HR
                go_wp2_with fail
                go_quiet (fail)
                go_wp2_with fail
                go_ret
                exact ⟨rfl, below_drewN (HB.out.trans (((ST.out.trans ST3.out).below W1.heap.size).mono hsz)) _⟩
              have de : (x1 == y1) = false := by simpa using he
              have HE := Lib.hid he
              clear he
              have NP := Lib.hid (show ¬ Pair l k m from fun h => by have := PP.out.1 h; exact HE.out this.2.2)
              go_wp2_with fail
              go_quiet (fail)
              go_wp2_with fail
              go_roundw
              case rel =>
                have fin : ScR3 l k wq (.int .i64 ((m : Int) + 1)) (wz.drewN nq) := by
                  refine ⟨m + 1, by omega, by go_num, fun j hj => ?_, ST3.out.trans ⟨_, rfl⟩⟩
                  by_cases hjm : j = m
                  · subst hjm; exact NP.out
                  · exact NO.out j (by omega)
                first | exact fin | ((repeat apply Exists.intro); exact ⟨fin, rfl⟩)
              case measure => simp [intOf]; omega
            · obtain rfl : m = k := by omega
              clear hst3
              go_wp2_with fail
              go_roundw
              case rel =>
                have fin : ScR2 l W1 (.int .i64 ((m : Int) + 1)) wz := ⟨m + 1, by omega, by go_num, AP.out.next NO.out, ST.out.trans ST3.out⟩
                first | exact fin | ((repeat apply Exists.intro); exact ⟨fin, rfl⟩)
              case measure => simp [intOf]; omega
        · obtain rfl : k = l.length := by omega
          have NT := Lib.hid (apart_all AP.out)
          clear AP hst hlt hk
          go_wp2_with fail
          go_loopw [8, 9] (fun x i wz => ScR4 l wq x i wz) (fun _ i _ => l.length - (intOf i).toNat)
          case atStart => exact ⟨0, by omega, rfl, rfl, fun ⟨j, hj, _⟩ => absurd hj (by omega), Still.refl _⟩
          case round =>
            obtain ⟨wz, rfl⟩ : ∃ W, W = wr := ⟨_, rfl⟩
            obtain ⟨m, hm, rfl, rfl, hno, hst3⟩ := hrel
            have NO := Lib.hid hno
            have ST3 := Lib.hid hst3
            clear hno
            by_cases hlt : m < l.length
            · obtain ⟨b, off, rfl, hbl, hcell⟩ := RV.out.get (by omega)
              have hq := (ST.out.trans hst3).below W1.heap.size
              have rm0 : wz.cell? ⟨b, off + m * 4, none⟩ = some (.int .i64 l[m].1) := by rw [hq.cell (p := ⟨b, off + m * 4, none⟩) hbl, hcell (m * 4) (by omega), stpCs_0 l m (by omega)]
              have rm2 : wz.cell? ⟨b, off + m * 4 + 2, none⟩ = some (.int .i64 l[m].2.2.1) := by rw [hq.cell (p := ⟨b, off + m * 4 + 2, none⟩) hbl, Nat.add_assoc, hcell (m * 4 + 2) (by omega), stpCs_2 l m (by omega)]
              have e2 : (m : Int) < (l.length : Int) := by omega
              have e3 : (0 : Int) ≤ (m : Int) := by omega
              clear hcell hq hst3
              by_cases h5 : l[m].1 = 5
              · have LY := Lib.hid (lastT_yes hlt h5)
                have LA := Lib.hid (show LowAt l m ↔ l[m].2.2.1 ≤ lastT l m from ⟨fun ⟨_, _, r⟩ => r, fun r => ⟨hlt, h5, r⟩⟩)
                rw [h5] at rm0
                clear h5
                generalize l[m].2.2.1 = y2 at *
                by_cases hle : y2 ≤ lastT l m
                · have hr : R = 8 := by rw [HR.out]; exact codeS_low NF.out NT.out ⟨m, hlt, LA.out.2 hle⟩
                  subst hr
                  have dl : decide (y2 ≤ lastT l m) = true := decide_eq_true hle
                  clear HR
                  generalize lastT l m = z2 at *
                  go_wp2_with fail
                  go_ret
                  exact ⟨rfl, HB.out.trans (((ST.out.trans ST3.out).below W1.heap.size).mono hsz)⟩
                · have dl : decide (y2 ≤ lastT l m) = false := decide_eq_false hle
                  have NL := Lib.hid (show ¬ Low l (m + 1) from fun h => NO.out ((low_no (fun h' => hle (LA.out.1 h'))).1 h))
                  clear hle LA
                  generalize lastT l m = z2 at *
                  go_wp2_with fail
                  go_roundw
                  case rel =>
                    have fin : ScR4 l wq (.int .i64 y2) (.int .i64 ((m : Int) + 1)) wz := ⟨m + 1, by omega, by go_num, by rw [LY.out], NL.out, ST3.out⟩
                    first | exact fin | ((repeat apply Exists.intro); exact ⟨fin, rfl⟩)
                  case measure => simp [intOf]; omega
              · have LY := Lib.hid (lastT_no hlt h5)
                have NL := Lib.hid (show ¬ Low l (m + 1) from fun h => NO.out ((low_no (fun h' => h5 h'.2.1)).1 h))
                have d5 : (l[m].1 != 5) = true := by simpa using h5
                clear h5
                generalize l[m].1 = y0 at *
                obtain ⟨z2, hz2⟩ : ∃ z, z = lastT l m := ⟨_, rfl⟩
                rw [← hz2] at LY
                rw [← hz2]
                clear hz2
                go_wp2_with fail
                go_roundw
                case rel =>
                  have fin : ScR4 l wq (.int .i64 z2) (.int .i64 ((m : Int) + 1)) wz := ⟨m + 1, by omega, by go_num, by rw [LY.out], NL.out, ST3.out⟩
                  first | exact fin | ((repeat apply Exists.intro); exact ⟨fin, rfl⟩)
                case measure => simp [intOf]; omega
            · obtain rfl : m = l.length := by omega
              have hr : R = 0 := by rw [HR.out]; exact codeS_ok NF.out NT.out NO.out
              subst hr
              clear hst3 HR
              go_wp2_with fail
              go_ret
              exact ⟨rfl, HB.out.trans (((ST.out.trans ST3.out).below W1.heap.size).mono hsz)⟩
end Go.Proofs.YtgiiclkjffdjgaaDoor

namespace Go.Proofs.YtgiiclkjffdjgaaDoor
open Go.RowKit

/-- What is left of a write. -/
def torn (old fresh : ByteArray) (fate : Int) : ByteArray :=
  if 8000 < old.size ∨ 8000 < fresh.size then ByteArray.empty
  else if fate < 1 then old
  else if fate = 1 then fresh
  else if (fresh.size : Int) < fate - 2 then fresh
  else fresh.extract 0 (fate - 2).toNat

end Go.Proofs.YtgiiclkjffdjgaaDoor

namespace Go.Proofs.YtgiiclkjffdjgaaDoor
open Go.RowKit

/-- Its run, the source read as xs. -/
theorem run_append_copy {P : Program} (w : World) (t ty e : TypeId) (i : TypeInfo) (z : Value) (sz bytes : Nat) (ht : P.underlying t = some (.slice e)) (hi : P.info? e = some i) (hz : i.zero = some z) (hsize : i.size = sz) (hby : i.bytes = bytes) (hzs : z.cells.size = sz) (hsz : 0 < sz)
    (g : Addr) (src : Value) (n : Nat) (xs : List Value) (hr : Rd w src n sz xs) (h63 : n ≤ maxLen) (hbytes : n * bytes ≤ 140737488355328) :
    ∃ v' w', (Builtin.append_ #[t, t] ty #[.slice (some g) 0 0, src]).run P w = .ok v' w' ∧ Own w' w.heap.size v' n sz xs ∧ w.grownBy w' none := by
  obtain ⟨hl, a, c, rfl, hc⟩ := hr
  by_cases h0 : 0 < n
  · obtain ⟨b, off, rfl, hbl, hcell⟩ := hc h0
    obtain ⟨v', w', h1, h2, h3⟩ := run_append_arg_grows (P := P) w t ty e i z sz bytes ht hi hz hsize hby hzs hsz g 0 0 [] (by simp) (by simp) ⟨b, off, none⟩ n c xs hl (fun j u hj => by
      have hj' : j < n * sz := by have := (List.getElem?_eq_some_iff.1 hj).1; omega
      rw [Addr.add_lit, hcell j hj', hj]) (by omega) (by omega) (by rw [Nat.zero_add]; exact hbytes)
    refine ⟨v', w', h1, ?_, h3⟩
    have := own_of_row h2
    simpa using this
  · obtain rfl : n = 0 := by omega
    have hx : xs = [] := List.eq_nil_of_length_eq_zero (by omega)
    subst hx
    refine ⟨.slice (some g) 0 0, w, ?_, ⟨by simp, _, _, rfl, fun h => absurd h (Nat.lt_irrefl 0)⟩, World.grownBy.refl w none⟩
    cases hsize
    have hfc : (Builtin.firstCells i.size 0 (.slice a 0 c)).run P w = .ok #[] w := by
      cases a with
      | none => exact run_firstCells_none w i.size 0 0 c
      | some a => exact run_firstCells_some w i.size 0 a 0 c [] (by simp) (by simp)
    simp [Builtin.append_, run_underlying ht, sizeOf, typeInfo, hi, Builtin.lenOf, Result.andThen, hfc, storeCells]
/-- For a region that draws. -/
theorem step_append_copy {P : Program} {w : World} {ops : Array Oper} {o : Oper} {a : Act} {K : Act → World → Prop} {Q : Exit → Act → World → Prop} {E : Prop} (hgd : o.guard = none) (s x : Operand) (t : TypeId)
    (ho : o.op = .call { callee := .builtin .append, args := #[s, x], argTypes := #[t, t] })
    (e : TypeId) (i : TypeInfo) (z : Value) (sz bytes : Nat) (ht : P.underlying t = some (.slice e)) (hi : P.info? e = some i) (hz : i.zero = some z) (hsize : i.size = sz) (hby : i.bytes = bytes) (hzs : z.cells.size = sz) (hsz : 0 < sz)
    (g : Addr) (hs : a.eval s = .slice (some g) 0 0) (src : Value) (hx : a.eval x = src) (n : Nat) (xs : List Value) (hr : Rd w src n sz xs) (h63 : n ≤ maxLen) (hbytes : n * bytes ≤ 140737488355328)
    (h : ∀ ad cap w', Own w' w.heap.size (.slice ad n cap) n sz xs → Below w.heap.size w w' → K (a.put o.dst (.slice ad n cap)) w') :
    if Region.wanted o (yielded ops a.tmps) = true then Oper.wp P o a w K Q else E := by
  have hw : Region.wanted o (yielded ops a.tmps) = true := by simp [Region.wanted, hgd]
  rw [if_pos hw]
  obtain ⟨v', w', hrun, h1, h2⟩ := run_append_copy (P := P) w t o.type e i z sz bytes ht hi hz hsize hby hzs hsz g src n xs hr h63 hbytes
  obtain ⟨ad, cap, rfl, _⟩ := id h1.2
  unfold Oper.wp
  simp [execOp, ho, resolve, invoke, builtin, hs, hx, hrun, Result.andThen]
  exact h ad cap w' h1 ⟨h2.os, h2.tape, h2.output, h2.size, fun k hk => h2.block k hk (by simp)⟩

theorem keep_alloc {W w1 : World} (hb : Below W.heap.size W w1) (o : Obj) : Below W.heap.size W (w1.alloc o) := hb.alloc hb.size o
theorem keep_next {W w1 w2 : World} (hb : Below W.heap.size W w1) (hn : Below w1.heap.size w1 w2) : Below W.heap.size W w2 := hb.trans (hn.mono hb.size)
theorem keepN {W w1 w2 : World} {n : Nat} {sv dv : Value} (hz : n + 2 ≤ W.heap.size) (hn : Below w1.heap.size w1 w2) (h : w1.cell? ⟨n, 0, none⟩ = some sv ∧ w1.cell? ⟨n, 1, none⟩ = some dv ∧ (w1.cell? ⟨n + 1, 0, none⟩).isSome = true ∧ (w1.cell? ⟨n + 1, 1, none⟩).isSome = true ∧ w1.frozen? ⟨n + 1, 0, none⟩ = false ∧ w1.frozen? ⟨n + 1, 1, none⟩ = false ∧ Below (n + 1) W w1) :
    w2.cell? ⟨n, 0, none⟩ = some sv ∧ w2.cell? ⟨n, 1, none⟩ = some dv ∧ (w2.cell? ⟨n + 1, 0, none⟩).isSome = true ∧ (w2.cell? ⟨n + 1, 1, none⟩).isSome = true ∧ w2.frozen? ⟨n + 1, 0, none⟩ = false ∧ w2.frozen? ⟨n + 1, 1, none⟩ = false ∧ Below (n + 1) W w2 := by
  obtain ⟨h0, h1, h2, h3, h4, h5, h6⟩ := h
  have hs := h6.size
  exact ⟨(hn.cell (p := ⟨n, 0, none⟩) (by simp; omega)).trans h0, (hn.cell (p := ⟨n, 1, none⟩) (by simp; omega)).trans h1, (hn.cell (p := ⟨n + 1, 0, none⟩) (by simp; omega)).symm ▸ h2, (hn.cell (p := ⟨n + 1, 1, none⟩) (by simp; omega)).symm ▸ h3, (hn.frozen (p := ⟨n + 1, 0, none⟩) (by simp; omega)).trans h4, (hn.frozen (p := ⟨n + 1, 1, none⟩) (by simp; omega)).trans h5, h6.trans (hn.mono (by omega))⟩
theorem alloc_below (w : World) (o : Obj) : Below w.heap.size w (w.alloc o) := (Below.refl _ w).alloc (Nat.le_refl _) o
theorem drew_below (w : World) : Below w.heap.size w w.drew := (Below.refl _ w).drew
theorem keepSet {W w1 : World} {n : Nat} {sv dv x y : Value} (h : w1.cell? ⟨n, 0, none⟩ = some sv ∧ w1.cell? ⟨n, 1, none⟩ = some dv ∧ (w1.cell? ⟨n + 1, 0, none⟩).isSome = true ∧ (w1.cell? ⟨n + 1, 1, none⟩).isSome = true ∧ w1.frozen? ⟨n + 1, 0, none⟩ = false ∧ w1.frozen? ⟨n + 1, 1, none⟩ = false ∧ Below (n + 1) W w1) :
    ((w1.setCell ⟨n + 1, 0, none⟩ x).setCell ⟨n + 1, 1, none⟩ y).cell? ⟨n, 0, none⟩ = some sv ∧ ((w1.setCell ⟨n + 1, 0, none⟩ x).setCell ⟨n + 1, 1, none⟩ y).cell? ⟨n, 1, none⟩ = some dv ∧ (((w1.setCell ⟨n + 1, 0, none⟩ x).setCell ⟨n + 1, 1, none⟩ y).cell? ⟨n + 1, 0, none⟩).isSome = true ∧ (((w1.setCell ⟨n + 1, 0, none⟩ x).setCell ⟨n + 1, 1, none⟩ y).cell? ⟨n + 1, 1, none⟩).isSome = true ∧ ((w1.setCell ⟨n + 1, 0, none⟩ x).setCell ⟨n + 1, 1, none⟩ y).frozen? ⟨n + 1, 0, none⟩ = false ∧ ((w1.setCell ⟨n + 1, 0, none⟩ x).setCell ⟨n + 1, 1, none⟩ y).frozen? ⟨n + 1, 1, none⟩ = false ∧ Below (n + 1) W ((w1.setCell ⟨n + 1, 0, none⟩ x).setCell ⟨n + 1, 1, none⟩ y) := by
  obtain ⟨h0, h1, h2, h3, h4, h5, h6⟩ := h
  refine ⟨?_, ?_, ?_, ?_, by simpa using h4, by simpa using h5, (h6.setCell (p := ⟨n + 1, 0, none⟩) (Nat.le_refl _) x).setCell (p := ⟨n + 1, 1, none⟩) (Nat.le_refl _) y⟩
  · rw [World.cell?_setCell_other (h := by simp), World.cell?_setCell_other (h := by simp)]; exact h0
  · rw [World.cell?_setCell_other (h := by simp), World.cell?_setCell_other (h := by simp)]; exact h1
  · rw [World.cell?_setCell_other (h := by simp), World.cell?_setCell_same' w1 _ x h2]; rfl
  · rw [World.cell?_setCell_same' _ _ y (by rw [World.cell?_setCell_other (h := by simp)]; exact h3)]; rfl

end Go.Proofs.YtgiiclkjffdjgaaDoor

namespace Go.Proofs.YtgiiclkjffdjgaaDoor
open Go.RowKit

/-- An answer over a flash. -/
structure OM where
  fl : FM
  data : ByteArray
  code : Int
def OMade (w : World) (O : OM) (e : Ending) (w' : World) : Prop := ∃ sv dv, e = .returned (.agg #[sv, dv, .string O.data, .int .i64 O.code]) ∧ FOwn w' w.heap.size sv dv O.fl ∧ Below w.heap.size w w'
def noFlash : FM := ⟨[], []⟩
def illOf (code : Int) : OM := ⟨noFlash, ByteArray.empty, code⟩
theorem own_nil (w : World) (lo sz : Nat) (a : Option Addr) (c : Nat) : Own w lo (.slice a 0 c) 0 sz [] := ⟨by simp, _, _, rfl, fun h => absurd h (Nat.lt_irrefl 0)⟩
theorem noFlash_own (w : World) (lo : Nat) : FOwn w lo (.slice none 0 0) (.slice none 0 0) noFlash := ⟨own_nil w lo 1 none 0, own_nil w lo 2 none 0, fun k hk => by simp [blk, noFlash] at hk⟩

def freshOf (n : Int) : FM := if 1 ≤ n ∧ n ≤ 40 then ⟨List.replicate n.toNat ByteArray.empty, []⟩ else noFlash
/-- What is read of a sector that is there. -/
def getOf (F : FM) (at_ : Int) : ByteArray := match F.dir.find? (fun d => d.1 == at_) with
  | some d => d.2
  | none => F.sec.getD at_.toNat ByteArray.empty
theorem get_hit {F : FM} {at_ : Int} {k : Nat} (h : k < F.dir.length) (hb : ∀ j (hj : j < F.dir.length), j < k → F.dir[j].1 ≠ at_) (he : F.dir[k].1 = at_) : getOf F at_ = F.dir[k].2 := by
  have e : F.dir.find? (fun d => d.1 == at_) = some F.dir[k] := List.find?_eq_some_iff_getElem.2 ⟨by simpa using he, k, h, rfl, fun j hj => by simpa using hb j (by omega) hj⟩
  unfold getOf
  rw [e]
theorem get_miss {F : FM} {at_ : Int} (hb : ∀ j (hj : j < F.dir.length), F.dir[j].1 ≠ at_) (h0 : at_.toNat < F.sec.length) : getOf F at_ = F.sec[at_.toNat] := by
  have e : F.dir.find? (fun d => d.1 == at_) = none := List.find?_eq_none.2 fun d hd => by
    obtain ⟨j, hj, rfl⟩ := List.getElem_of_mem hd
    simpa using hb j hj
  unfold getOf
  rw [e]
  simp [h0]
def GetRel (F : FM) (at_ : Int) (W : World) (i : Value) (wr : World) : Prop := ∃ k : Nat, k ≤ F.dir.length ∧ i = .int .i64 k ∧ (∀ j (hj : j < F.dir.length), j < k → F.dir[j].1 ≠ at_) ∧ Still W wr

end Go.Proofs.YtgiiclkjffdjgaaDoor

namespace Go.Proofs.YtgiiclkjffdjgaaDoor
open Go.RowKit

open Classical in
noncomputable def readOf (F : FM) (at_ : Int) : OM :=
  if Right F then (if 0 ≤ at_ ∧ at_ < F.sec.length then ⟨F, getOf F at_, 0⟩ else illOf 8) else illOf 1

theorem FOwn.other {w : World} {lo : Nat} {sv dv : Value} {F : FM} (h : FOwn w lo sv dv F) (p : Addr) (x : Value) (hp : p.block < lo) : FOwn (w.setCell p x) lo sv dv F :=
  ⟨h.1.other p x (fun k hk => by have := (h.1.blk k hk).1; omega), h.2.1.other p x (fun k hk => by have := (h.2.1.blk k hk).1; omega), h.2.2⟩
/-- The four cells of an answer's block. -/
theorem out_cells {K : Nat} {W w' : World} {T : TypeId} {a b c d : Value} (hb : Below K (W.alloc (.cells #[a, b, c, d] T)) w') (hK : W.heap.size < K) :
    (w'.cell? ⟨W.heap.size, 0, none⟩ = some a ∧ w'.cell? ⟨W.heap.size, 1, none⟩ = some b ∧ w'.cell? ⟨W.heap.size, 2, none⟩ = some c ∧ w'.cell? ⟨W.heap.size, 3, none⟩ = some d) ∧
    w'.frozen? ⟨W.heap.size, 0, none⟩ = false ∧ w'.frozen? ⟨W.heap.size, 1, none⟩ = false ∧ w'.frozen? ⟨W.heap.size, 2, none⟩ = false ∧ w'.frozen? ⟨W.heap.size, 3, none⟩ = false := by
  have hc : ∀ j, w'.cell? ⟨W.heap.size, j, none⟩ = (#[a, b, c, d] : Array Value)[j]? := fun j => (hb.cell (p := ⟨W.heap.size, j, none⟩) hK).trans (World.cell?_alloc_new (w := W) #[a, b, c, d] T j)
  have hf : ∀ j, w'.frozen? ⟨W.heap.size, j, none⟩ = false := fun j => (hb.frozen (p := ⟨W.heap.size, j, none⟩) hK).trans (frozen_of_row _ W.heap.size j _ _ (heap_alloc_new W _))
  exact ⟨⟨hc 0, hc 1, hc 2, hc 3⟩, hf 0, hf 1, hf 2, hf 3⟩

/-- A boxed flash at n, an answer's block behind it. -/
def BoxOut (n : Nat) (sv dv : Value) (w : World) : Prop := w.cell? ⟨n, 0, none⟩ = some sv ∧ w.cell? ⟨n, 1, none⟩ = some dv ∧ (w.cell? ⟨n + 1, 0, none⟩).isSome = true ∧ (w.cell? ⟨n + 1, 1, none⟩).isSome = true ∧ (w.cell? ⟨n + 1, 2, none⟩).isSome = true ∧ (w.cell? ⟨n + 1, 3, none⟩).isSome = true ∧ w.frozen? ⟨n + 1, 0, none⟩ = false ∧ w.frozen? ⟨n + 1, 1, none⟩ = false ∧ w.frozen? ⟨n + 1, 2, none⟩ = false ∧ w.frozen? ⟨n + 1, 3, none⟩ = false
theorem boxOut_new (w : World) (sv dv a b c d : Value) (T U : TypeId) : BoxOut w.heap.size sv dv ((w.alloc (.cells #[sv, dv] T)).alloc (.cells #[a, b, c, d] U)) := by
  have e : (w.alloc (.cells #[sv, dv] T)).heap.size = w.heap.size + 1 := by simp
  obtain ⟨⟨c0, c1, c2, c3⟩, f0, f1, f2, f3⟩ := out_cells (Below.refl ((w.alloc (.cells #[sv, dv] T)).heap.size + 1) ((w.alloc (.cells #[sv, dv] T)).alloc (.cells #[a, b, c, d] U))) (Nat.lt_succ_self _)
  rw [e] at c0 c1 c2 c3 f0 f1 f2 f3
  obtain ⟨k0, k1⟩ := two_cells ((Below.refl (w.heap.size + 1) (w.alloc (.cells #[sv, dv] T))).alloc (by simp) (.cells #[a, b, c, d] U)) (Nat.lt_succ_self _)
  exact ⟨k0, k1, by rw [c0]; rfl, by rw [c1]; rfl, by rw [c2]; rfl, by rw [c3]; rfl, f0, f1, f2, f3⟩
theorem BoxOut.next {n : Nat} {sv dv : Value} {w1 w2 : World} (h : BoxOut n sv dv w1) (hz : n + 2 ≤ w1.heap.size) (hn : Below w1.heap.size w1 w2) : BoxOut n sv dv w2 := by
  obtain ⟨h0, h1, h2, h3, h4, h5, h6, h7, h8, h9⟩ := h
  have c : ∀ k j, k < n + 2 → w2.cell? ⟨k, j, none⟩ = w1.cell? ⟨k, j, none⟩ := fun k j hk => hn.cell (p := ⟨k, j, none⟩) (by simp; omega)
  have f : ∀ k j, k < n + 2 → w2.frozen? ⟨k, j, none⟩ = w1.frozen? ⟨k, j, none⟩ := fun k j hk => hn.frozen (p := ⟨k, j, none⟩) (by simp; omega)
  refine ⟨(c _ _ (by omega)).trans h0, (c _ _ (by omega)).trans h1, ?_, ?_, ?_, ?_, (f _ _ (by omega)).trans h6, (f _ _ (by omega)).trans h7, (f _ _ (by omega)).trans h8, (f _ _ (by omega)).trans h9⟩
  · rw [c _ _ (by omega)]; exact h2
  · rw [c _ _ (by omega)]; exact h3
  · rw [c _ _ (by omega)]; exact h4
  · rw [c _ _ (by omega)]; exact h5
theorem BoxOut.set {n j : Nat} {sv dv x : Value} {w : World} (h : BoxOut n sv dv w) : BoxOut n sv dv (w.setCell ⟨n + 1, j, none⟩ x) := by
  obtain ⟨h0, h1, h2, h3, h4, h5, h6, h7, h8, h9⟩ := h
  have c : ∀ i, (w.cell? ⟨n + 1, i, none⟩).isSome = true → ((w.setCell ⟨n + 1, j, none⟩ x).cell? ⟨n + 1, i, none⟩).isSome = true := fun i hi => by
    by_cases e : i = j
    · subst e; rw [World.cell?_setCell_same' w _ x hi]; rfl
    · rw [World.cell?_setCell_other (h := fun q => e (by cases q; rfl))]; exact hi
  exact ⟨by rw [World.cell?_setCell_other (h := by simp)]; exact h0, by rw [World.cell?_setCell_other (h := by simp)]; exact h1, c 0 h2, c 1 h3, c 2 h4, c 3 h5, by simpa using h6, by simpa using h7, by simpa using h8, by simpa using h9⟩

/-- The same, for a drawn region. -/
def BoxIn (n : Nat) (sv dv : Value) (w0 w : World) : Prop := w.cell? ⟨n, 0, none⟩ = some sv ∧ w.cell? ⟨n, 1, none⟩ = some dv ∧ (w.cell? ⟨n + 1, 0, none⟩).isSome = true ∧ (w.cell? ⟨n + 1, 1, none⟩).isSome = true ∧ (w.cell? ⟨n + 1, 2, none⟩).isSome = true ∧ (w.cell? ⟨n + 1, 3, none⟩).isSome = true ∧ w.frozen? ⟨n + 1, 0, none⟩ = false ∧ w.frozen? ⟨n + 1, 1, none⟩ = false ∧ w.frozen? ⟨n + 1, 2, none⟩ = false ∧ w.frozen? ⟨n + 1, 3, none⟩ = false ∧ Below n w0 w ∧ n + 2 ≤ w.heap.size
theorem BoxIn.box {n : Nat} {sv dv : Value} {w0 w : World} (h : BoxIn n sv dv w0 w) : BoxOut n sv dv w := by
  obtain ⟨h0, h1, h2, h3, h4, h5, h6, h7, h8, h9, -, -⟩ := h
  exact ⟨h0, h1, h2, h3, h4, h5, h6, h7, h8, h9⟩
theorem BoxOut.inn {n : Nat} {sv dv : Value} {w0 w : World} (h : BoxOut n sv dv w) (hb : Below n w0 w) (hz : n + 2 ≤ w.heap.size) : BoxIn n sv dv w0 w := by
  obtain ⟨h0, h1, h2, h3, h4, h5, h6, h7, h8, h9⟩ := h
  exact ⟨h0, h1, h2, h3, h4, h5, h6, h7, h8, h9, hb, hz⟩
theorem BoxIn.below {n : Nat} {sv dv : Value} {w0 w : World} (h : BoxIn n sv dv w0 w) : Below n w0 w := h.2.2.2.2.2.2.2.2.2.2.1
theorem BoxIn.size {n : Nat} {sv dv : Value} {w0 w : World} (h : BoxIn n sv dv w0 w) : n + 2 ≤ w.heap.size := h.2.2.2.2.2.2.2.2.2.2.2
theorem BoxIn.next {n : Nat} {sv dv : Value} {w0 w1 w2 : World} (hn : Below w1.heap.size w1 w2) (h : BoxIn n sv dv w0 w1) : BoxIn n sv dv w0 w2 :=
  (h.box.next h.size hn).inn (h.below.trans (hn.mono (by have := h.size; omega))) (Nat.le_trans h.size hn.size)
theorem BoxIn.set {n j : Nat} {sv dv x : Value} {w0 w : World} (h : BoxIn n sv dv w0 w) : BoxIn n sv dv w0 (w.setCell ⟨n + 1, j, none⟩ x) :=
  h.box.set.inn (h.below.setCell (p := ⟨n + 1, j, none⟩) (by simp) x) (by simpa using h.size)

end Go.Proofs.YtgiiclkjffdjgaaDoor

namespace Go.Proofs.YtgiiclkjffdjgaaDoor
open Go.RowKit

theorem four_cells {w w1 : World} {K : Nat} {T : TypeId} {a b c d : Value} (hb : Below K (w.alloc (.cells #[a, b, c, d] T)) w1) (hK : w.heap.size < K) :
    w1.cell? ⟨w.heap.size, 0, none⟩ = some a ∧ w1.cell? ⟨w.heap.size, 1, none⟩ = some b ∧ w1.cell? ⟨w.heap.size, 2, none⟩ = some c ∧ w1.cell? ⟨w.heap.size, 3, none⟩ = some d := (out_cells hb hK).1

end Go.Proofs.YtgiiclkjffdjgaaDoor

namespace Go.Proofs.YtgiiclkjffdjgaaDoor
open Go.RowKit

/-- What a slice of the call's own may be appended to by. -/
def Grow (w : World) (lo e sz : Nat) (v : Value) (n : Nat) (xs : List Value) : Prop := (0 < n → w.ownsRow lo e sz v n xs) ∧ (n = 0 → ∃ a, v = .slice (some a) 0 0)
theorem Grow.lower {w : World} {lo lo' e sz n : Nat} {v : Value} {xs : List Value} (h : Grow w lo e sz v n xs) (hl : lo' ≤ lo) : Grow w lo' e sz v n xs := by
  refine ⟨fun h0 => ?_, h.2⟩
  obtain ⟨h1, h2 | ⟨g, cap, cur, q1, q2, q3⟩⟩ := h.1 h0
  · exact ⟨h1, .inl h2⟩
  · exact ⟨h1, .inr ⟨g, cap, cur, q1, by omega, q3⟩⟩
theorem Grow.keep {w w' : World} {lo e sz n : Nat} {v : Value} {xs : List Value} (h : Grow w lo e sz v n xs) (hk : ∀ k, lo ≤ k → k < w.heap.size → w'.heap[k]? = w.heap[k]?) : Grow w' lo e sz v n xs := by
  refine ⟨fun h0 => ?_, h.2⟩
  obtain ⟨h1, h2 | ⟨g, cap, cur, q1, q2, q3, q4⟩⟩ := h.1 h0
  · exact ⟨h1, .inl h2⟩
  · exact ⟨h1, .inr ⟨g, cap, cur, q1, q2, (hk g q2 (Array.getElem?_eq_some_iff.1 q3).1).trans q3, q4⟩⟩
theorem Grow.below {w w' : World} {lo e sz n B : Nat} {v : Value} {xs : List Value} (h : Grow w lo e sz v n xs) (hb : Below B w w') (hB : w.heap.size ≤ B) : Grow w' lo e sz v n xs :=
  h.keep fun k _ hk => hb.block k (by omega)
theorem Grow.set {w : World} {lo e sz n b i : Nat} {v x : Value} {xs : List Value} (h : Grow w lo e sz v n xs) (hp : b < lo) : Grow (w.setCell ⟨b, i, none⟩ x) lo e sz v n xs :=
  h.keep fun k h1 h2 => (grown_set (World.grownBy.refl w (some b)) (i := i) (x := x)).block k h2 (by simp; omega)
theorem run_append_copyA {P : Program} (w : World) (t ty e : TypeId) (i : TypeInfo) (z : Value) (sz bytes : Nat) (ht : P.underlying t = some (.slice e)) (hi : P.info? e = some i) (hz : i.zero = some z) (hsize : i.size = sz) (hby : i.bytes = bytes) (hzs : z.cells.size = sz) (hsz : 0 < sz)
    (g : Addr) (src : Value) (n : Nat) (xs : List Value) (hr : Rd w src n sz xs) (h63 : n ≤ maxLen) (hbytes : n * bytes ≤ 140737488355328) :
    ∃ v' w', (Builtin.append_ #[t, t] ty #[.slice (some g) 0 0, src]).run P w = .ok v' w' ∧ Own w' w.heap.size v' n sz xs ∧ Grow w' w.heap.size e sz v' n xs ∧ w.grownBy w' none := by
  obtain ⟨hl, a, c, rfl, hc⟩ := hr
  by_cases h0 : 0 < n
  · obtain ⟨b, off, rfl, hbl, hcell⟩ := hc h0
    obtain ⟨v', w', h1, h2, h3⟩ := run_append_arg_grows (P := P) w t ty e i z sz bytes ht hi hz hsize hby hzs hsz g 0 0 [] (by simp) (by simp) ⟨b, off, none⟩ n c xs hl (fun j u hj => by
      have hj' : j < n * sz := by have := (List.getElem?_eq_some_iff.1 hj).1; omega
      rw [Addr.add_lit, hcell j hj', hj]) (by omega) (by omega) (by rw [Nat.zero_add]; exact hbytes)
    rw [Nat.zero_add, List.nil_append] at h2
    exact ⟨v', w', h1, own_of_row h2, ⟨fun _ => h2, fun e => absurd e (by omega)⟩, h3⟩
  · obtain rfl : n = 0 := by omega
    have hx : xs = [] := List.eq_nil_of_length_eq_zero (by omega)
    subst hx
    refine ⟨.slice (some g) 0 0, w, ?_, ⟨by simp, _, _, rfl, fun h => absurd h (Nat.lt_irrefl 0)⟩, ⟨fun h => absurd h (Nat.lt_irrefl 0), fun _ => ⟨_, rfl⟩⟩, World.grownBy.refl w none⟩
    cases hsize
    have hfc : (Builtin.firstCells i.size 0 (.slice a 0 c)).run P w = .ok #[] w := by
      cases a with
      | none => exact run_firstCells_none w i.size 0 0 c
      | some a => exact run_firstCells_some w i.size 0 a 0 c [] (by simp) (by simp)
    simp [Builtin.append_, run_underlying ht, sizeOf, typeInfo, hi, Builtin.lenOf, Result.andThen, hfc, storeCells]
def FMadeA (e : TypeId) (w : World) (F : FM) (x : Ending) (w' : World) : Prop := ∃ sv dv, x = .returned (.agg #[sv, dv]) ∧ FOwn w' w.heap.size sv dv F ∧ Grow w' w.heap.size e 2 dv F.dir.length (dirs F.dir) ∧ Below w.heap.size w w'
/-- For a region that draws. -/
theorem step_append_copyA {P : Program} {w : World} {ops : Array Oper} {o : Oper} {a : Act} {K : Act → World → Prop} {Q : Exit → Act → World → Prop} {E : Prop} (hgd : o.guard = none) (s x : Operand) (t : TypeId)
    (ho : o.op = .call { callee := .builtin .append, args := #[s, x], argTypes := #[t, t] })
    (e : TypeId) (i : TypeInfo) (z : Value) (sz bytes : Nat) (ht : P.underlying t = some (.slice e)) (hi : P.info? e = some i) (hz : i.zero = some z) (hsize : i.size = sz) (hby : i.bytes = bytes) (hzs : z.cells.size = sz) (hsz : 0 < sz)
    (g : Addr) (hs : a.eval s = .slice (some g) 0 0) (src : Value) (hx : a.eval x = src) (n : Nat) (xs : List Value) (hr : Rd w src n sz xs) (h63 : n ≤ maxLen) (hbytes : n * bytes ≤ 140737488355328)
    (h : ∀ ad cap w', Own w' w.heap.size (.slice ad n cap) n sz xs → Grow w' w.heap.size e sz (.slice ad n cap) n xs → Below w.heap.size w w' → K (a.put o.dst (.slice ad n cap)) w') :
    if Region.wanted o (yielded ops a.tmps) = true then Oper.wp P o a w K Q else E := by
  have hw : Region.wanted o (yielded ops a.tmps) = true := by simp [Region.wanted, hgd]
  rw [if_pos hw]
  obtain ⟨v', w', hrun, h1, h3, h2⟩ := run_append_copyA (P := P) w t o.type e i z sz bytes ht hi hz hsize hby hzs hsz g src n xs hr h63 hbytes
  obtain ⟨ad, cap, rfl, _⟩ := id h1.2
  unfold Oper.wp
  simp [execOp, ho, resolve, invoke, builtin, hs, hx, hrun, Result.andThen]
  exact h ad cap w' h1 h3 ⟨h2.os, h2.tape, h2.output, h2.size, fun k hk => h2.block k hk (by simp)⟩

end Go.Proofs.YtgiiclkjffdjgaaDoor

namespace Go.Proofs.YtgiiclkjffdjgaaDoor
open Go.RowKit

def putD : List D → Int → ByteArray → List D
  | [], a, x => [(a, x)]
  | d :: l, a, x => if d.1 = a then (d.1, x) :: l else d :: putD l a x
theorem put_hit (a : Int) (x : ByteArray) : ∀ (l : List D) (k : Nat) (h : k < l.length) (_ : ∀ j (hj : j < l.length), j < k → l[j].1 ≠ a) (_ : l[k].1 = a), putD l a x = l.set k (a, x)
  | d :: l, 0, _, _, he => by
    have he' : d.1 = a := he
    simp [putD, he']
  | d :: l, k + 1, h, hb, he => by
    have h0 : d.1 ≠ a := hb 0 (by simp) (by omega)
    have ih := put_hit a x l k (by simpa using h) (fun j hj hjk => hb (j + 1) (by simpa using hj) (by omega)) he
    simp [putD, h0, ih]
theorem put_miss (a : Int) (x : ByteArray) : ∀ (l : List D) (_ : ∀ j (hj : j < l.length), l[j].1 ≠ a), putD l a x = l ++ [(a, x)]
  | [], _ => rfl
  | d :: l, hb => by
    have h0 : d.1 ≠ a := hb 0 (by simp)
    have ih := put_miss a x l (fun j hj => hb (j + 1) (by simpa using hj))
    simp [putD, h0, ih]
theorem dirs_set (a : Int) (x : ByteArray) : ∀ (l : List D) (k : Nat) (h : k < l.length) (_ : l[k].1 = a), dirs (l.set k (a, x)) = (dirs l).set (k * 2 + 1) (.string x)
  | d :: l, 0, _, he => by
    have he' : d.1 = a := he
    simp [dirs, he']
  | d :: l, k + 1, h, he => by
    rw [show (k + 1) * 2 + 1 = k * 2 + 1 + 1 + 1 by omega]
    simp only [List.set_cons_succ, dirs]
    rw [dirs_set a x l k (by simpa using h) he]
theorem dirs_append (a : Int) (x : ByteArray) : ∀ l : List D, dirs (l ++ [(a, x)]) = dirs l ++ [.int .i64 a, .string x]
  | [] => rfl
  | d :: l => by simp only [List.cons_append, dirs]; rw [dirs_append a x l]
def putOf (F : FM) (a : Int) (x : ByteArray) : FM := ⟨F.sec, putD F.dir a x⟩

theorem run_append_grow {P : Program} (w : World) (t ty e : TypeId) (i : TypeInfo) (z : Value) (sz bytes : Nat) (ht : P.underlying t = some (.slice e)) (hi : P.info? e = some i) (hz : i.zero = some z) (hsize : i.size = sz) (hby : i.bytes = bytes) (hzs : z.cells.size = sz) (hsz : 0 < sz)
    (lo : Nat) (v : Value) (n : Nat) (xs : List Value) (hl : xs.length = n * sz) (hg : Grow w lo e sz v n xs) (ad : Addr) (m c : Nat) (news : List Value) (hm : 0 < m) (hn : news.length = m * sz) (hnews : ∀ j u, news[j]? = some u → w.cell? (ad.add j) = some u) (h1 : ∀ u ∈ news, u.oneCell' = true)
    (h63 : n + m ≤ maxLen) (hbytes : (n + m) * bytes ≤ 140737488355328) (hlo : lo ≤ w.heap.size) :
    ∃ v' w', (Builtin.append_ #[t, t] ty #[v, .slice (some ad) m c]).run P w = .ok v' w' ∧ Own w' lo v' (n + m) sz (xs ++ news) ∧ w.grownBy w' (blk v n) ∧ (∀ k, blk v' (n + m) = some k → blk v n = some k ∨ w.heap.size ≤ k) := by
  by_cases h0 : 0 < n
  · obtain ⟨v', w', r1, r2, r3, -, r5⟩ := run_append_own_at (P := P) (w := w) lo t ty e i z sz bytes ht hi hz hsize hby hzs hsz v n xs (hg.1 h0) ad m c news hn hnews h1 h63 hbytes hlo
    have e1 : blk v n = v.ownBlock := by unfold blk; rw [if_neg (by omega)]
    have e2 : blk v' (n + m) = v'.ownBlock := by unfold blk; rw [if_neg (by omega)]
    rw [e1]
    exact ⟨v', w', r1, own_of_row r2, r3, fun k hk => by
      rw [e2] at hk
      rcases r5 with r | r
      · exact .inl (r.symm.trans hk)
      · exact .inr (Nat.le_of_eq (Option.some.inj (r.symm.trans hk)))⟩
  · obtain rfl : n = 0 := by omega
    have hx : xs = [] := List.eq_nil_of_length_eq_zero (by omega)
    subst hx
    obtain ⟨g, rfl⟩ := hg.2 rfl
    obtain ⟨v', w', r1, r2, r3⟩ := run_append_arg_grows (P := P) w t ty e i z sz bytes ht hi hz hsize hby hzs hsz g 0 0 [] (by simp) (by simp) ad m c news hn hnews (by omega) h63 hbytes
    refine ⟨v', w', r1, (own_of_row r2).lower hlo, r3, fun k hk => .inr ((own_of_row r2).blk k hk).1⟩
theorem wpList_append_grow {P : Program} (w : World) {ops : Array Oper} {rest : List Oper} {o : Oper} {a : Act} {Q : Exit → Act → World → Prop} (hgd : o.guard = none) (s x : Operand) (t : TypeId)
    (hop : o.op = Op.call { callee := Callee.builtin Builtin.append, args := #[s, x], argTypes := #[t, t] })
    (e : TypeId) (i : TypeInfo) (z : Value) (sz bytes : Nat) (ht : P.underlying t = some (.slice e)) (hi : P.info? e = some i) (hz : i.zero = some z) (hsize : i.size = sz) (hby : i.bytes = bytes) (hzs : z.cells.size = sz) (hsz : 0 < sz)
    (lo : Nat) (v : Value) (hs : a.eval s = v) (n : Nat) (xs : List Value) (hl : xs.length = n * sz) (hg : Grow w lo e sz v n xs) (ad : Addr) (m c : Nat) (hx : a.eval x = .slice (some ad) m c) (news : List Value) (hm : 0 < m) (hn : news.length = m * sz) (hnews : ∀ j u, news[j]? = some u → w.cell? (ad.add j) = some u) (h1 : ∀ u ∈ news, u.oneCell' = true)
    (h63 : n + m ≤ maxLen) (hbytes : (n + m) * bytes ≤ 140737488355328) (hlo : lo ≤ w.heap.size)
    (hK : ∀ ad' cap w', Own w' lo (.slice ad' (n + m) cap) (n + m) sz (xs ++ news) → w.grownBy w' (blk v n) → (∀ k, blk (.slice ad' (n + m) cap) (n + m) = some k → blk v n = some k ∨ w.heap.size ≤ k) → wpList P ops Q rest (a.put o.dst (.slice ad' (n + m) cap)) w') :
    wpList P ops Q (o :: rest) a w := by
  refine wpList_plain hgd fun K hK' => ?_
  obtain ⟨v', w', hrun, r1, r2, r3⟩ := run_append_grow (P := P) w t o.type e i z sz bytes ht hi hz hsize hby hzs hsz lo v n xs hl hg ad m c news hm hn hnews h1 h63 hbytes hlo
  obtain ⟨ad', cap, rfl, _⟩ := id r1.2
  unfold Oper.wp
  simp [execOp, hop, resolve, invoke, builtin, hs, hx, hrun, Result.andThen]
  exact hK' _ _ (hK ad' cap w' r1 r2 r3)
theorem grown_keep {w w' : World} {r : Option Nat} {k : Nat} (h : w.grownBy w' r) (hk : k < w.heap.size) (hne : r ≠ some k) (j : Nat) : w'.cell? ⟨k, j, none⟩ = w.cell? ⟨k, j, none⟩ ∧ w'.frozen? ⟨k, j, none⟩ = w.frozen? ⟨k, j, none⟩ := by
  have e := h.block k hk (fun q => hne q.symm)
  exact ⟨by simp only [World.cell?, e], by simp only [World.frozen?, e]⟩
def PutRel (F : FM) (at_ : Int) (i : Value) : Prop := ∃ k : Nat, k ≤ F.dir.length ∧ i = .int .i64 k ∧ ∀ j (hj : j < F.dir.length), j < k → F.dir[j].1 ≠ at_

end Go.Proofs.YtgiiclkjffdjgaaDoor
