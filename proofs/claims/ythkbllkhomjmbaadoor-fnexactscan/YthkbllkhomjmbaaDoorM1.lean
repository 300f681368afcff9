/- The ground texts of this claim, in one. -/
import Derived.Test.YthkbllkhomjmbaaDoorRows
import Derived.WalkKit
import Derived.WalkSpells
import Derived.WalkLawsBesides
import Derived.Lib.Hide
import Derived.Below
import Derived.Laws.Rows
import Derived.Laws.CopyOwn
import Derived.Maps.Range
import Derived.Deep.QuietTactic
import Derived.BigQuiet
import Derived.BigRegion
import Derived.Deep.RegionHeld3
import Derived.StillTailTactics
import Derived.Deep.RegionWith
import Derived.Lib.Zigzag
import Derived.Lib.BufferWrite
namespace Go.Proofs.YthkbllkhomjmbaaDoor
open Go.RowKit

theorem ret_bool {a b : Bool} (h : a = b) : Ending.returned (.bool a) = .returned (.bool b) := by rw [h]
def bt (s : ByteArray) (j : Nat) : Int := (s.data.getD j 0).toNat
theorem bt_at (s : ByteArray) (k : Nat) (h : k < s.size) : (s[k].toNat : Int) = bt s k := by
  unfold bt
  have : s.data.getD k 0 = s[k] := by
    have h' : k < s.data.size := h
    simp [Array.getD, h]; rfl
  rw [this]

theorem ret_int {k : IntKind} {a b : Int} (h : a = b) : Ending.returned (.int k a) = .returned (.int k b) := by rw [h]
theorem val_int {k : IntKind} {a b : Int} (h : a = b) : Value.int k a = .int k b := by rw [h]

theorem Tryd.info5 : (Tryd.prog.info? 5).map (fun i => (i.zero, i.size, i.bytes)) = some (some (.int .u8 0), 1, 1) := by kernel_rfl
def B (u : UInt8) : Value := .int .u8 (u.toNat : Int)


theorem conv_row {w : World} {base e g n cap c : Nat} {xs : List Value} (h : w.ownsRow base e 1 (.slice (some ⟨g, 0, none⟩) n cap) n xs) (l : List UInt8) (m : Nat) (hm : m = l.length) (hn : m ≤ n) (hx : xs.take m = l.map B) :
    (convert 22 9 (.slice (some ⟨g, 0, none⟩) m c)).run Tryd.prog w = .ok (.string ⟨l.toArray⟩) w := by
  subst hm
  refine run_convert_bytes_back w 22 9 5 ⟨g, 0, none⟩ c l Tryd.underlying22 Tryd.underlying5 Tryd.underlying9 fun j hj => ?_
  have e1 : ((⟨g, 0, none⟩ : Addr).add j) = ⟨g, j, none⟩ := by simp [Addr.add]; omega
  rw [e1, h.cellAt j (by omega)]
  have e2 : (xs.take l.length)[j]? = xs[j]? := by rw [List.getElem?_take, if_pos hj]
  rw [← e2, hx, List.getElem?_map, List.getElem?_eq_getElem hj]
  rfl

theorem one_cell (wr : World) (a b : Value) (h : a = b) : ∀ j u, [b][j]? = some u → (wr.alloc (.cells #[a] 5)).cell? ((⟨wr.heap.size, 0, none⟩ : Addr).add j) = some u := by
  intro j u hj
  match j, hj with
  | 0, hj => simp at hj; subst hj; subst h; simp [Addr.add]
theorem owned_below {w wr : World} {v : Value} {n : Nat} {xs : List Value} (h : wr.ownsRow w.heap.size 5 1 v n xs) : ∀ k, v.ownBlock = some k → w.heap.size ≤ k := fun k hk => (h.lt k hk).1
theorem owned_shape {w wr : World} {e : TypeId} {v : Value} {n : Nat} {xs : List Value} (h : wr.ownsRow w.heap.size e 1 v n xs) (hn : 0 < n) : ∃ g cap, v = .slice (some ⟨g, 0, none⟩) n cap := by
  rcases h.2 with ⟨_, h0⟩ | ⟨g, cap, cur, h', _⟩
  · omega
  · exact ⟨g, cap, h'⟩

theorem own_block {w : World} {base e g n : Nat} {xs : List Value} (h : w.ownsRow base e 1 (.slice (some ⟨g, 0, none⟩) n n) n xs) : w.heap[g]? = some (.cells xs.toArray e (0, 0)) := by
  rcases h.2 with ⟨h', _⟩ | ⟨g', cap', cur, h', _, hg, _, _, hs, htake⟩
  · simp at h'
  · simp only [Value.slice.injEq, Option.some.injEq, Addr.mk.injEq, and_true, true_and] at h'
    obtain ⟨rfl, rfl⟩ := h'
    rw [hg, ← htake, List.take_of_length_le (by simp [hs])]

theorem conv_block {w : World} {e g c : Nat} {xs : List Value} (h : w.heap[g]? = some (.cells xs.toArray e (0, 0))) (l : List UInt8) (m : Nat) (hm : m = l.length) (hx : xs = l.map B) :
    (convert 22 9 (.slice (some ⟨g, 0, none⟩) m c)).run Tryd.prog w = .ok (.string ⟨l.toArray⟩) w := by
  subst hm
  refine run_convert_bytes_back w 22 9 5 ⟨g, 0, none⟩ c l Tryd.underlying22 Tryd.underlying5 Tryd.underlying9 fun j hj => ?_
  have e1 : ((⟨g, 0, none⟩ : Addr).add j) = ⟨g, j, none⟩ := by simp [Addr.add]; omega
  rw [e1, cell_of_row w g j _ e (0, 0) h, hx]
  simp [hj, B]
theorem res_cells {K : Nat} {w w' : World} {a b c : Value} {T : TypeId} (hb : Below K (w.alloc (.cells #[a, b, c] T)).drew w') (hK : w.heap.size < K) :
    w'.cell? ⟨w.heap.size, 0, none⟩ = some a ∧ w'.cell? ⟨w.heap.size, 1, none⟩ = some b ∧ w'.cell? ⟨w.heap.size, 2, none⟩ = some c ∧
    w'.frozen? ⟨w.heap.size, 0, none⟩ = false ∧ w'.frozen? ⟨w.heap.size, 1, none⟩ = false ∧ w'.frozen? ⟨w.heap.size, 2, none⟩ = false := by
  have hc : ∀ j, w'.cell? ⟨w.heap.size, j, none⟩ = (#[a, b, c] : Array Value)[j]? := fun j =>
    (hb.cell (p := ⟨w.heap.size, j, none⟩) hK).trans (World.cell?_alloc_new (w := w) #[a, b, c] T j)
  have hf : ∀ j, w'.frozen? ⟨w.heap.size, j, none⟩ = false := fun j =>
    (hb.frozen (p := ⟨w.heap.size, j, none⟩) hK).trans (World.frozen?_alloc_at #[a, b, c] T w.heap.size j rfl)
  exact ⟨hc 0, hc 1, hc 2, hf 0, hf 1, hf 2⟩

theorem laid_cells {K : Nat} {w w' : World} {a b c : Value} {T : TypeId} (hb : Below K (w.alloc (.cells #[a, b, c] T)) w') (hK : w.heap.size < K) :
    w'.cell? ⟨w.heap.size, 0, none⟩ = some a ∧ w'.cell? ⟨w.heap.size, 1, none⟩ = some b ∧ w'.cell? ⟨w.heap.size, 2, none⟩ = some c := by
  have hc : ∀ j, w'.cell? ⟨w.heap.size, j, none⟩ = (#[a, b, c] : Array Value)[j]? := fun j =>
    (hb.cell (p := ⟨w.heap.size, j, none⟩) hK).trans (World.cell?_alloc_new (w := w) #[a, b, c] T j)
  exact ⟨hc 0, hc 1, hc 2⟩
theorem laid_size (w : World) (o : Obj) : w.heap.size < (w.alloc o).heap.size := by
  show _ < (w.heap.push _).size; simp
theorem res_below {K : Nat} {w w' : World} {o : Obj} (hb : Below K (w.alloc o).drew w') (hK : w.heap.size < K) (a b c : Value) :
    Below w.heap.size w (((w'.setCell ⟨w.heap.size, 0, none⟩ a).setCell ⟨w.heap.size, 1, none⟩ b).setCell ⟨w.heap.size, 2, none⟩ c) :=
  (((((Below.refl _ w).alloc (Nat.le_refl _) o).drew.trans (hb.mono (Nat.le_of_lt hK))).setCell (p := ⟨w.heap.size, 0, none⟩) (Nat.le_refl _) a).setCell (p := ⟨w.heap.size, 1, none⟩) (Nat.le_refl _) b).setCell (p := ⟨w.heap.size, 2, none⟩) (Nat.le_refl _) c
theorem res_size (w : World) (o : Obj) : w.heap.size < (w.alloc o).drew.heap.size := by
  show _ < (w.heap.push _).size; simp
theorem res_below0 (w : World) (o : Obj) (a b c : Value) :
    Below w.heap.size w ((((w.alloc o).setCell ⟨w.heap.size, 0, none⟩ a).setCell ⟨w.heap.size, 1, none⟩ b).setCell ⟨w.heap.size, 2, none⟩ c) :=
  ((((Below.refl _ w).alloc (Nat.le_refl _) o).setCell (p := ⟨w.heap.size, 0, none⟩) (Nat.le_refl _) a).setCell (p := ⟨w.heap.size, 1, none⟩) (Nat.le_refl _) b).setCell (p := ⟨w.heap.size, 2, none⟩) (Nat.le_refl _) c

/-- A decoded string as the model and the program lay it. -/
def textV (s : ByteArray) (at' code : Int) : Value := .agg #[.string s, .int .i64 at', .int .i64 code]

end Go.Proofs.YthkbllkhomjmbaaDoor

namespace Go.Proofs.YthkbllkhomjmbaaDoor
open Go.RowKit

/-- v 0 .. v (n - 1) as cells. -/
def cellsV (n : Nat) (v : Nat → Value) : Array Value := ((List.range n).map v).toArray
theorem cellsV_size (n : Nat) (v : Nat → Value) : (cellsV n v).size = n := by simp [cellsV]
theorem cellsV_at (n : Nat) (v : Nat → Value) (j : Nat) (h : j < n) : (cellsV n v)[j]? = some (v j) := by simp [cellsV, h]
theorem cellsV_list (n : Nat) (v : Nat → Value) : (cellsV n v).toList = (List.range n).map v := by simp [cellsV]
/-- Block g holds v 0 .. v (n - 1), laid as cells of the type T. -/
def CellsAt (wr : World) (g : Nat) (T : TypeId) (n : Nat) (v : Nat → Value) : Prop := wr.heap[g]? = some (.cells (cellsV n v) T (0, 0))
theorem CellsAt.cell {wr : World} {g n : Nat} {T : TypeId} {v : Nat → Value} (h : CellsAt wr g T n v) (j : Nat) (hj : j < n) : wr.cell? ⟨g, j, none⟩ = some (v j) := by
  rw [cell_of_row wr g j _ T (0, 0) h, cellsV_at n v j hj]
theorem CellsAt.frozen {wr : World} {g n : Nat} {T : TypeId} {v : Nat → Value} (h : CellsAt wr g T n v) (j : Nat) : wr.frozen? ⟨g, j, none⟩ = false := frozen_of_row wr g j _ T h
theorem CellsAt.lt {wr : World} {g n : Nat} {T : TypeId} {v : Nat → Value} (h : CellsAt wr g T n v) : g < wr.heap.size := (Array.getElem?_eq_some_iff.1 h).1
theorem CellsAt.set {wr : World} {g n : Nat} {T : TypeId} {v v' : Nat → Value} (h : CellsAt wr g T n v) (j : Nat) (x : Value) (hx : v' j = x) (hf : ∀ i, i ≠ j → v' i = v i) : CellsAt (wr.setCell ⟨g, j, none⟩ x) g T n v' := by
  unfold CellsAt
  rw [heap_setCell_same wr g j _ T x h]
  congr 2
  apply Array.ext_getElem?
  intro i
  unfold cellsV
  simp only [List.setIfInBounds_toArray, List.getElem?_toArray, List.getElem?_set, List.length_map, List.length_range]
  by_cases hi : j = i
  · subst hi; by_cases hj : j < n <;> simp [hj, hx]
  · rw [if_neg hi]; by_cases hn : i < n
    · simp [hn, hf i (fun e => hi e.symm)]
    · simp [hn]
theorem cellsV_congr {n : Nat} {v v' : Nat → Value} (hf : ∀ i, i < n → v' i = v i) : cellsV n v' = cellsV n v := by
  unfold cellsV; congr 1
  apply List.map_congr_left; intro i hi; rw [hf i (by simpa using hi)]
theorem CellsAt.congr {wr : World} {g n : Nat} {T : TypeId} {v v' : Nat → Value} (h : CellsAt wr g T n v) (hf : ∀ i, i < n → v' i = v i) : CellsAt wr g T n v' := by
  unfold CellsAt at *; rw [h, cellsV_congr hf]
theorem CellsAt.below {wr wr' : World} {g n B : Nat} {T : TypeId} {v : Nat → Value} (h : CellsAt wr g T n v) (hb : Below B wr wr') (hg : g < B) : CellsAt wr' g T n v := (hb.block g hg).trans h
theorem CellsAt.drew {wr : World} {g n : Nat} {T : TypeId} {v : Nat → Value} (h : CellsAt wr g T n v) : CellsAt wr.drew g T n v := h
theorem CellsAt.drewN {wr : World} {g n m : Nat} {T : TypeId} {v : Nat → Value} (h : CellsAt wr g T n v) : CellsAt (wr.drewN m) g T n v := h
theorem cellsAt_new (W : World) (g n : Nat) (T : TypeId) (v : Nat → Value) (hg : W.heap.size = g) {cs : Array Value} (hc : cs = cellsV n v) : CellsAt (W.alloc (.cells cs T)) g T n v := by
  subst hg; subst hc; exact heap_alloc_new W _
/-- A list known whole as such a block. -/
theorem cellsAt_list {wr : World} {g : Nat} {T : TypeId} {xs : List Value} (h : wr.heap[g]? = some (.cells xs.toArray T (0, 0))) (n : Nat) (v : Nat → Value) (hn : xs.length = n) (hv : ∀ j, j < n → xs[j]? = some (v j)) : CellsAt wr g T n v := by
  unfold CellsAt; rw [h]; congr 2
  apply Array.ext_getElem?
  intro j
  by_cases hj : j < n
  · rw [cellsV_at n v j hj]; simpa using hv j hj
  · rw [Array.getElem?_eq_none (by simp; omega), Array.getElem?_eq_none (by rw [cellsV_size]; omega)]
end Go.Proofs.YthkbllkhomjmbaaDoor

namespace Go.Proofs.YthkbllkhomjmbaaDoor
open Go.RowKit

/-- v is a slice of n elements of sz cells, which read as xs. -/
def Rd (w : World) (v : Value) (n sz : Nat) (xs : List Value) : Prop :=
  xs.length = n * sz ∧ ∃ a c, v = .slice a n c ∧ (0 < n → ∃ b off, a = some ⟨b, off, none⟩ ∧ b < w.heap.size ∧ ∀ j, j < n * sz → w.cell? ⟨b, off + j, none⟩ = xs[j]?)
/-- The same, its block made since the heap had lo blocks, and free to be written. -/
def Own (w : World) (lo : Nat) (v : Value) (n sz : Nat) (xs : List Value) : Prop :=
  xs.length = n * sz ∧ ∃ a c, v = .slice a n c ∧ (0 < n → ∃ b off, a = some ⟨b, off, none⟩ ∧ lo ≤ b ∧ b < w.heap.size ∧ (∀ j, j < n * sz → w.cell? ⟨b, off + j, none⟩ = xs[j]?) ∧ ∀ j, j < n * sz → w.frozen? ⟨b, off + j, none⟩ = false)
theorem Own.rd {w : World} {lo n sz : Nat} {v : Value} {xs : List Value} (h : Own w lo v n sz xs) : Rd w v n sz xs := by
  obtain ⟨h1, a, c, rfl, h2⟩ := h
  exact ⟨h1, a, c, rfl, fun h0 => by obtain ⟨b, off, e, _, hb, hc, _⟩ := h2 h0; exact ⟨b, off, e, hb, hc⟩⟩
/-- w' is w, but for blocks from B on and but for what was drawn. -/
theorem Rd.below {w w' : World} {n sz B : Nat} {v : Value} {xs : List Value} (h : Rd w v n sz xs) (hb : Below B w w') (hB : w.heap.size ≤ B) : Rd w' v n sz xs := by
  obtain ⟨h1, a, c, rfl, h2⟩ := h
  exact ⟨h1, a, c, rfl, fun h0 => by
    obtain ⟨b, off, e, hl, hc⟩ := h2 h0
    exact ⟨b, off, e, Nat.lt_of_lt_of_le hl hb.size, fun j hj => (hb.cell (p := ⟨b, off + j, none⟩) (by simp; omega)).trans (hc j hj)⟩⟩
theorem Own.below {w w' : World} {lo n sz B : Nat} {v : Value} {xs : List Value} (h : Own w lo v n sz xs) (hb : Below B w w') (hB : w.heap.size ≤ B) : Own w' lo v n sz xs := by
  obtain ⟨h1, a, c, rfl, h2⟩ := h
  exact ⟨h1, a, c, rfl, fun h0 => by
    obtain ⟨b, off, e, hlo, hl, hc, hf⟩ := h2 h0
    exact ⟨b, off, e, hlo, Nat.lt_of_lt_of_le hl hb.size, fun j hj => (hb.cell (p := ⟨b, off + j, none⟩) (by simp; omega)).trans (hc j hj), fun j hj => (hb.frozen (p := ⟨b, off + j, none⟩) (by simp; omega)).trans (hf j hj)⟩⟩
theorem Own.lower {w : World} {lo lo' n sz : Nat} {v : Value} {xs : List Value} (h : Own w lo v n sz xs) (hl : lo' ≤ lo) : Own w lo' v n sz xs := by
  obtain ⟨h1, a, c, rfl, h2⟩ := h
  exact ⟨h1, a, c, rfl, fun h0 => by obtain ⟨b, off, e, hlo, r⟩ := h2 h0; exact ⟨b, off, e, Nat.le_trans hl hlo, r⟩⟩
/-- Nothing but one block, and new ones, has turned; the slice lies elsewhere. -/
theorem Rd.grown {w w' : World} {n sz : Nat} {v : Value} {xs : List Value} {row : Option Nat} (h : Rd w v n sz xs) (hg : w.grownBy w' row) (hne : 0 < n → v.ownBlock ≠ row) : Rd w' v n sz xs := by
  obtain ⟨h1, a, c, rfl, h2⟩ := h
  exact ⟨h1, a, c, rfl, fun h0 => by
    obtain ⟨b, off, rfl, hl, hc⟩ := h2 h0
    exact ⟨b, off, rfl, Nat.lt_of_lt_of_le hl hg.size, fun j hj => (World.cell?_of_block (w := w) (a := ⟨b, off + j, none⟩) (hg.block b hl (hne h0))).trans (hc j hj)⟩⟩
theorem Own.grown {w w' : World} {lo n sz : Nat} {v : Value} {xs : List Value} {row : Option Nat} (h : Own w lo v n sz xs) (hg : w.grownBy w' row) (hne : 0 < n → v.ownBlock ≠ row) : Own w' lo v n sz xs := by
  obtain ⟨h1, a, c, rfl, h2⟩ := h
  exact ⟨h1, a, c, rfl, fun h0 => by
    obtain ⟨b, off, rfl, hlo, hl, hc, hf⟩ := h2 h0
    exact ⟨b, off, rfl, hlo, Nat.lt_of_lt_of_le hl hg.size, fun j hj => (World.cell?_of_block (w := w) (a := ⟨b, off + j, none⟩) (hg.block b hl (hne h0))).trans (hc j hj), fun j hj => (World.frozen?_of_block (w := w) (a := ⟨b, off + j, none⟩) (hg.block b hl (hne h0))).trans (hf j hj)⟩⟩
theorem Rd.drewN {w : World} {n sz m : Nat} {v : Value} {xs : List Value} (h : Rd w v n sz xs) : Rd (w.drewN m) v n sz xs := h
theorem Own.drewN {w : World} {lo n sz m : Nat} {v : Value} {xs : List Value} (h : Own w lo v n sz xs) : Own (w.drewN m) lo v n sz xs := h
theorem Rd.get {w : World} {n sz c : Nat} {a : Option Addr} {xs : List Value} (h : Rd w (.slice a n c) n sz xs) (h0 : 0 < n) : ∃ b off, a = some ⟨b, off, none⟩ ∧ b < w.heap.size ∧ ∀ j, j < n * sz → w.cell? ⟨b, off + j, none⟩ = xs[j]? := by
  obtain ⟨_, a', c', e, h2⟩ := h
  simp only [Value.slice.injEq, true_and] at e
  obtain ⟨rfl, rfl⟩ := e
  exact h2 h0
theorem Own.get {w : World} {lo n sz c : Nat} {a : Option Addr} {xs : List Value} (h : Own w lo (.slice a n c) n sz xs) (h0 : 0 < n) : ∃ b off, a = some ⟨b, off, none⟩ ∧ lo ≤ b ∧ b < w.heap.size ∧ (∀ j, j < n * sz → w.cell? ⟨b, off + j, none⟩ = xs[j]?) ∧ ∀ j, j < n * sz → w.frozen? ⟨b, off + j, none⟩ = false := by
  obtain ⟨_, a', c', e, h2⟩ := h
  simp only [Value.slice.injEq, true_and] at e
  obtain ⟨rfl, rfl⟩ := e
  exact h2 h0
/-- One cell of it written. -/
theorem Own.set {w : World} {lo n sz c b off : Nat} {xs : List Value} (h : Own w lo (.slice (some ⟨b, off, none⟩) n c) n sz xs) (j : Nat) (x : Value) (hj : j < n * sz) (hc : ∃ v, w.cell? ⟨b, off + j, none⟩ = some v) :
    Own (w.setCell ⟨b, off + j, none⟩ x) lo (.slice (some ⟨b, off, none⟩) n c) n sz (xs.set j x) := by
  obtain ⟨h1, _⟩ := id h
  refine ⟨by simpa using h1, _, _, rfl, fun h0 => ?_⟩
  obtain ⟨b', off', e, hlo, hl, hcell, hf⟩ := h.get h0
  simp only [Option.some.injEq, Addr.mk.injEq, and_true] at e
  obtain ⟨rfl, rfl⟩ := e
  refine ⟨b, off, rfl, hlo, by simpa using hl, fun i hi => ?_, fun i hi => by rw [World.frozen?_setCell]; exact hf i hi⟩
  by_cases hij : i = j
  · subst hij
    obtain ⟨v, hv⟩ := hc
    rw [World.cell?_setCell_same (w := w) (h := hv), List.getElem?_set_self (by omega)]
  · rw [World.cell?_setCell_other (h := fun e => hij (by have := (Addr.mk.inj e).2.1; omega)), hcell i hi, List.getElem?_set_ne (by omega)]
theorem grown_set {w w1 : World} {b i : Nat} {x : Value} (h : w.grownBy w1 (some b)) : w.grownBy (w1.setCell ⟨b, i, none⟩ x) (some b) :=
  h.andThen (c := w1.setCell ⟨b, i, none⟩ x) (row' := some b) ⟨rfl, rfl, rfl, by simp, fun k _ hk => Below.heap_setCell w1 ⟨b, i, none⟩ x k (fun e => hk (by rw [e]))⟩ (fun _ e => .inr e)
theorem below_grown {w w' : World} (h : Below w.heap.size w w') : w.grownBy w' none := ⟨h.os, h.tape, h.output, h.size, fun k hk _ => h.block k hk⟩
theorem own_of_row {w : World} {base e n sz : Nat} {v : Value} {xs : List Value} (h : w.ownsRow base e sz v n xs) : Own w base v n sz xs := by
  refine ⟨h.1, ?_⟩
  rcases h.2 with ⟨rfl, rfl⟩ | ⟨g, cap, cur, rfl, h1, h2, h3, h4, h5, h6⟩
  · exact ⟨none, 0, rfl, fun h => absurd h (Nat.lt_irrefl 0)⟩
  · refine ⟨_, _, rfl, fun _ => ⟨g, 0, rfl, h1, (Array.getElem?_eq_some_iff.1 h2).1, fun j hj => ?_, fun j _ => ?_⟩⟩
    · rw [Nat.zero_add]; exact h.cellAt j hj
    · rw [Nat.zero_add]; exact frozen_of_row w g j _ e h2
theorem own_of_cells {w : World} {lo g T n sz N cap : Nat} {f : Nat → Value} {xs : List Value} (h : CellsAt w g T N f) (hlo : lo ≤ g) (hN : n * sz ≤ N) (hl : xs.length = n * sz) (hx : ∀ j, j < n * sz → xs[j]? = some (f j)) :
    Own w lo (.slice (some ⟨g, 0, none⟩) n cap) n sz xs :=
  ⟨hl, _, _, rfl, fun _ => ⟨g, 0, rfl, hlo, h.lt, fun j hj => by rw [Nat.zero_add, h.cell j (by omega), hx j hj], fun j _ => by rw [Nat.zero_add]; exact h.frozen j⟩⟩
/-- What a call gives that makes a slice. -/
def MadeRow (w : World) (n sz : Nat) (xs : List Value) (e : Ending) (w' : World) : Prop := ∃ v, e = .returned v ∧ Own w' w.heap.size v n sz xs ∧ Below w.heap.size w w'
/-- Nothing but what was drawn. -/
def Still (w w' : World) : Prop := ∃ m, w' = w.drewN m
theorem Still.refl (w : World) : Still w w := ⟨0, rfl⟩
theorem Still.trans {a b c : World} (h : Still a b) (k : Still b c) : Still a c := by
  obtain ⟨m, rfl⟩ := h; obtain ⟨n, rfl⟩ := k; exact ⟨m + n, by simp⟩
theorem Still.below {w w' : World} (h : Still w w') (B : Nat) : Below B w w' := by obtain ⟨m, rfl⟩ := h; exact below_drewN (Below.refl _ _) m
theorem Still.rd {w w' : World} {n sz : Nat} {v : Value} {xs : List Value} (h : Still w w') (k : Rd w v n sz xs) : Rd w' v n sz xs := by obtain ⟨m, rfl⟩ := h; exact k
theorem Still.own {w w' : World} {lo n sz : Nat} {v : Value} {xs : List Value} (h : Still w w') (k : Own w lo v n sz xs) : Own w' lo v n sz xs := by obtain ⟨m, rfl⟩ := h; exact k
/-- The block of a slice of n elements, if it has one that matters. -/
def blk (v : Value) (n : Nat) : Option Nat := if n = 0 then none else v.ownBlock
theorem blk_pos {b off n c : Nat} (h : 0 < n) : blk (.slice (some ⟨b, off, none⟩) n c) n = some b := by unfold blk; rw [if_neg (by omega)]; rfl
theorem Own.blk {w : World} {lo n sz : Nat} {v : Value} {xs : List Value} (h : Own w lo v n sz xs) : ∀ k, blk v n = some k → lo ≤ k ∧ k < w.heap.size := by
  intro k hk
  obtain ⟨_, a, c, rfl, h2⟩ := h
  by_cases h0 : 0 < n
  · obtain ⟨b, off, rfl, hlo, hl, _⟩ := h2 h0
    rw [blk_pos h0] at hk
    cases hk; exact ⟨hlo, hl⟩
  · obtain rfl : n = 0 := by omega
    simp [Proofs.YthkbllkhomjmbaaDoor.blk] at hk
theorem Rd.blk {w : World} {n sz : Nat} {v : Value} {xs : List Value} (h : Rd w v n sz xs) : ∀ k, blk v n = some k → k < w.heap.size := by
  intro k hk
  obtain ⟨_, a, c, rfl, h2⟩ := h
  by_cases h0 : 0 < n
  · obtain ⟨b, off, rfl, hl, _⟩ := h2 h0
    rw [blk_pos h0] at hk
    cases hk; exact hl
  · obtain rfl : n = 0 := by omega
    simp [Proofs.YthkbllkhomjmbaaDoor.blk] at hk
/-- Nothing but the blocks s and d, and new ones, has turned. -/
structure Two (s d : Option Nat) (w w' : World) : Prop where
  os : w'.os = w.os
  tape : w'.tape = w.tape
  output : w'.output = w.output
  size : w.heap.size ≤ w'.heap.size
  block : ∀ k, k < w.heap.size → some k ≠ s → some k ≠ d → w'.heap[k]? = w.heap[k]?
theorem Two.below {s d : Option Nat} {w w' : World} (h : Two s d w w') {lo : Nat} (hs : ∀ k, s = some k → lo ≤ k) (hd : ∀ k, d = some k → lo ≤ k) (hw : lo ≤ w.heap.size) : Below lo w w' :=
  ⟨h.os, h.tape, h.output, h.size, fun k hk => h.block k (by omega) (fun e => by have := hs k e.symm; omega) (fun e => by have := hd k e.symm; omega)⟩
theorem Two.refl (s d : Option Nat) (w : World) : Two s d w w := ⟨rfl, rfl, rfl, Nat.le_refl _, fun _ _ _ _ => rfl⟩
theorem Two.trans {s d : Option Nat} {a b c : World} (h : Two s d a b) (k : Two s d b c) : Two s d a c :=
  ⟨k.os.trans h.os, k.tape.trans h.tape, k.output.trans h.output, Nat.le_trans h.size k.size, fun i hi h1 h2 => (k.block i (Nat.lt_of_lt_of_le hi h.size) h1 h2).trans (h.block i hi h1 h2)⟩
theorem two_left {s d : Option Nat} {w w' : World} (h : w.grownBy w' s) : Two s d w w' := ⟨h.os, h.tape, h.output, h.size, fun k hk h1 _ => h.block k hk h1⟩
theorem two_right {s d : Option Nat} {w w' : World} (h : w.grownBy w' d) : Two s d w w' := ⟨h.os, h.tape, h.output, h.size, fun k hk _ h2 => h.block k hk h2⟩
theorem two_below {s d : Option Nat} {w w' : World} (h : Below w.heap.size w w') : Two s d w w' := ⟨h.os, h.tape, h.output, h.size, fun k hk _ _ => h.block k hk⟩
theorem Rd.two {w w' : World} {n sz : Nat} {v : Value} {xs : List Value} {s d : Option Nat} (h : Rd w v n sz xs) (ht : Two s d w w') (hne : ∀ k, Proofs.YthkbllkhomjmbaaDoor.blk v n = some k → some k ≠ s ∧ some k ≠ d) : Rd w' v n sz xs := by
  obtain ⟨h1, a, c, rfl, h2⟩ := h
  exact ⟨h1, a, c, rfl, fun h0 => by
    obtain ⟨b, off, rfl, hl, hc⟩ := h2 h0
    have hb := ht.block b hl (hne b (blk_pos h0)).1 (hne b (blk_pos h0)).2
    exact ⟨b, off, rfl, Nat.lt_of_lt_of_le hl ht.size, fun j hj => (World.cell?_of_block (w := w) (a := ⟨b, off + j, none⟩) hb).trans (hc j hj)⟩⟩
theorem Own.two {w w' : World} {lo n sz : Nat} {v : Value} {xs : List Value} {s d : Option Nat} (h : Own w lo v n sz xs) (ht : Two s d w w') (hne : ∀ k, Proofs.YthkbllkhomjmbaaDoor.blk v n = some k → some k ≠ s ∧ some k ≠ d) : Own w' lo v n sz xs := by
  obtain ⟨h1, a, c, rfl, h2⟩ := h
  exact ⟨h1, a, c, rfl, fun h0 => by
    obtain ⟨b, off, rfl, hlo, hl, hc, hf⟩ := h2 h0
    have hb := ht.block b hl (hne b (blk_pos h0)).1 (hne b (blk_pos h0)).2
    exact ⟨b, off, rfl, hlo, Nat.lt_of_lt_of_le hl ht.size, fun j hj => (World.cell?_of_block (w := w) (a := ⟨b, off + j, none⟩) hb).trans (hc j hj), fun j hj => (World.frozen?_of_block (w := w) (a := ⟨b, off + j, none⟩) hb).trans (hf j hj)⟩⟩
theorem Own.other {w : World} {lo n sz : Nat} {v : Value} {xs : List Value} (h : Own w lo v n sz xs) (p : Addr) (x : Value) (hp : ∀ k, Proofs.YthkbllkhomjmbaaDoor.blk v n = some k → k ≠ p.block) : Own (w.setCell p x) lo v n sz xs := by
  obtain ⟨h1, a, c, rfl, h2⟩ := h
  exact ⟨h1, a, c, rfl, fun h0 => by
    obtain ⟨b, off, rfl, hlo, hl, hc, hf⟩ := h2 h0
    have hb := Below.heap_setCell w p x b (hp b (blk_pos h0))
    exact ⟨b, off, rfl, hlo, by simpa using hl, fun j hj => (World.cell?_of_block (w := w) (a := ⟨b, off + j, none⟩) hb).trans (hc j hj), fun j hj => (World.frozen?_of_block (w := w) (a := ⟨b, off + j, none⟩) hb).trans (hf j hj)⟩⟩
end Go.Proofs.YthkbllkhomjmbaaDoor

namespace Go.Proofs.YthkbllkhomjmbaaDoor
open Go.RowKit

theorem Tryd.info9 : (Tryd.prog.info? 9).map (fun i => (i.zero, i.size, i.bytes)) = some (some (.string ByteArray.empty), 1, 16) := by kernel_rfl
def strs (l : List ByteArray) : List Value := l.map Value.string
theorem strs_length (l : List ByteArray) : (strs l).length = l.length := by simp [strs]
theorem strs_at (l : List ByteArray) (j : Nat) (h : j < l.length) : (strs l)[j]? = some (.string l[j]) := by simp [strs, h]

def CopyRel (w : World) (l : List ByteArray) (i : Value) (wr : World) : Prop :=
  ∃ k : Nat, k ≤ l.length ∧ i = .int .i64 k ∧ CellsAt wr w.heap.size 9 l.length (fun j => .string (if j < k then l.getD j ByteArray.empty else ByteArray.empty)) ∧ Below w.heap.size w wr
theorem made_strs {w1 : World} {g n : Nat} (h : w1.heap[g]? = some (.cells (List.replicate n (Value.string ByteArray.empty)).toArray 9 (0, 0))) : CellsAt w1 g 9 n (fun _ => .string ByteArray.empty) :=
  cellsAt_list h n _ (by simp) (fun j hj => by simp [hj])

set_option maxRecDepth 100000 in
set_option maxHeartbeats 1000000 in
theorem toStrs_any (v : Value) (l : List ByteArray) (w : World) (h : Rd w v l.length 1 (strs l)) (hn : l.length ≤ 1048576) :
    Calls Tryd.prog 51 #[v] w (MadeRow w l.length 1 (strs l)) := by
  obtain ⟨i0, hi, hz0, hz1, hz2⟩ := info_parts Tryd.info9
  obtain ⟨_, a, c, rfl, hc⟩ := h
  have HC := Lib.hid hc
  clear hc
  go_enter Tryd.func51, Tryd.ntmps51
  go_wp2_with (at_make; refine wpList_make_full _ rfl _ _ 63 rfl w.heap.size 9 i0 (.string ByteArray.empty) 1 Tryd.underlying63 hi hz0 hz1 .i64 .i64 _ _ l.length rfl rfl (by omega) (by omega) (by rw [hz2]; omega) (by unfold maxLen; omega) (Nat.le_refl _) ?_)
  intro w1 hown1 hgrow1
  have hb1 : Below w.heap.size w w1 := (Below.refl _ w).grown hgrow1 (Nat.le_refl _) (by simp)
  have hg1 := own_block hown1
  rw [toList_madeCells_one] at hg1
  have HG1 := Lib.hid (made_strs hg1)
  have HB1 := Lib.hid hb1
  clear hown1 hgrow1 hg1 hb1 hi hz0 hz1 hz2
  go_wp2_with fail
  go_loopw [4] (fun i wr => CopyRel w l i wr) (fun i _ => l.length - (intOf i).toNat)
  case atStart => exact ⟨0, by omega, rfl, HG1.out, HB1.out⟩
  case round =>
    clear HG1 HB1
    obtain ⟨k, hk, rfl, hcs, hbel⟩ := hrel
    by_cases hlt : k < l.length
    · obtain ⟨b, off, rfl, hbl, hcell⟩ := HC.out (by omega)
      have hc1 : wr.cell? ⟨b, off + k, none⟩ = some (.string l[k]) := by
        rw [hbel.cell (p := ⟨b, off + k, none⟩) hbl, hcell k (by omega), strs_at l k hlt]
      have hc2 := hcs.cell k hlt
      have hf2 := hcs.frozen k
      have hne : ¬ b = w.heap.size := by omega
      have HCS := Lib.hid hcs
      have HBEL := Lib.hid hbel
      clear hcs hbel hcell
      go_wp2_with fail
      go_roundw
      case rel =>
        refine ⟨k + 1, by omega, by go_num, ?_, HBEL.out.setCell (p := ⟨w.heap.size, k, none⟩) (Nat.le_refl _) _⟩
        refine HCS.out.set k _ ?_ ?_
        · show Value.string (if k < k + 1 then l.getD k ByteArray.empty else ByteArray.empty) = _
          rw [if_pos (by omega), List.getD_eq_getElem?_getD, List.getElem?_eq_getElem hlt]; rfl
        · intro i hi
          show Value.string (if i < k + 1 then l.getD i ByteArray.empty else ByteArray.empty) = .string (if i < k then l.getD i ByteArray.empty else ByteArray.empty)
          by_cases h1 : i < k
          · rw [if_pos h1, if_pos (by omega)]
          · rw [if_neg h1, if_neg (by omega)]
      case measure => simp [intOf]; omega
    · obtain rfl : k = l.length := by omega
      have HCS := Lib.hid hcs
      have HBEL := Lib.hid hbel
      clear hcs hbel
      go_wp2_with fail
      go_ret
      refine ⟨_, rfl, ?_, HBEL.out⟩
      refine own_of_cells HCS.out (Nat.le_refl _) (by omega) (by rw [strs_length]; omega) (fun j hj => ?_)
      rw [strs_at l j (by omega), if_pos (by omega), List.getD_eq_getElem?_getD, List.getElem?_eq_getElem (by omega)]; rfl

/-- What is left of a measure: less than nothing, or all was within it. -/
def Left (P : Prop) (w : World) (e : Ending) (w' : World) : Prop := ∃ r : Int, e = .returned (.int .i64 r) ∧ w = w' ∧ (r = -1 ∨ 0 ≤ r ∧ P)
def LeftIn (left : Int) (P : Prop) (w : World) (e : Ending) (w' : World) : Prop := ∃ r : Int, e = .returned (.int .i64 r) ∧ w = w' ∧ (r = -1 ∨ 0 ≤ r ∧ r ≤ left ∧ P)
def SizeRel (l : List ByteArray) (left : Int) (x i : Value) : Prop :=
  ∃ (k : Nat) (r : Int), k ≤ l.length ∧ i = .int .i64 k ∧ x = .int .i64 r ∧ 0 ≤ r ∧ r ≤ left ∧ ∀ j (h : j < l.length), j < k → (l[j].size : Int) ≤ left
set_option maxRecDepth 100000 in
set_option maxHeartbeats 1000000 in
theorem szStrs_any (v : Value) (l : List ByteArray) (left : Int) (w : World) (h : Rd w v l.length 1 (strs l)) (hn : l.length ≤ maxLen) (hs : ∀ s ∈ l, s.size ≤ maxLen) (h0 : 0 ≤ left) (h1 : left ≤ 1048576) :
    Calls Tryd.prog 49 #[v, .int .i64 left] w (LeftIn left (l.length ≤ left ∧ ∀ s ∈ l, (s.size : Int) ≤ left) w) := by
  unfold maxLen at hn hs
  obtain ⟨_, a, c, rfl, hc⟩ := h
  have HC := Lib.hid hc
  have HS := Lib.hid hs
  clear hc hs
  by_cases hlen : left - l.length < 0
  · go_enter Tryd.func49, Tryd.ntmps49
    go_wp2_with fail
    go_ret
    exact ⟨-1, rfl, rfl, .inl rfl⟩
  · have d0 : decide (left - (l.length : Int) < 0) = false := decide_eq_false hlen
    go_enter Tryd.func49, Tryd.ntmps49
    go_wp2_with fail
    go_loop [1, 5] (fun x i => SizeRel l left x i) (fun _ i => l.length - (intOf i).toNat)
    case atStart => exact ⟨0, _, by omega, rfl, rfl, by omega, by omega, fun j _ hj => absurd hj (by omega)⟩
    case round =>
      obtain ⟨k, r, hk, rfl, rfl, hr0, hr1, hsz⟩ := hrel
      have HSZ := Lib.hid hsz
      clear hsz
      by_cases hlt : k < l.length
      · obtain ⟨b, off, rfl, hbl, hcell⟩ := HC.out (by omega)
        have hc1 : w.cell? ⟨b, off + k, none⟩ = some (.string l[k]) := by rw [hcell k (by omega), strs_at l k hlt]
        have hsk := HS.out l[k] (List.getElem_mem hlt)
        clear hcell
        by_cases hneg : r - (l[k].size : Int) < 0
        · go_wp2_with fail
          go_ret
          exact ⟨-1, rfl, rfl, .inl rfl⟩
        · have d1 : decide (r - (l[k].size : Int) < 0) = false := decide_eq_false hneg
          have hsl : (l[k].size : Int) ≤ left := by omega
          go_wp2_with fail
          go_round
          case rel =>
            refine ⟨k + 1, _, by omega, by go_num, rfl, by omega, by omega, fun j h hj => ?_⟩
            by_cases hjk : j = k
            · subst hjk; exact hsl
            · exact HSZ.out j h (by omega)
          case measure => simp [intOf]; omega
      · obtain rfl : k = l.length := by omega
        go_wp2_with fail
        go_ret
        refine ⟨r, rfl, rfl, .inr ⟨hr0, hr1, by omega, fun s hs => ?_⟩⟩
        obtain ⟨j, hj, rfl⟩ := List.getElem_of_mem hs
        exact HSZ.out j hj hj

def EqRel (w : World) (n : Nat) (i : Value) (wr : World) : Prop := ∃ k : Nat, k ≤ n ∧ i = .int .i64 k ∧ Still w wr
set_option maxRecDepth 100000 in
set_option maxHeartbeats 1000000 in
theorem eqStrs_any (v u : Value) (l : List ByteArray) (w : World) (h : Rd w v l.length 1 (strs l)) (k : Rd w u l.length 1 (strs l)) (hn : l.length ≤ maxLen) :
    Calls Tryd.prog 54 #[v, u] w fun e w' => e = .returned (.bool true) ∧ Still w w' := by
  unfold maxLen at hn
  obtain ⟨_, a, c, rfl, hc⟩ := h
  obtain ⟨_, a', c', rfl, hc'⟩ := k
  have HC := Lib.hid hc
  have HC' := Lib.hid hc'
  clear hc hc'
  have d0 : ((l.length : Int) != (l.length : Int)) = false := by simp
  go_enter Tryd.func54, Tryd.ntmps54
  go_wp2_with fail
  go_loopw [5] (fun i wr => EqRel w l.length i wr) (fun i _ => l.length - (intOf i).toNat)
  case atStart => exact ⟨0, by omega, rfl, Still.refl w⟩
  case round =>
    obtain ⟨k, hk, rfl, hst⟩ := hrel
    by_cases hlt : k < l.length
    · obtain ⟨b, off, rfl, hbl, hcell⟩ := HC.out (by omega)
      obtain ⟨b', off', rfl, hbl', hcell'⟩ := HC'.out (by omega)
      have hc1 : wr.cell? ⟨b, off + k, none⟩ = some (.string l[k]) := by
        rw [(hst.below w.heap.size).cell (p := ⟨b, off + k, none⟩) hbl, hcell k (by omega), strs_at l k hlt]
      have hc2 : wr.cell? ⟨b', off' + k, none⟩ = some (.string l[k]) := by
        rw [(hst.below w.heap.size).cell (p := ⟨b', off' + k, none⟩) hbl', hcell' k (by omega), strs_at l k hlt]
      have HST := Lib.hid hst
      clear hcell hcell' hst
      have e0 : (k : Int) < (l.length : Int) := by omega
      have e1 : (0 : Int) ≤ (k : Int) := by omega
      go_wp2_with fail
      go_quiet (fail)
      go_wp2_with fail
      go_roundw
      case rel => exact ⟨k + 1, by omega, by go_num, HST.out.trans ⟨_, rfl⟩⟩
      case measure => simp [intOf]; omega
    · obtain rfl : k = l.length := by omega
      go_wp2_with fail
      go_ret
      exact ⟨rfl, hst⟩
end Go.Proofs.YthkbllkhomjmbaaDoor

namespace Go.Proofs.YthkbllkhomjmbaaDoor
open Go.RowKit

def dig (k : Nat) : UInt8 := UInt8.ofNat (48 + k % 10)
theorem dig_val (n : Nat) : (48 + (n : Int) % 10) = ((dig n).toNat : Int) := by
  unfold dig; rw [UInt8.toNat_ofNat']; omega
def digs (k : Nat) (acc : List UInt8) : List UInt8 := if _h : k = 0 then acc else digs (k / 10) (dig k :: acc)
termination_by k
decreasing_by omega
theorem digs_zero (acc : List UInt8) : digs 0 acc = acc := by rw [digs, dif_pos rfl]
theorem digs_more (k : Nat) (acc : List UInt8) (h : 0 < k) : digs k acc = digs (k / 10) (dig k :: acc) := by rw [digs, dif_neg (by omega)]
/-- A list of bytes as a string. -/
def accS (l : List UInt8) : ByteArray := ⟨l.toArray⟩
theorem accS_size (l : List UInt8) : (accS l).size = l.length := by show l.toArray.size = _; simp
theorem accS_cons (x : UInt8) (l : List UInt8) : accS [x] ++ accS l = accS (x :: l) := by
  apply ByteArray.ext; simp [accS]
/-- The text of the number k. -/
def markS (k : Nat) : ByteArray := accS (109 :: digs k [])
def MarkRel (k0 : Nat) (w : World) (n t : Value) (wr : World) : Prop :=
  ∃ (k : Nat) (acc : List UInt8), n = .int .i64 k ∧ t = .string (accS acc) ∧ acc.length ≤ 11 ∧ digs k acc = digs k0 [] ∧ k * 10 ^ acc.length ≤ k0 ∧ Below w.heap.size w wr
theorem len_bound (k k0 n : Nat) (h : 0 < k) (hb : k * 10 ^ n ≤ k0) (h0 : k0 ≤ 10000000000) : n ≤ 10 := by
  have h1 : 10 ^ n ≤ k0 := Nat.le_trans (Nat.le_mul_of_pos_left _ h) hb
  have h2 : 10 ^ n ≤ 10 ^ 10 := Nat.le_trans h1 h0
  exact (Nat.pow_le_pow_iff_right (by decide)).1 h2
theorem next_bound (k k0 n : Nat) (hb : k * 10 ^ n ≤ k0) : k / 10 * 10 ^ (n + 1) ≤ k0 := by
  have : k / 10 * 10 ^ (n + 1) ≤ k * 10 ^ n := by
    rw [Nat.pow_succ, Nat.mul_comm (10 ^ n) 10, ← Nat.mul_assoc]
    exact Nat.mul_le_mul_right _ (by omega)
  omega

set_option maxRecDepth 100000 in
set_option maxHeartbeats 1000000 in
theorem markText_any (k : Nat) (w : World) (h0 : 1 ≤ k) (h1 : k ≤ 10000000000) :
    Calls Tryd.prog 101 #[.int .i64 k] w fun e w' => e = .returned (.string (markS k)) ∧ Below w.heap.size w w' := by
  have d0 : decide ((k : Int) ≤ 0) = false := decide_eq_false (by omega)
  have d1 : decide (k = 0) = false := decide_eq_false (by omega)
  have he : ByteArray.mk #[] = accS [] := rfl
  have hm : ByteArray.mk #[109] = accS [109] := rfl
  go_enter Tryd.func101, Tryd.ntmps101
  go_wp2_with fail
  go_loopw [0, 3] (fun n t wr => MarkRel k w n t wr) (fun n _ _ => (intOf n).toNat)
  case atStart => exact ⟨k, [], rfl, rfl, by simp, rfl, by simp, Below.refl _ _⟩
  case round =>
    obtain ⟨n, acc, rfl, rfl, hal, hd, hb, hbel⟩ := hrel
    have HD := Lib.hid hd
    have HB := Lib.hid hb
    have HBEL := Lib.hid hbel
    have hsz : (accS acc).size ≤ 20 := by rw [accS_size]; omega
    clear hd hb hbel
    by_cases hn : 0 < n
    · have hlen := len_bound n k acc.length hn HB.out h1
      have hn1 : n ≤ 10000000000 := by
        have := HB.out
        have h3 : n ≤ n * 10 ^ acc.length := Nat.le_mul_of_pos_right _ (Nat.pow_pos (by decide))
        omega
      have conv := conv_block (c := 1) (w := wr.alloc (Obj.cells #[Value.int IntKind.u8 (48 + (n : Int) % 10)] 5)) (g := wr.heap.size) (e := 5) (xs := [Value.int IntKind.u8 (48 + (n : Int) % 10)]) (heap_alloc_new wr _) [dig n] 1 rfl (by
        rw [dig_val n]; rfl)
      rw [show (⟨[dig n].toArray⟩ : ByteArray) = accS [dig n] from rfl] at conv
      have hsz1 : (accS [dig n]).size ≤ 1 := by rw [accS_size]; simp
      go_wp2_with fail
      go_roundw
      case rel => exact ⟨n / 10, dig n :: acc, by go_num, by rw [accS_cons], by simp; omega, by rw [← digs_more n acc hn]; exact HD.out, next_bound _ _ _ HB.out, HBEL.out.alloc HBEL.out.size _⟩
      case measure => simp [intOf]; omega
    · obtain rfl : n = 0 := by omega
      have hd := HD.out
      rw [digs_zero] at hd
      have HX := Lib.hid (show markS k = accS [109] ++ accS acc by rw [accS_cons, hd]; rfl)
      have hs1 : (accS [109]).size ≤ 1 := by rw [accS_size]; simp
      clear hd HD HB
      go_wp2_with fail
      go_ret
      exact ⟨by rw [HX.out]; rfl, HBEL.out⟩

def marks (k n : Nat) : List Value := (List.range n).map fun j => .string (markS (k + j))
theorem marks_length (k n : Nat) : (marks k n).length = n := by simp [marks]
/-- The first i marked, the others as they were. -/
def marked (k i : Nat) (xs : List Value) : List Value := (List.range xs.length).map fun j => if j < i then .string (markS (k + j)) else xs.getD j undef
theorem marked_length (k i : Nat) (xs : List Value) : (marked k i xs).length = xs.length := by simp [marked]
theorem marked_zero (k : Nat) (xs : List Value) : marked k 0 xs = xs := by
  apply List.ext_getElem
  · simp [marked]
  · intro j h1 h2; simp [marked, h2]
theorem marked_all (k : Nat) (xs : List Value) : marked k xs.length xs = marks k xs.length := by
  apply List.ext_getElem
  · simp [marked, marks]
  · intro j h1 h2; simp [marked] at h1; simp [marked, marks, h1]
theorem marked_set (k i : Nat) (xs : List Value) (_h : i < xs.length) : (marked k i xs).set i (.string (markS (k + i))) = marked k (i + 1) xs := by
  apply List.ext_getElem
  · simp [marked]
  · intro j h1 h2
    rw [List.getElem_set]
    by_cases hj : i = j
    · subst hj; simp [marked]
    · rw [if_neg hj]; simp only [marked, List.getElem_map, List.getElem_range]
      by_cases hji : j < i
      · rw [if_pos hji, if_pos (by omega)]
      · rw [if_neg hji, if_neg (by omega)]

/-- What marking a slice does: its cells turn, and nothing else that was there. -/
def Marked (lo : Nat) (v : Value) (n sz : Nat) (xs : List Value) (r : Int) (w : World) (e : Ending) (w' : World) : Prop :=
  e = .returned (.int .i64 r) ∧ Own w' lo v n sz xs ∧ w.grownBy w' (blk v n)
def MarkSRel (lo : Nat) (v : Value) (k n : Nat) (xs : List Value) (w : World) (q i : Value) (wr : World) : Prop :=
  ∃ j : Nat, j ≤ n ∧ q = .int .i64 ((k + j : Nat) : Int) ∧ i = .int .i64 j ∧ Own wr lo v n 1 (marked k j xs) ∧ w.grownBy wr (blk v n)
set_option maxRecDepth 100000 in
set_option maxHeartbeats 1000000 in
theorem markStrs_any (lo : Nat) (v : Value) (n k : Nat) (xs : List Value) (w : World) (h : Own w lo v n 1 xs) (hn : n ≤ 1048576) (h0 : 1 ≤ k) (h1 : k ≤ 1000000000) :
    Calls Tryd.prog 55 #[v, .int .i64 k] w (Marked lo v n 1 (marks k n) ((k + n : Nat) : Int) w) := by
  have hlx : xs.length = n := by simpa using h.1
  obtain ⟨a, c, rfl, _⟩ := h.2
  have HO := Lib.hid h
  have HX := Lib.hid hlx
  clear h hlx
  go_enter Tryd.func55, Tryd.ntmps55
  go_wp2_with fail
  go_loopw [1, 5] (fun q i wr => MarkSRel lo (.slice a n c) k n xs w q i wr) (fun _ i _ => n - (intOf i).toNat)
  case atStart => exact ⟨0, by omega, rfl, rfl, by rw [marked_zero]; exact HO.out, World.grownBy.refl w _⟩
  case round =>
    clear HO
    obtain ⟨j, hj, rfl, rfl, hown, hg⟩ := hrel
    by_cases hlt : j < n
    · obtain ⟨b, off, rfl, hlo, hbl, hc, hf⟩ := hown.get (by omega)
      rw [blk_pos (by omega)] at hg
      have HOWN := Lib.hid hown
      have HG := Lib.hid hg
      clear hown hg
      go_wp2_with fail
      refine (markText_any (k + j) _ (by omega) (by omega)).mono ?_
      rintro e w1 ⟨rfl, hb1⟩
      have hown1 := HOWN.out.below hb1 (Nat.le_refl _)
      have hc1 := (hb1.cell (p := ⟨b, off + j, none⟩) hbl).trans (hc j (by omega))
      have hf1 := (hb1.frozen (p := ⟨b, off + j, none⟩) hbl).trans (hf j (by omega))
      rw [List.getElem?_eq_getElem (by rw [marked_length, HX.out]; omega)] at hc1
      generalize (marked k j xs)[j]'(by rw [marked_length, HX.out]; omega) = v0 at hc1
      have HO1 := Lib.hid (hown1.set j (.string (markS (k + j))) (by omega) ⟨v0, hc1⟩)
      have HG1 := Lib.hid (grown_set (HG.out.andThen (below_grown hb1) (fun _ e => by cases e)) (b := b) (i := off + j) (x := .string (markS (k + j))))
      clear hb1 hown1 hc hf
      go_wp2_with fail
      go_roundw
      case rel => exact ⟨j + 1, by omega, by go_num, by go_num, by rw [← marked_set k j xs (by rw [HX.out]; omega)]; exact HO1.out, by rw [blk_pos (by omega)]; exact HG1.out⟩
      case measure => simp [intOf]; omega
    · obtain rfl : j = n := by omega
      have HOWN := Lib.hid hown
      have HG := Lib.hid hg
      clear hown hg
      go_wp2_with fail
      go_ret
      refine ⟨rfl, ?_, HG.out⟩
      have := HOWN.out
      rw [← HX.out, marked_all, HX.out] at this
      exact this

/-- What looking at a marked slice gives. -/
def Held (r : Int) (w : World) (e : Ending) (w' : World) : Prop := e = .returned (.int .i64 r) ∧ Below w.heap.size w w'
def HeldRel (k n : Nat) (w : World) (q i : Value) (wr : World) : Prop :=
  ∃ j : Nat, j ≤ n ∧ q = .int .i64 ((k + j : Nat) : Int) ∧ i = .int .i64 j ∧ Below w.heap.size w wr
theorem marks_at (k n j : Nat) (h : j < n) : (marks k n)[j]? = some (.string (markS (k + j))) := by simp [marks, h]
end Go.Proofs.YthkbllkhomjmbaaDoor

namespace Go.Proofs.YthkbllkhomjmbaaDoor
open Go.RowKit

abbrev D := Int × ByteArray
def dV (d : D) : Value := .agg #[.int .i64 d.1, .string d.2]
def dirs : List D → List Value
  | [] => []
  | d :: l => .int .i64 d.1 :: .string d.2 :: dirs l
theorem dirs_length : ∀ l : List D, (dirs l).length = l.length * 2
  | [] => rfl
  | d :: l => by simp [dirs, dirs_length l]; omega
theorem dirs_even : ∀ (l : List D) (j : Nat) (h : j < l.length), (dirs l)[j * 2]? = some (.int .i64 l[j].1)
  | d :: l, 0, _ => rfl
  | d :: l, j + 1, h => by
    rw [show (j + 1) * 2 = j * 2 + 1 + 1 by omega]
    simpa [dirs] using dirs_even l j (by simpa using h)
theorem dirs_odd : ∀ (l : List D) (j : Nat) (h : j < l.length), (dirs l)[j * 2 + 1]? = some (.string l[j].2)
  | d :: l, 0, _ => rfl
  | d :: l, j + 1, h => by
    rw [show (j + 1) * 2 + 1 = j * 2 + 1 + 1 + 1 by omega]
    simpa [dirs] using dirs_odd l j (by simpa using h)

/-- As LeftIn, memory having been made. -/
def LeftB (left : Int) (P : Prop) (w : World) (e : Ending) (w' : World) : Prop := ∃ r : Int, e = .returned (.int .i64 r) ∧ Below w.heap.size w w' ∧ (r = -1 ∨ 0 ≤ r ∧ r ≤ left ∧ P)
theorem own_block' {w : World} {base e g n sz : Nat} {xs : List Value} (h : w.ownsRow base e sz (.slice (some ⟨g, 0, none⟩) n n) n xs) : w.heap[g]? = some (.cells xs.toArray e (0, 0)) := by
  rcases h.2 with ⟨h', _⟩ | ⟨g', cap', cur, h', _, hg, _, _, hs, htake⟩
  · simp at h'
  · simp only [Value.slice.injEq, Option.some.injEq, Addr.mk.injEq, and_true, true_and] at h'
    obtain ⟨rfl, rfl⟩ := h'
    rw [hg, ← htake, List.take_of_length_le (by simp [hs])]
/-- The first k of l laid, the others at zero. -/
def dPart (l : List D) (k j : Nat) : Value := if j < k * 2 then (dirs l).getD j undef else if j % 2 = 0 then .int .i64 0 else .string ByteArray.empty
theorem d_laid {w2 : World} {g n k : Nat} {T : TypeId} {l : List D} (h : CellsAt w2 g T n (dPart l k)) (hk : k < l.length) :
    CellsAt ((w2.setCell ⟨g, k * 2, none⟩ (.int .i64 l[k].1)).setCell ⟨g, k * 2 + 1, none⟩ (.string l[k].2)) g T n (dPart l (k + 1)) := by
  refine ((h.set (v' := fun j => if j = k * 2 then .int .i64 l[k].1 else dPart l k j) (k * 2) _ (if_pos rfl) (fun i hi => if_neg hi)).set (v' := fun j => if j = k * 2 + 1 then .string l[k].2 else if j = k * 2 then .int .i64 l[k].1 else dPart l k j) (k * 2 + 1) _ (if_pos rfl) (fun i hi => if_neg hi)).congr fun j _ => ?_
  have e1 := dirs_even l k hk
  have e2 := dirs_odd l k hk
  by_cases h1 : j = k * 2 + 1
  · subst h1; simp [dPart, e2]; try omega
  · by_cases h2 : j = k * 2
    · subst h2; simp [dPart, e1]; try omega
    · simp only [h1, h2, if_false, dPart]
      by_cases h3 : j < k * 2
      · rw [if_pos h3, if_pos (by omega)]
      · rw [if_neg h3, if_neg (by omega)]

def DSizeRel (l : List D) (left : Int) (w : World) (x i : Value) (wr : World) : Prop :=
  ∃ (k : Nat) (r : Int), k ≤ l.length ∧ i = .int .i64 k ∧ x = .int .i64 r ∧ 0 ≤ r ∧ r ≤ left ∧ (∀ j (h : j < l.length), j < k → (l[j].2.size : Int) ≤ left) ∧ Below w.heap.size w wr
def DEqRel (w : World) (n : Nat) (i : Value) (wr : World) : Prop := ∃ k : Nat, k ≤ n ∧ i = .int .i64 k ∧ Below w.heap.size w wr
/-- The mark of cell j: a number where j is even, a text where it is odd. -/
def markCell (k j : Nat) : Value := if j % 2 = 0 then .int .i64 ((k + j : Nat) : Int) else .string (markS (k + j))
def marksD (k n : Nat) : List Value := (List.range (n * 2)).map (markCell k)
def markedD (k i : Nat) (xs : List Value) : List Value := (List.range xs.length).map fun j => if j < i then markCell k j else xs.getD j undef
theorem markedD_length (k i : Nat) (xs : List Value) : (markedD k i xs).length = xs.length := by simp [markedD]
theorem markedD_zero (k : Nat) (xs : List Value) : markedD k 0 xs = xs := by
  apply List.ext_getElem
  · simp [markedD]
  · intro j h1 h2; simp [markedD, h2]
theorem markedD_all (k n : Nat) (xs : List Value) (h : xs.length = n * 2) : markedD k (n * 2) xs = marksD k n := by
  apply List.ext_getElem
  · simp [markedD, marksD, h]
  · intro j h1 h2; simp [markedD, h] at h1; simp [markedD, marksD, h1]
theorem markedD_set (k i : Nat) (xs : List Value) : (markedD k i xs).set i (markCell k i) = markedD k (i + 1) xs := by
  apply List.ext_getElem
  · simp [markedD]
  · intro j h1 h2
    rw [List.getElem_set]
    by_cases hj : i = j
    · subst hj; simp [markedD]
    · rw [if_neg hj]; simp only [markedD, List.getElem_map, List.getElem_range]
      by_cases hji : j < i
      · rw [if_pos hji, if_pos (by omega)]
      · rw [if_neg hji, if_neg (by omega)]
theorem markCell_even (k j : Nat) : markCell k (j * 2) = .int .i64 ((k + j * 2 : Nat) : Int) := by unfold markCell; rw [if_pos (by omega)]
theorem markCell_odd (k j : Nat) : markCell k (j * 2 + 1) = .string (markS (k + j * 2 + 1)) := by unfold markCell; rw [if_neg (by omega)]; rfl
theorem marksD_at (k n j : Nat) (h : j < n * 2) : (marksD k n)[j]? = some (markCell k j) := by simp [marksD, h]

def MarkDRel (lo : Nat) (v : Value) (k n : Nat) (xs : List Value) (w : World) (q i : Value) (wr : World) : Prop :=
  ∃ j : Nat, j ≤ n ∧ q = .int .i64 ((k + j * 2 : Nat) : Int) ∧ i = .int .i64 j ∧ Own wr lo v n 2 (markedD k (j * 2) xs) ∧ w.grownBy wr (blk v n)
theorem Own.cellEx {w : World} {lo n sz c b off : Nat} {xs : List Value} (h : Own w lo (.slice (some ⟨b, off, none⟩) n c) n sz xs) (j : Nat) (hj : j < n * sz) : (∃ v, w.cell? ⟨b, off + j, none⟩ = some v) ∧ w.frozen? ⟨b, off + j, none⟩ = false := by
  have hn : 0 < n := by
    rcases Nat.eq_zero_or_pos n with h0 | h0
    · subst h0; simp at hj
    · exact h0
  obtain ⟨b', off', e, _, _, hc, hf⟩ := h.get hn
  simp only [Option.some.injEq, Addr.mk.injEq, and_true] at e
  obtain ⟨rfl, rfl⟩ := e
  refine ⟨⟨xs[j]'(by rw [h.1]; exact hj), ?_⟩, hf j hj⟩
  rw [hc j hj, List.getElem?_eq_getElem (by rw [h.1]; exact hj)]

def HeldDRel (k n : Nat) (w : World) (q i : Value) (wr : World) : Prop :=
  ∃ j : Nat, j ≤ n ∧ q = .int .i64 ((k + j * 2 : Nat) : Int) ∧ i = .int .i64 j ∧ Below w.heap.size w wr
end Go.Proofs.YthkbllkhomjmbaaDoor

namespace Go.Proofs.YthkbllkhomjmbaaDoor
open Go.RowKit

abbrev stpT := Int × Int × Int × ByteArray
def stpCs : List stpT → List Value
  | [] => []
  | d :: l => .int .i64 d.1 :: .int .i64 d.2.1 :: .int .i64 d.2.2.1 :: .string d.2.2.2 :: stpCs l
theorem stpCs_length : ∀ l : List stpT, (stpCs l).length = l.length * 4
  | [] => rfl
  | d :: l => by simp [stpCs, stpCs_length l]; omega
theorem stpCs_0 : ∀ (l : List stpT) (k : Nat) (h : k < l.length), (stpCs l)[k * 4]? = some (.int .i64 l[k].1)
  | d :: l, 0, _ => rfl
  | d :: l, k + 1, h => by
    rw [show (k + 1) * 4 = k * 4 + 1 + 1 + 1 + 1 by omega]
    simpa [stpCs] using stpCs_0 l k (by simpa using h)
theorem stpCs_1 : ∀ (l : List stpT) (k : Nat) (h : k < l.length), (stpCs l)[k * 4 + 1]? = some (.int .i64 l[k].2.1)
  | d :: l, 0, _ => rfl
  | d :: l, k + 1, h => by
    rw [show (k + 1) * 4 + 1 = k * 4 + 1 + 1 + 1 + 1 + 1 by omega]
    simpa [stpCs] using stpCs_1 l k (by simpa using h)
theorem stpCs_2 : ∀ (l : List stpT) (k : Nat) (h : k < l.length), (stpCs l)[k * 4 + 2]? = some (.int .i64 l[k].2.2.1)
  | d :: l, 0, _ => rfl
  | d :: l, k + 1, h => by
    rw [show (k + 1) * 4 + 2 = k * 4 + 2 + 1 + 1 + 1 + 1 by omega]
    simpa [stpCs] using stpCs_2 l k (by simpa using h)
theorem stpCs_3 : ∀ (l : List stpT) (k : Nat) (h : k < l.length), (stpCs l)[k * 4 + 3]? = some (.string l[k].2.2.2)
  | d :: l, 0, _ => rfl
  | d :: l, k + 1, h => by
    rw [show (k + 1) * 4 + 3 = k * 4 + 3 + 1 + 1 + 1 + 1 by omega]
    simpa [stpCs] using stpCs_3 l k (by simpa using h)
theorem stpCs_append : ∀ (a b : List stpT), stpCs (a ++ b) = stpCs a ++ stpCs b
  | [], b => rfl
  | d :: a, b => by simp only [List.cons_append, stpCs]; rw [stpCs_append a b]
set_option maxRecDepth 100000 in
set_option maxHeartbeats 400000 in
theorem eqStep_any (x0 : Int) (x1 : Int) (x2 : Int) (x3 : ByteArray) (w : World) :
    Calls Tryd.prog 92 #[.agg #[.int .i64 x0, .int .i64 x1, .int .i64 x2, .string x3], .agg #[.int .i64 x0, .int .i64 x1, .int .i64 x2, .string x3]] w fun e w' => e = .returned (.bool true) ∧ Below w.heap.size w w' := by
  have d0 : (x0 != x0) = false := by simp
  have d1 : (x1 != x1) = false := by simp
  have d2 : (x2 != x2) = false := by simp
  go_enter Tryd.func92, Tryd.ntmps92
  go_wp2_with fail
  go_ret
  exact ⟨rfl, ((Below.refl _ _).alloc (Nat.le_refl _) _).alloc (by simp) _⟩
theorem Tryd.infostp : (Tryd.prog.info? 41).map (fun i => (i.zero, i.size, i.bytes)) = some (some (.agg #[.int .i64 0, .int .i64 0, .int .i64 0, .string ByteArray.empty]), 4, 40) := by kernel_rfl
def stpPart (l : List stpT) (k j : Nat) : Value := if j < k * 4 then (stpCs l).getD j undef else if j % 4 = 0 then .int .i64 0 else if j % 4 = 1 then .int .i64 0 else if j % 4 = 2 then .int .i64 0 else .string ByteArray.empty
def stpCopyRel (w : World) (l : List stpT) (i : Value) (wr : World) : Prop :=
  ∃ k : Nat, k ≤ l.length ∧ i = .int .i64 k ∧ CellsAt wr w.heap.size 41 (l.length * 4) (stpPart l k) ∧ Below w.heap.size w wr
theorem made_stp {w1 : World} {g n : Nat} {l : List stpT} (h : w1.heap[g]? = some (.cells (madeCells #[Value.int .i64 0, Value.int .i64 0, Value.int .i64 0, Value.string ByteArray.empty] (n * 4)).toList.toArray 41 (0, 0))) : CellsAt w1 g 41 (n * 4) (stpPart l 0) := by
  refine cellsAt_list h (n * 4) _ (by simp [madeCells]) (fun j hj => ?_)
  have h2 : j % 4 = 0 ∨ j % 4 = 1 ∨ j % 4 = 2 ∨ j % 4 = 3 := by omega
  rcases h2 with h2 | h2 | h2 | h2 <;> simp [madeCells, hj, stpPart, h2]
theorem stp_laid {w2 : World} {g n k : Nat} {T : TypeId} {l : List stpT} (h : CellsAt w2 g T n (stpPart l k)) (hk : k < l.length) :
    CellsAt ((((w2.setCell ⟨g, k * 4, none⟩ (.int .i64 l[k].1)).setCell ⟨g, k * 4 + 1, none⟩ (.int .i64 l[k].2.1)).setCell ⟨g, k * 4 + 2, none⟩ (.int .i64 l[k].2.2.1)).setCell ⟨g, k * 4 + 3, none⟩ (.string l[k].2.2.2)) g T n (stpPart l (k + 1)) := by
  refine ((((h.set (v' := fun j => if j = k * 4 then .int .i64 l[k].1 else stpPart l k j) (k * 4) _ (if_pos rfl) (fun i hi => if_neg hi)).set (v' := fun j => if j = k * 4 + 1 then .int .i64 l[k].2.1 else if j = k * 4 then .int .i64 l[k].1 else stpPart l k j) (k * 4 + 1) _ (if_pos rfl) (fun i hi => if_neg hi)).set (v' := fun j => if j = k * 4 + 2 then .int .i64 l[k].2.2.1 else if j = k * 4 + 1 then .int .i64 l[k].2.1 else if j = k * 4 then .int .i64 l[k].1 else stpPart l k j) (k * 4 + 2) _ (if_pos rfl) (fun i hi => if_neg hi)).set (v' := fun j => if j = k * 4 + 3 then .string l[k].2.2.2 else if j = k * 4 + 2 then .int .i64 l[k].2.2.1 else if j = k * 4 + 1 then .int .i64 l[k].2.1 else if j = k * 4 then .int .i64 l[k].1 else stpPart l k j) (k * 4 + 3) _ (if_pos rfl) (fun i hi => if_neg hi)).congr fun j _ => ?_
  have e0 := stpCs_0 l k hk
  have e1 := stpCs_1 l k hk
  have e2 := stpCs_2 l k hk
  have e3 := stpCs_3 l k hk
  by_cases h3 : j = k * 4 + 3
  · subst h3; simp [stpPart, e3]; try omega
  by_cases h2 : j = k * 4 + 2
  · subst h2; simp [stpPart, e2]; try omega
  by_cases h1 : j = k * 4 + 1
  · subst h1; simp [stpPart, e1]; try omega
  by_cases h0 : j = k * 4
  · subst h0; simp [stpPart, e0]; try omega
  simp only [h0, h1, h2, h3, if_false, stpPart]
  by_cases h9 : j < k * 4
  · rw [if_pos h9, if_pos (by omega)]
  · rw [if_neg h9, if_neg (by omega)]

def stpSizeRel (l : List stpT) (left : Int) (w : World) (x i : Value) (wr : World) : Prop :=
  ∃ (k : Nat) (r : Int), k ≤ l.length ∧ i = .int .i64 k ∧ x = .int .i64 r ∧ 0 ≤ r ∧ r ≤ left ∧ (∀ j (h : j < l.length), j < k → (l[j].2.2.2.size : Int) ≤ left) ∧ Below w.heap.size w wr
set_option maxRecDepth 100000 in
set_option maxHeartbeats 1000000 in
theorem eqSteps_any (v u : Value) (l : List stpT) (w : World) (h : Rd w v l.length 4 (stpCs l)) (k : Rd w u l.length 4 (stpCs l)) (hn : l.length ≤ maxLen) :
    Calls Tryd.prog 100 #[v, u] w fun e w' => e = .returned (.bool true) ∧ Below w.heap.size w w' := by
  unfold maxLen at hn
  obtain ⟨_, a, c, rfl, hc⟩ := h
  obtain ⟨_, a', c', rfl, hc'⟩ := k
  have HC := Lib.hid hc
  have HC' := Lib.hid hc'
  clear hc hc'
  have d0 : ((l.length : Int) != (l.length : Int)) = false := by simp
  go_enter Tryd.func100, Tryd.ntmps100
  go_wp2_with fail
  go_loopw [5] (fun i wr => DEqRel w l.length i wr) (fun i _ => l.length - (intOf i).toNat)
  case atStart => exact ⟨0, by omega, rfl, Below.refl _ _⟩
  case round =>
    obtain ⟨k, hk, rfl, hbel⟩ := hrel
    by_cases hlt : k < l.length
    · obtain ⟨b, off, rfl, hbl, hcell⟩ := HC.out (by omega)
      obtain ⟨b', off', rfl, hbl', hcell'⟩ := HC'.out (by omega)
      have hc0 : wr.cell? ⟨b, off + k * 4, none⟩ = some (.int .i64 l[k].1) := by
        rw [hbel.cell (p := ⟨b, off + k * 4, none⟩) hbl, hcell (k * 4) (by omega), stpCs_0 l k hlt]
      have hc1 : wr.cell? ⟨b, off + k * 4 + 1, none⟩ = some (.int .i64 l[k].2.1) := by
        rw [hbel.cell (p := ⟨b, off + k * 4 + 1, none⟩) hbl, Nat.add_assoc, hcell (k * 4 + 1) (by omega), stpCs_1 l k hlt]
      have hc2 : wr.cell? ⟨b, off + k * 4 + 2, none⟩ = some (.int .i64 l[k].2.2.1) := by
        rw [hbel.cell (p := ⟨b, off + k * 4 + 2, none⟩) hbl, Nat.add_assoc, hcell (k * 4 + 2) (by omega), stpCs_2 l k hlt]
      have hc3 : wr.cell? ⟨b, off + k * 4 + 3, none⟩ = some (.string l[k].2.2.2) := by
        rw [hbel.cell (p := ⟨b, off + k * 4 + 3, none⟩) hbl, Nat.add_assoc, hcell (k * 4 + 3) (by omega), stpCs_3 l k hlt]
      have hd0 : wr.cell? ⟨b', off' + k * 4, none⟩ = some (.int .i64 l[k].1) := by
        rw [hbel.cell (p := ⟨b', off' + k * 4, none⟩) hbl', hcell' (k * 4) (by omega), stpCs_0 l k hlt]
      have hd1 : wr.cell? ⟨b', off' + k * 4 + 1, none⟩ = some (.int .i64 l[k].2.1) := by
        rw [hbel.cell (p := ⟨b', off' + k * 4 + 1, none⟩) hbl', Nat.add_assoc, hcell' (k * 4 + 1) (by omega), stpCs_1 l k hlt]
      have hd2 : wr.cell? ⟨b', off' + k * 4 + 2, none⟩ = some (.int .i64 l[k].2.2.1) := by
        rw [hbel.cell (p := ⟨b', off' + k * 4 + 2, none⟩) hbl', Nat.add_assoc, hcell' (k * 4 + 2) (by omega), stpCs_2 l k hlt]
      have hd3 : wr.cell? ⟨b', off' + k * 4 + 3, none⟩ = some (.string l[k].2.2.2) := by
        rw [hbel.cell (p := ⟨b', off' + k * 4 + 3, none⟩) hbl', Nat.add_assoc, hcell' (k * 4 + 3) (by omega), stpCs_3 l k hlt]
      have hbs := hbel.size
      have HBEL := Lib.hid hbel
      clear hcell hcell' hbel
      have e0 : (k : Int) < (l.length : Int) := by omega
      have e1 : (0 : Int) ≤ (k : Int) := by omega
      go_wp2_with fail
      go_still_tail 8, (by kernel_rfl)
      change wpList _ _ _ _ _ wr.drew
      go_wp2_with fail
      refine (eqStep_any _ _ _ _ _).mono ?_
      rintro e w2 ⟨rfl, hb2⟩
      have HB2 := Lib.hid (HBEL.out.drew.trans (hb2.mono hbs))
      clear hb2
      go_wp2_with fail
      go_roundw
      case rel => exact ⟨k + 1, by omega, by go_num, HB2.out⟩
      case measure => simp [intOf]; omega
    · obtain rfl : k = l.length := by omega
      have HBEL := Lib.hid hbel
      clear hbel
      go_wp2_with fail
      go_ret
      exact ⟨rfl, HBEL.out⟩

/-- The mark of cell j. -/
def stpMark (k j : Nat) : Value := if j % 4 = 0 then .int .i64 ((k + j : Nat) : Int) else if j % 4 = 1 then .int .i64 ((k + j : Nat) : Int) else if j % 4 = 2 then .int .i64 ((k + j : Nat) : Int) else .string (markS (k + j))
def stpMarks (k n : Nat) : List Value := (List.range (n * 4)).map (stpMark k)
def stpMarked (k i : Nat) (xs : List Value) : List Value := (List.range xs.length).map fun j => if j < i then stpMark k j else xs.getD j undef
theorem stpMarked_zero (k : Nat) (xs : List Value) : stpMarked k 0 xs = xs := by
  apply List.ext_getElem
  · simp [stpMarked]
  · intro j h1 h2; simp [stpMarked, h2]
theorem stpMarked_all (k n : Nat) (xs : List Value) (h : xs.length = n * 4) : stpMarked k (n * 4) xs = stpMarks k n := by
  apply List.ext_getElem
  · simp [stpMarked, stpMarks, h]
  · intro j h1 h2; simp [stpMarked, h] at h1; simp [stpMarked, stpMarks, h1]
theorem stpMarked_set (k i : Nat) (xs : List Value) : (stpMarked k i xs).set i (stpMark k i) = stpMarked k (i + 1) xs := by
  apply List.ext_getElem
  · simp [stpMarked]
  · intro j h1 h2
    rw [List.getElem_set]
    by_cases hj : i = j
    · subst hj; simp [stpMarked]
    · rw [if_neg hj]; simp only [stpMarked, List.getElem_map, List.getElem_range]
      by_cases hji : j < i
      · rw [if_pos hji, if_pos (by omega)]
      · rw [if_neg hji, if_neg (by omega)]
theorem stpMarks_at (k n j : Nat) (h : j < n * 4) : (stpMarks k n)[j]? = some (stpMark k j) := by simp [stpMarks, h]
theorem stpMark_0 (k j : Nat) : stpMark k (j * 4) = .int .i64 ((k + j * 4 : Nat) : Int) := by unfold stpMark; rw [if_pos (by omega)]
theorem stpMark_1 (k j : Nat) : stpMark k (j * 4 + 1) = .int .i64 ((k + j * 4 + 1 : Nat) : Int) := by unfold stpMark; rw [if_neg (by omega), if_pos (by omega)]; rfl
theorem stpMark_2 (k j : Nat) : stpMark k (j * 4 + 2) = .int .i64 ((k + j * 4 + 2 : Nat) : Int) := by unfold stpMark; rw [if_neg (by omega), if_neg (by omega), if_pos (by omega)]; rfl
theorem stpMark_3 (k j : Nat) : stpMark k (j * 4 + 3) = .string (markS (k + j * 4 + 3)) := by unfold stpMark; rw [if_neg (by omega), if_neg (by omega), if_neg (by omega)]; rfl
def stpMarkRel (lo : Nat) (v : Value) (k n : Nat) (xs : List Value) (w : World) (q i : Value) (wr : World) : Prop :=
  ∃ j : Nat, j ≤ n ∧ q = .int .i64 ((k + j * 4 : Nat) : Int) ∧ i = .int .i64 j ∧ Own wr lo v n 4 (stpMarked k (j * 4) xs) ∧ w.grownBy wr (blk v n)
def stpHeldRel (k n : Nat) (w : World) (q i : Value) (wr : World) : Prop :=
  ∃ j : Nat, j ≤ n ∧ q = .int .i64 ((k + j * 4 : Nat) : Int) ∧ i = .int .i64 j ∧ Below w.heap.size w wr

set_option maxRecDepth 100000 in
set_option maxHeartbeats 1000000 in
theorem markSteps_any (lo : Nat) (v : Value) (n k : Nat) (xs : List Value) (w : World) (h : Own w lo v n 4 xs) (hn : n ≤ 1048576) (h0 : 1 ≤ k) (h1 : k ≤ 1000000000) :
    Calls Tryd.prog 102 #[v, .int .i64 k] w (Marked lo v n 4 (stpMarks k n) ((k + n * 4 : Nat) : Int) w) := by
  have hlx : xs.length = n * 4 := h.1
  obtain ⟨a, c, rfl, _⟩ := h.2
  have HO := Lib.hid h
  have HX := Lib.hid hlx
  clear h hlx
  go_enter Tryd.func102, Tryd.ntmps102
  go_wp2_with fail
  go_loopw [1, 5] (fun q i wr => stpMarkRel lo (.slice a n c) k n xs w q i wr) (fun _ i _ => n - (intOf i).toNat)
  case atStart => exact ⟨0, by omega, rfl, rfl, by rw [Nat.zero_mul, stpMarked_zero]; exact HO.out, World.grownBy.refl w _⟩
  case round =>
    clear HO
    obtain ⟨j, hj, rfl, rfl, hown, hg⟩ := hrel
    by_cases hlt : j < n
    · obtain ⟨b, off, rfl, hlo, hbl, q1, q2⟩ := hown.get (by omega)
      clear q1 q2
      obtain ⟨⟨u0, hc0⟩, hf0⟩ := hown.cellEx (j * 4) (by omega)
      obtain ⟨⟨u1, hc1⟩, hf1⟩ := hown.cellEx (j * 4 + 1) (by omega)
      obtain ⟨⟨u2, hc2⟩, hf2⟩ := hown.cellEx (j * 4 + 2) (by omega)
      have hown0 := hown.set (j * 4) (stpMark k (j * 4)) (by omega) ⟨u0, hc0⟩
      have hown1 := hown0.set (j * 4 + 1) (stpMark k (j * 4 + 1)) (by omega) ⟨u1, by rw [World.cell?_setCell_other (h := by simp)]; exact hc1⟩
      have hown2 := hown1.set (j * 4 + 2) (stpMark k (j * 4 + 2)) (by omega) ⟨u2, by rw [World.cell?_setCell_other (h := by simp), World.cell?_setCell_other (h := by simp)]; exact hc2⟩
      rw [blk_pos (by omega)] at hg
      have hgx := grown_set (b := b) (i := off + (j * 4 + 2)) (x := stpMark k (j * 4 + 2)) (grown_set (b := b) (i := off + (j * 4 + 1)) (x := stpMark k (j * 4 + 1)) (grown_set (b := b) (i := off + (j * 4)) (x := stpMark k (j * 4)) (hg)))
      rw [stpMarked_set, stpMarked_set, stpMarked_set] at hown2
      have HO1 := Lib.hid hown2
      have HG1 := Lib.hid hgx
      rw [stpMark_0, stpMark_1, stpMark_2] at HO1 HG1
      clear hown hg hgx hown0 hown1 hown2
      rw [← Nat.add_assoc] at hc1 hf1
      rw [← Nat.add_assoc] at hc2 hf2
      simp only [← Nat.add_assoc] at HO1 HG1
      go_wp2_with fail
      refine (markText_any (k + j * 4 + 3) _ (by omega) (by omega)).mono ?_
      rintro e w1 ⟨rfl, hb1⟩
      have hown2 := HO1.out.below hb1 (Nat.le_refl _)
      obtain ⟨⟨u9, hc9⟩, hf9⟩ := hown2.cellEx (j * 4 + 3) (by omega)
      have HO2 := Lib.hid (hown2.set (j * 4 + 3) (stpMark k (j * 4 + 3)) (by omega) ⟨u9, hc9⟩)
      have HG2 := Lib.hid (grown_set (HG1.out.andThen (below_grown hb1) (fun _ e => by cases e)) (b := b) (i := off + (j * 4 + 3)) (x := stpMark k (j * 4 + 3)))
      rw [stpMarked_set] at HO2
      rw [stpMark_3] at HO2 HG2
      rw [← Nat.add_assoc] at hc9 hf9
      simp only [← Nat.add_assoc] at HO2 HG2
      clear hb1 hown2 hc0 hf0 hc1 hf1 hc2 hf2
      go_wp2_with fail
      go_roundw
      case rel =>
        refine ⟨j + 1, by omega, by go_num, by go_num, ?_, by rw [blk_pos (by omega)]; exact HG2.out⟩
        rw [show (j + 1) * 4 = j * 4 + 1 + 1 + 1 + 1 by omega]
        exact HO2.out
      case measure => simp [intOf]; omega
    · obtain rfl : j = n := by omega
      have HOWN := Lib.hid hown
      have HG := Lib.hid hg
      clear hown hg
      go_wp2_with fail
      go_ret
      refine ⟨rfl, ?_, HG.out⟩
      have := HOWN.out
      rw [stpMarked_all k j xs HX.out] at this
      exact this

set_option maxRecDepth 100000 in
set_option maxHeartbeats 1000000 in
theorem heldSteps_any (v : Value) (n k : Nat) (w : World) (h : Rd w v n 4 (stpMarks k n)) (hn : n ≤ 1048576) (h0 : 1 ≤ k) (h1 : k ≤ 1000000000) :
    Calls Tryd.prog 103 #[v, .int .i64 k] w (Held ((k + n * 4 : Nat) : Int) w) := by
  obtain ⟨_, a, c, rfl, hc⟩ := h
  have HC := Lib.hid hc
  clear hc
  go_enter Tryd.func103, Tryd.ntmps103
  go_wp2_with fail
  go_loopw [1, 5] (fun q i wr => stpHeldRel k n w q i wr) (fun _ i _ => n - (intOf i).toNat)
  case atStart => exact ⟨0, by omega, rfl, rfl, Below.refl _ _⟩
  case round =>
    obtain ⟨j, hj, rfl, rfl, hbel⟩ := hrel
    by_cases hlt : j < n
    · obtain ⟨b, off, rfl, hbl, hcell⟩ := HC.out (by omega)
      have hc0 : wr.cell? ⟨b, off + j * 4, none⟩ = some (.int .i64 ((k + j * 4 : Nat) : Int)) := by
        rw [hbel.cell (p := ⟨b, off + j * 4, none⟩) hbl, hcell (j * 4) (by omega), stpMarks_at k n _ (by omega), stpMark_0]
      have hc1 : wr.cell? ⟨b, off + j * 4 + 1, none⟩ = some (.int .i64 ((k + j * 4 + 1 : Nat) : Int)) := by
        rw [hbel.cell (p := ⟨b, off + j * 4 + 1, none⟩) hbl, Nat.add_assoc, hcell (j * 4 + 1) (by omega), stpMarks_at k n _ (by omega), stpMark_1]
      have hc2 : wr.cell? ⟨b, off + j * 4 + 2, none⟩ = some (.int .i64 ((k + j * 4 + 2 : Nat) : Int)) := by
        rw [hbel.cell (p := ⟨b, off + j * 4 + 2, none⟩) hbl, Nat.add_assoc, hcell (j * 4 + 2) (by omega), stpMarks_at k n _ (by omega), stpMark_2]
      have hc3 : wr.cell? ⟨b, off + j * 4 + 3, none⟩ = some (.string (markS (k + j * 4 + 3))) := by
        rw [hbel.cell (p := ⟨b, off + j * 4 + 3, none⟩) hbl, Nat.add_assoc, hcell (j * 4 + 3) (by omega), stpMarks_at k n _ (by omega), stpMark_3]
      have hblr : b < wr.heap.size := Nat.lt_of_lt_of_le hbl hbel.size
      have hsz := hbel.size
      have HBEL := Lib.hid hbel
      clear hcell hbel
      have e0 : (j : Int) < (n : Int) := by omega
      have e1 : (0 : Int) ≤ (j : Int) := by omega
      have d0 : (((k + j * 4 : Nat) : Int) != ((k + j * 4 : Nat) : Int)) = false := by simp
      have d1 : (((k + j * 4 + 1 : Nat) : Int) != ((k + j * 4 + 1 : Nat) : Int)) = false := by simp
      have s1 : ((k + j * 4 : Nat) : Int) + 1 = ((k + j * 4 + 1 : Nat) : Int) := by omega
      have d2 : (((k + j * 4 + 2 : Nat) : Int) != ((k + j * 4 + 2 : Nat) : Int)) = false := by simp
      have s2 : ((k + j * 4 + 1 : Nat) : Int) + 1 = ((k + j * 4 + 2 : Nat) : Int) := by omega
      have s3 : ((k + j * 4 + 2 : Nat) : Int) + 1 = ((k + j * 4 + 3 : Nat) : Int) := by omega
      go_wp2_with fail
      go_region_held3 (fun w' => w'.cell? ⟨b, off + j * 4 + 3, none⟩ = some (.string (markS (k + j * 4 + 3)))) (first | go_keep | (rw [hb1.cell (p := ⟨b, off + j * 4 + 3, none⟩) hblr]; exact hc3)) ((go_at_call 101; refine (markText_any (k + j * 4 + 3) _ (by omega) (by omega)).mono ?_; rintro e w1 ⟨rfl, hb1⟩))
      have HB1 := Lib.hid (HBEL.out.drew.trans (hb1.mono hsz))
      clear hb1
      go_wp2_with fail
      go_roundw
      case rel => exact ⟨j + 1, by omega, by go_num, by go_num, HB1.out⟩
      case measure => simp [intOf]; omega
    · obtain rfl : j = n := by omega
      have HBEL := Lib.hid hbel
      clear hbel
      go_wp2_with fail
      go_ret
      exact ⟨rfl, HBEL.out⟩
end Go.Proofs.YthkbllkhomjmbaaDoor

namespace Go.Proofs.YthkbllkhomjmbaaDoor
open Go.RowKit

/-- x lies in 0 .. n - 1. -/
def inB (x n : Int) : Bool := decide (0 ≤ x) && decide (x ≤ n - 1)
def isT (x : Int) : Bool := decide (0 ≤ x) && decide (x ≤ 1000000)
theorem inB_iff (x n : Int) : inB x n = true ↔ 0 ≤ x ∧ x < n := by unfold inB; simp; omega
theorem inB_no (x n : Int) : inB x n = false ↔ ¬ (0 ≤ x ∧ x < n) := by rw [← inB_iff]; simp
theorem isT_iff (x : Int) : isT x = true ↔ 0 ≤ x ∧ x ≤ 1000000 := by unfold isT; simp
theorem isT_no (x : Int) : isT x = false ↔ ¬ (0 ≤ x ∧ x ≤ 1000000) := by rw [← isT_iff]; simp
/-- A step is valid for n blocks. -/
def StepOk (n k t f : Int) (d : ByteArray) : Prop :=
  (1 ≤ n ∧ n ≤ 8) ∧
  ((k = 1 ∧ inB t n = true ∧ f = 0 ∧ d.size = 0) ∨ (k = 2 ∧ inB t n = true ∧ f = 0 ∧ d.size = 8) ∨
   (k = 3 ∧ inB t n = true ∧ inB f n = true ∧ d.size = 0) ∨ (k = 4 ∧ inB t n = true ∧ inB f n = true ∧ d.size = 8) ∨
   (k = 5 ∧ t = 0 ∧ isT f = true ∧ d.size = 0))
instance (n k t f : Int) (d : ByteArray) : Decidable (StepOk n k t f d) := by unfold StepOk; infer_instance
def stepB (n k t f : Int) (d : ByteArray) : Bool := decide (StepOk n k t f d)
theorem stepB_iff (n k t f : Int) (d : ByteArray) : stepB n k t f d = true ↔ StepOk n k t f d := by unfold stepB; simp
theorem stepB_yes {n k t f : Int} {d : ByteArray} (h : StepOk n k t f d) : stepB n k t f d = true := (stepB_iff ..).2 h
theorem stepB_no {n k t f : Int} {d : ByteArray} (h : ¬ StepOk n k t f d) : stepB n k t f d = false := by
  cases h' : stepB n k t f d with
  | false => rfl
  | true => exact absurd ((stepB_iff ..).1 h') h
theorem empty_of {d : ByteArray} (h : d.size = 0) : d = ⟨#[]⟩ := by
  apply ByteArray.ext
  exact Array.eq_empty_of_size_eq_zero h
theorem toList_ne {d : ByteArray} (h : d.size ≠ 0) : ¬ d.toList = [] := fun he => h (by
  rw [ByteArray.toList_eq] at he
  have : d.data.size = 0 := by simpa using congrArg List.length he
  exact this)
end Go.Proofs.YthkbllkhomjmbaaDoor

namespace Go.Proofs.YthkbllkhomjmbaaDoor
open Go.RowKit

/-- Steps i and j write the same block. -/
def Pair (l : List stpT) (i j : Nat) : Prop := ∃ (hi : i < l.length) (hj : j < l.length), l[i].1 ≠ 5 ∧ l[j].1 ≠ 5 ∧ l[i].2.1 = l[j].2.1
def Twice (l : List stpT) : Prop := ∃ i j, j < i ∧ Pair l i j
/-- The number of the last label among the first k. -/
def lastT (l : List stpT) : Nat → Int
  | 0 => -1
  | k + 1 => if (l.getD k (0, 0, 0, ⟨#[]⟩)).1 = 5 then (l.getD k (0, 0, 0, ⟨#[]⟩)).2.2.1 else lastT l k
theorem lastT_yes {l : List stpT} {k : Nat} (h : k < l.length) (h5 : l[k].1 = 5) : lastT l (k + 1) = l[k].2.2.1 := by
  simp only [lastT, List.getD_eq_getElem?_getD, List.getElem?_eq_getElem h, Option.getD_some, h5, if_true]
theorem lastT_no {l : List stpT} {k : Nat} (h : k < l.length) (h5 : l[k].1 ≠ 5) : lastT l (k + 1) = lastT l k := by
  simp only [lastT, List.getD_eq_getElem?_getD, List.getElem?_eq_getElem h, Option.getD_some, h5, if_false]
/-- A label's number is no greater than that of the one ahead of it. -/
def LowAt (l : List stpT) (k : Nat) : Prop := ∃ h : k < l.length, l[k].1 = 5 ∧ l[k].2.2.1 ≤ lastT l k
def Low (l : List stpT) (n : Nat) : Prop := ∃ k, k < n ∧ LowAt l k
theorem Low.more {l : List stpT} {n : Nat} (h : Low l n) : Low l (n + 1) := by obtain ⟨k, h1, h2⟩ := h; exact ⟨k, by omega, h2⟩
theorem low_yes {l : List stpT} {n : Nat} (h : LowAt l n) : Low l (n + 1) := ⟨n, by omega, h⟩
theorem low_no {l : List stpT} {n : Nat} (h : ¬ LowAt l n) : Low l (n + 1) ↔ Low l n := by
  constructor
  · rintro ⟨k, h1, h2⟩
    by_cases hk : k = n
    · subst hk; exact absurd h2 h
    · exact ⟨k, by omega, h2⟩
  · exact Low.more
def wrongS (n : Int) (s : stpT) : Bool := !stepB n s.1 s.2.1 s.2.2.1 s.2.2.2
def FormBad (l : List stpT) (n : Int) : Prop := ¬ (1 ≤ n ∧ n ≤ 8) ∨ 20 < l.length ∨ ∃ s ∈ l, wrongS n s = true
open Classical in
noncomputable def codeS (l : List stpT) (n : Int) : Int := if FormBad l n then 1 else if Twice l then 12 else if Low l l.length then 8 else 0
theorem codeS_form {l : List stpT} {n : Int} (h : FormBad l n) : codeS l n = 1 := by unfold codeS; rw [if_pos h]
theorem codeS_twice {l : List stpT} {n : Int} (h : ¬ FormBad l n) (h2 : Twice l) : codeS l n = 12 := by unfold codeS; rw [if_neg h, if_pos h2]
theorem codeS_low {l : List stpT} {n : Int} (h : ¬ FormBad l n) (h2 : ¬ Twice l) (h3 : Low l l.length) : codeS l n = 8 := by unfold codeS; rw [if_neg h, if_neg h2, if_pos h3]
theorem codeS_ok {l : List stpT} {n : Int} (h : ¬ FormBad l n) (h2 : ¬ Twice l) (h3 : ¬ Low l l.length) : codeS l n = 0 := by unfold codeS; rw [if_neg h, if_neg h2, if_neg h3]
/-- No two of the first k write the same block. -/
def Apart (l : List stpT) (k : Nat) : Prop := ∀ i j, i < k → j < i → ¬ Pair l i j
theorem apart_all {l : List stpT} (h : Apart l l.length) : ¬ Twice l := by
  rintro ⟨i, j, hji, hp⟩
  exact h i j hp.1 hji hp
theorem Apart.next {l : List stpT} {k : Nat} (h : Apart l k) (hk : ∀ j, j < k → ¬ Pair l k j) : Apart l (k + 1) := by
  intro i j hi hj
  by_cases h' : i = k
  · subst h'; exact hk j hj
  · exact h i j (by omega) hj
/-- What one of the first k writes. -/
def Wrote (l : List stpT) (k : Nat) (b : Nat) : Prop := ∃ j, j < k ∧ ∃ h : j < l.length, l[j].1 ≠ 5 ∧ l[j].2.1 = (b : Int)
open Classical in
noncomputable def wroteB (l : List stpT) (k b : Nat) : Bool := decide (Wrote l k b)
theorem wroteB_iff (l : List stpT) (k b : Nat) : wroteB l k b = true ↔ Wrote l k b := by unfold wroteB; simp
theorem wroteB_zero (l : List stpT) (b : Nat) : wroteB l 0 b = false := by
  cases h : wroteB l 0 b with
  | false => rfl
  | true => obtain ⟨j, hj, _⟩ := (wroteB_iff ..).1 h; omega
theorem wroteB_label {l : List stpT} {k : Nat} (h : k < l.length) (h5 : l[k].1 = 5) (b : Nat) : wroteB l (k + 1) b = wroteB l k b := by
  rw [Bool.eq_iff_iff, wroteB_iff, wroteB_iff]
  constructor
  · rintro ⟨j, hj, hjl, h1, h2⟩
    by_cases h' : j = k
    · subst h'; exact absurd h5 h1
    · exact ⟨j, by omega, hjl, h1, h2⟩
  · rintro ⟨j, hj, r⟩; exact ⟨j, by omega, r⟩
theorem wroteB_same {l : List stpT} {k : Nat} (h : k < l.length) (h5 : l[k].1 ≠ 5) {b : Nat} (hb : l[k].2.1 = (b : Int)) : wroteB l (k + 1) b = true := (wroteB_iff ..).2 ⟨k, by omega, h, h5, hb⟩
theorem wroteB_other {l : List stpT} {k : Nat} (h : k < l.length) {b c : Nat} (hb : l[k].2.1 = (b : Int)) (hc : c ≠ b) : wroteB l (k + 1) c = wroteB l k c := by
  rw [Bool.eq_iff_iff, wroteB_iff, wroteB_iff]
  constructor
  · rintro ⟨j, hj, hjl, h1, h2⟩
    by_cases h' : j = k
    · subst h'; rw [hb] at h2; exact absurd (by omega) hc
    · exact ⟨j, by omega, hjl, h1, h2⟩
  · rintro ⟨j, hj, r⟩; exact ⟨j, by omega, r⟩
theorem wrote_pair {l : List stpT} {k : Nat} (h : k < l.length) (h5 : l[k].1 ≠ 5) {b : Nat} (hb : l[k].2.1 = (b : Int)) (hw : wroteB l k b = true) : Twice l := by
  obtain ⟨j, hj, hjl, h1, h2⟩ := (wroteB_iff ..).1 hw
  exact ⟨k, j, hj, h, hjl, h5, h1, by rw [hb, h2]⟩
theorem wrote_apart {l : List stpT} {k : Nat} (h : k < l.length) {b : Nat} (hb : l[k].2.1 = (b : Int)) (hw : wroteB l k b = false) : ∀ j, j < k → ¬ Pair l k j := by
  rintro j hj ⟨_, hjl, h5, h1, h2⟩
  have : wroteB l k b = true := (wroteB_iff ..).2 ⟨j, hj, hjl, h1, by rw [← h2, hb]⟩
  rw [this] at hw; cases hw
end Go.Proofs.YthkbllkhomjmbaaDoor

namespace Go.Proofs.YthkbllkhomjmbaaDoor
open Go.RowKit

/-- A flash as the mathematics has it. -/
structure FM where
  sec : List ByteArray
  dir : List D
def FRd (w : World) (sv dv : Value) (F : FM) : Prop := Rd w sv F.sec.length 1 (strs F.sec) ∧ Rd w dv F.dir.length 2 (dirs F.dir)
/-- A flash of the call's own; its two slices lie apart. -/
def FOwn (w : World) (lo : Nat) (sv dv : Value) (F : FM) : Prop :=
  Own w lo sv F.sec.length 1 (strs F.sec) ∧ Own w lo dv F.dir.length 2 (dirs F.dir) ∧ ∀ k, blk sv F.sec.length = some k → blk dv F.dir.length ≠ some k
def FMade (w : World) (F : FM) (e : Ending) (w' : World) : Prop := ∃ sv dv, e = .returned (.agg #[sv, dv]) ∧ FOwn w' w.heap.size sv dv F ∧ Below w.heap.size w w'
/-- What a flash may take, and how great its parts are. -/
def FFits (F : FM) : Prop := F.sec.length ≤ 1048576 ∧ F.dir.length ≤ 1048576
def FReach (F : FM) : Prop := F.sec.length ≤ maxLen ∧ F.dir.length ≤ maxLen ∧ (∀ s ∈ F.sec, s.size ≤ maxLen) ∧ ∀ d ∈ F.dir, d.2.size ≤ maxLen
theorem FRd.below {w w' : World} {sv dv : Value} {F : FM} {B : Nat} (h : FRd w sv dv F) (hb : Below B w w') (hB : w.heap.size ≤ B) : FRd w' sv dv F := ⟨h.1.below hb hB, h.2.below hb hB⟩
theorem FOwn.below {w w' : World} {lo : Nat} {sv dv : Value} {F : FM} {B : Nat} (h : FOwn w lo sv dv F) (hb : Below B w w') (hB : w.heap.size ≤ B) : FOwn w' lo sv dv F := ⟨h.1.below hb hB, h.2.1.below hb hB, h.2.2⟩
theorem FOwn.rd {w : World} {lo : Nat} {sv dv : Value} {F : FM} (h : FOwn w lo sv dv F) : FRd w sv dv F := ⟨h.1.rd, h.2.1.rd⟩
theorem FOwn.lower {w : World} {lo lo' : Nat} {sv dv : Value} {F : FM} (h : FOwn w lo sv dv F) (hl : lo' ≤ lo) : FOwn w lo' sv dv F := ⟨h.1.lower hl, h.2.1.lower hl, h.2.2⟩
theorem two_cells {w w1 : World} {K : Nat} {T : TypeId} {a b : Value} (hb : Below K (w.alloc (.cells #[a, b] T)) w1) (hK : w.heap.size < K) : w1.cell? ⟨w.heap.size, 0, none⟩ = some a ∧ w1.cell? ⟨w.heap.size, 1, none⟩ = some b := by
  have hc : ∀ j, w1.cell? ⟨w.heap.size, j, none⟩ = (#[a, b] : Array Value)[j]? := fun j =>
    (hb.cell (p := ⟨w.heap.size, j, none⟩) hK).trans (World.cell?_alloc_new (w := w) #[a, b] T j)
  exact ⟨hc 0, hc 1⟩

/-- A flash all of whose cells are marked from k on. -/
def FMarked (w : World) (lo : Nat) (sv dv : Value) (n m k : Nat) : Prop :=
  Own w lo sv n 1 (marks k n) ∧ Own w lo dv m 2 (marksD (k + n) m) ∧ ∀ j, blk sv n = some j → blk dv m ≠ some j
end Go.Proofs.YthkbllkhomjmbaaDoor

namespace Go.Proofs.YthkbllkhomjmbaaDoor
open Go.RowKit

/-- A valid flash. -/
structure Right (F : FM) : Prop where
  least : 1 ≤ F.sec.length
  most : F.sec.length ≤ 40
  dirty : F.dir.length ≤ F.sec.length
  fits : ∀ j (h : j < F.sec.length), F.sec[j].size ≤ 96
  at0 : ∀ j (h : j < F.dir.length), 0 ≤ F.dir[j].1
  at1 : ∀ j (h : j < F.dir.length), F.dir[j].1 ≤ (F.sec.length : Int) - 1
  data : ∀ j (h : j < F.dir.length), F.dir[j].2.size ≤ 96
  once : ∀ i j (h : j < F.dir.length) (hi : i < j), F.dir[i].1 ≠ F.dir[j].1
def RightPost (F : FM) (w : World) (e : Ending) (w' : World) : Prop := ∃ b : Bool, e = .returned (.bool b) ∧ (b = true ↔ Right F) ∧ Below w.heap.size w w'

set_option maxRecDepth 100000 in
set_option maxHeartbeats 400000 in
theorem is_yes (n lo hi : Int) (w : World) (h0 : lo ≤ n) (h1 : n ≤ hi) :
    Calls Tryd.prog 86 #[.int .i64 n, .int .i64 lo, .int .i64 hi] w fun e w' => e = .returned (.bool true) ∧ w' = w := by
  go_enter Tryd.func86, Tryd.ntmps86
  go_wp2
  go_ret
  exact ⟨rfl, rfl⟩
set_option maxRecDepth 100000 in
set_option maxHeartbeats 400000 in
theorem is_no (n lo hi : Int) (w : World) (h : n < lo ∨ lo ≤ n ∧ hi < n) :
    Calls Tryd.prog 86 #[.int .i64 n, .int .i64 lo, .int .i64 hi] w fun e w' => e = .returned (.bool false) ∧ w' = w := by
  rcases h with h | ⟨h0, h⟩
  · have d0 : decide (lo ≤ n) = false := decide_eq_false (by omega)
    go_enter Tryd.func86, Tryd.ntmps86
    go_wp2
    go_ret
    exact ⟨rfl, rfl⟩
  · have d0 : decide (n ≤ hi) = false := decide_eq_false (by omega)
    go_enter Tryd.func86, Tryd.ntmps86
    go_wp2
    go_ret
    exact ⟨rfl, rfl⟩

def SecRel (F : FM) (i : Value) : Prop := ∃ k : Nat, k ≤ F.sec.length ∧ i = .int .i64 k ∧ ∀ j (h : j < F.sec.length), j < k → F.sec[j].size ≤ 96
/-- What has been seen of the first k elements of Dirty. -/
structure Seen (F : FM) (k : Nat) : Prop where
  at0 : ∀ j (h : j < F.dir.length), j < k → 0 ≤ F.dir[j].1
  at1 : ∀ j (h : j < F.dir.length), j < k → F.dir[j].1 ≤ (F.sec.length : Int) - 1
  data : ∀ j (h : j < F.dir.length), j < k → F.dir[j].2.size ≤ 96
  once : ∀ i j (h : j < F.dir.length) (hi : i < j), j < k → F.dir[i].1 ≠ F.dir[j].1
def DirRel (F : FM) (W : World) (i : Value) (wr : World) : Prop := ∃ k : Nat, k ≤ F.dir.length ∧ i = .int .i64 k ∧ Seen F k ∧ Still W wr
def OnceRel (F : FM) (k : Nat) (h : k < F.dir.length) (W : World) (i : Value) (wr : World) : Prop := ∃ m : Nat, m ≤ k ∧ i = .int .i64 m ∧ (∀ j (hj : j < k), j < m → F.dir[j].1 ≠ F.dir[k].1) ∧ Still W wr

end Go.Proofs.YthkbllkhomjmbaaDoor

namespace Go.Proofs.YthkbllkhomjmbaaDoor
open Go.RowKit

theorem is_dec (x lo hi : Int) (b : Bool) (w : World) (h : (decide (lo ≤ x) && decide (x ≤ hi)) = b) :
    Calls Tryd.prog 86 #[.int .i64 x, .int .i64 lo, .int .i64 hi] w fun e w' => e = .returned (.bool b) ∧ w' = w := by
  cases b with
  | true => simp at h; exact is_yes x lo hi w h.1 h.2
  | false =>
    refine is_no x lo hi w ?_
    rcases Int.lt_or_le x lo with h0 | h0
    · exact .inl h0
    · refine .inr ⟨h0, ?_⟩
      simp [h0] at h; omega


set_option maxRecDepth 100000 in
set_option maxHeartbeats 4000000 in
theorem specR1 (t f n : Int) (d : ByteArray) (w : World) (h0 : 1 ≤ n) (h1 : n ≤ 8) :
    Calls Tryd.prog 38 #[.agg #[.int .i64 1, .int .i64 t, .int .i64 f, .string d], .int .i64 n] w fun e w' => e = .returned (.bool (stepB n 1 t f d)) ∧ Below w.heap.size w w' := by
  have HB := Lib.hid ((Below.refl w.heap.size w).alloc (Nat.le_refl _) (.cells #[.int .i64 1, .int .i64 t, .int .i64 f, .string d] 41))
  have m0 : IntKind.i64.wrap (n - 1) = n - 1 := IntWalk.i64_in _ (by omega)
  obtain ⟨bt, ht⟩ : ∃ b, inB t n = b := ⟨_, rfl⟩
  obtain ⟨bf, hf⟩ : ∃ b, inB f n = b := ⟨_, rfl⟩
  have HT := Lib.hid ht
  have HF := Lib.hid hf
  clear ht hf
  cases bt with
  | false =>
    rw [show stepB n _ _ _ _ = false from stepB_no (by simp [StepOk, HT.out])]
    go_enter Tryd.func38, Tryd.ntmps38
    go_wp2_with fail
    refine (is_yes _ _ _ _ h0 h1).mono ?_
    rintro e w1 ⟨rfl, rfl⟩
    go_wp2_with fail
    go_quiet ((go_at_call 86; first | exact Calls.quiet_of_same (is_dec _ _ _ _ _ HT.out) | exact Calls.quiet_of_same (is_dec _ _ _ _ _ HF.out)))
    go_wp2_with fail
    go_ret
    exact ⟨rfl, below_drewN HB.out _⟩
  | true =>
    by_cases hzf : f = 0
    · subst hzf
      by_cases hd : d.size = 0
      · obtain rfl := empty_of hd
        have hd0 : (ByteArray.mk #[]).size = 0 := rfl
        clear hd
        rw [show stepB n _ _ _ _ = true from stepB_yes (by simp [StepOk, h0, h1, HT.out, hd0])]
        go_enter Tryd.func38, Tryd.ntmps38
        go_wp2_with fail
        refine (is_yes _ _ _ _ h0 h1).mono ?_
        rintro e w1 ⟨rfl, rfl⟩
        go_wp2_with fail
        go_quiet ((go_at_call 86; first | exact Calls.quiet_of_same (is_dec _ _ _ _ _ HT.out) | exact Calls.quiet_of_same (is_dec _ _ _ _ _ HF.out)))
        go_wp2_with fail
        go_ret
        exact ⟨rfl, below_drewN HB.out _⟩
      · have hd1 : d.toList.isEmpty = false := by have := toList_ne hd; simpa using this
        rw [show stepB n _ _ _ _ = false from stepB_no (by simp [StepOk, HT.out, hd])]
        go_enter Tryd.func38, Tryd.ntmps38
        go_wp2_with fail
        refine (is_yes _ _ _ _ h0 h1).mono ?_
        rintro e w1 ⟨rfl, rfl⟩
        go_wp2_with fail
        go_quiet ((go_at_call 86; first | exact Calls.quiet_of_same (is_dec _ _ _ _ _ HT.out) | exact Calls.quiet_of_same (is_dec _ _ _ _ _ HF.out)))
        go_wp2_with fail
        go_ret
        exact ⟨rfl, below_drewN HB.out _⟩
    · have dzf : (f == 0) = false := by simpa using hzf
      rw [show stepB n _ _ _ _ = false from stepB_no (by simp [StepOk, HT.out, hzf])]
      go_enter Tryd.func38, Tryd.ntmps38
      go_wp2_with fail
      refine (is_yes _ _ _ _ h0 h1).mono ?_
      rintro e w1 ⟨rfl, rfl⟩
      go_wp2_with fail
      go_quiet ((go_at_call 86; first | exact Calls.quiet_of_same (is_dec _ _ _ _ _ HT.out) | exact Calls.quiet_of_same (is_dec _ _ _ _ _ HF.out)))
      go_wp2_with fail
      go_ret
      exact ⟨rfl, below_drewN HB.out _⟩

set_option maxRecDepth 100000 in
set_option maxHeartbeats 4000000 in
theorem specR2 (t f n : Int) (d : ByteArray) (w : World) (h0 : 1 ≤ n) (h1 : n ≤ 8) :
    Calls Tryd.prog 38 #[.agg #[.int .i64 2, .int .i64 t, .int .i64 f, .string d], .int .i64 n] w fun e w' => e = .returned (.bool (stepB n 2 t f d)) ∧ Below w.heap.size w w' := by
  have HB := Lib.hid ((Below.refl w.heap.size w).alloc (Nat.le_refl _) (.cells #[.int .i64 2, .int .i64 t, .int .i64 f, .string d] 41))
  have m0 : IntKind.i64.wrap (n - 1) = n - 1 := IntWalk.i64_in _ (by omega)
  obtain ⟨bt, ht⟩ : ∃ b, inB t n = b := ⟨_, rfl⟩
  obtain ⟨bf, hf⟩ : ∃ b, inB f n = b := ⟨_, rfl⟩
  have HT := Lib.hid ht
  have HF := Lib.hid hf
  clear ht hf
  cases bt with
  | false =>
    rw [show stepB n _ _ _ _ = false from stepB_no (by simp [StepOk, HT.out])]
    go_enter Tryd.func38, Tryd.ntmps38
    go_wp2_with fail
    refine (is_yes _ _ _ _ h0 h1).mono ?_
    rintro e w1 ⟨rfl, rfl⟩
    go_wp2_with fail
    go_quiet ((go_at_call 86; first | exact Calls.quiet_of_same (is_dec _ _ _ _ _ HT.out) | exact Calls.quiet_of_same (is_dec _ _ _ _ _ HF.out)))
    go_wp2_with fail
    go_ret
    exact ⟨rfl, below_drewN HB.out _⟩
  | true =>
    by_cases hzf : f = 0
    · subst hzf
      by_cases hd : d.size = 8
      · have hd1 : ((d.size : Int) == 8) = true := by simp; omega
        rw [show stepB n _ _ _ _ = true from stepB_yes (by simp [StepOk, h0, h1, HT.out, hd])]
        go_enter Tryd.func38, Tryd.ntmps38
        go_wp2_with fail
        refine (is_yes _ _ _ _ h0 h1).mono ?_
        rintro e w1 ⟨rfl, rfl⟩
        go_wp2_with fail
        go_quiet ((go_at_call 86; first | exact Calls.quiet_of_same (is_dec _ _ _ _ _ HT.out) | exact Calls.quiet_of_same (is_dec _ _ _ _ _ HF.out)))
        go_wp2_with fail
        go_ret
        exact ⟨rfl, below_drewN HB.out _⟩
      · have hd1 : ((d.size : Int) == 8) = false := by simp; omega
        rw [show stepB n _ _ _ _ = false from stepB_no (by simp [StepOk, HT.out, hd])]
        go_enter Tryd.func38, Tryd.ntmps38
        go_wp2_with fail
        refine (is_yes _ _ _ _ h0 h1).mono ?_
        rintro e w1 ⟨rfl, rfl⟩
        go_wp2_with fail
        go_quiet ((go_at_call 86; first | exact Calls.quiet_of_same (is_dec _ _ _ _ _ HT.out) | exact Calls.quiet_of_same (is_dec _ _ _ _ _ HF.out)))
        go_wp2_with fail
        go_ret
        exact ⟨rfl, below_drewN HB.out _⟩
    · have dzf : (f == 0) = false := by simpa using hzf
      rw [show stepB n _ _ _ _ = false from stepB_no (by simp [StepOk, HT.out, hzf])]
      go_enter Tryd.func38, Tryd.ntmps38
      go_wp2_with fail
      refine (is_yes _ _ _ _ h0 h1).mono ?_
      rintro e w1 ⟨rfl, rfl⟩
      go_wp2_with fail
      go_quiet ((go_at_call 86; first | exact Calls.quiet_of_same (is_dec _ _ _ _ _ HT.out) | exact Calls.quiet_of_same (is_dec _ _ _ _ _ HF.out)))
      go_wp2_with fail
      go_ret
      exact ⟨rfl, below_drewN HB.out _⟩

set_option maxRecDepth 100000 in
set_option maxHeartbeats 4000000 in
theorem specR3 (t f n : Int) (d : ByteArray) (w : World) (h0 : 1 ≤ n) (h1 : n ≤ 8) :
    Calls Tryd.prog 38 #[.agg #[.int .i64 3, .int .i64 t, .int .i64 f, .string d], .int .i64 n] w fun e w' => e = .returned (.bool (stepB n 3 t f d)) ∧ Below w.heap.size w w' := by
  have HB := Lib.hid ((Below.refl w.heap.size w).alloc (Nat.le_refl _) (.cells #[.int .i64 3, .int .i64 t, .int .i64 f, .string d] 41))
  have m0 : IntKind.i64.wrap (n - 1) = n - 1 := IntWalk.i64_in _ (by omega)
  obtain ⟨bt, ht⟩ : ∃ b, inB t n = b := ⟨_, rfl⟩
  obtain ⟨bf, hf⟩ : ∃ b, inB f n = b := ⟨_, rfl⟩
  have HT := Lib.hid ht
  have HF := Lib.hid hf
  clear ht hf
  cases bt with
  | false =>
    rw [show stepB n _ _ _ _ = false from stepB_no (by simp [StepOk, HT.out])]
    go_enter Tryd.func38, Tryd.ntmps38
    go_wp2_with fail
    refine (is_yes _ _ _ _ h0 h1).mono ?_
    rintro e w1 ⟨rfl, rfl⟩
    go_wp2_with fail
    go_quiet ((go_at_call 86; first | exact Calls.quiet_of_same (is_dec _ _ _ _ _ HT.out) | exact Calls.quiet_of_same (is_dec _ _ _ _ _ HF.out)))
    go_wp2_with fail
    go_ret
    exact ⟨rfl, below_drewN HB.out _⟩
  | true =>
    cases bf with
    | false =>
      rw [show stepB n _ _ _ _ = false from stepB_no (by simp [StepOk, HT.out, HF.out])]
      go_enter Tryd.func38, Tryd.ntmps38
      go_wp2_with fail
      refine (is_yes _ _ _ _ h0 h1).mono ?_
      rintro e w1 ⟨rfl, rfl⟩
      go_wp2_with fail
      go_quiet ((go_at_call 86; first | exact Calls.quiet_of_same (is_dec _ _ _ _ _ HT.out) | exact Calls.quiet_of_same (is_dec _ _ _ _ _ HF.out)))
      go_wp2_with fail
      go_ret
      exact ⟨rfl, below_drewN HB.out _⟩
    | true =>
      by_cases hd : d.size = 0
      · obtain rfl := empty_of hd
        have hd0 : (ByteArray.mk #[]).size = 0 := rfl
        clear hd
        rw [show stepB n _ _ _ _ = true from stepB_yes (by simp [StepOk, h0, h1, HT.out, HF.out, hd0])]
        go_enter Tryd.func38, Tryd.ntmps38
        go_wp2_with fail
        refine (is_yes _ _ _ _ h0 h1).mono ?_
        rintro e w1 ⟨rfl, rfl⟩
        go_wp2_with fail
        go_quiet ((go_at_call 86; first | exact Calls.quiet_of_same (is_dec _ _ _ _ _ HT.out) | exact Calls.quiet_of_same (is_dec _ _ _ _ _ HF.out)))
        go_wp2_with fail
        go_ret
        exact ⟨rfl, below_drewN HB.out _⟩
      · have hd1 : d.toList.isEmpty = false := by have := toList_ne hd; simpa using this
        rw [show stepB n _ _ _ _ = false from stepB_no (by simp [StepOk, HT.out, HF.out, hd])]
        go_enter Tryd.func38, Tryd.ntmps38
        go_wp2_with fail
        refine (is_yes _ _ _ _ h0 h1).mono ?_
        rintro e w1 ⟨rfl, rfl⟩
        go_wp2_with fail
        go_quiet ((go_at_call 86; first | exact Calls.quiet_of_same (is_dec _ _ _ _ _ HT.out) | exact Calls.quiet_of_same (is_dec _ _ _ _ _ HF.out)))
        go_wp2_with fail
        go_ret
        exact ⟨rfl, below_drewN HB.out _⟩

set_option maxRecDepth 100000 in
set_option maxHeartbeats 4000000 in
theorem specR4 (t f n : Int) (d : ByteArray) (w : World) (h0 : 1 ≤ n) (h1 : n ≤ 8) :
    Calls Tryd.prog 38 #[.agg #[.int .i64 4, .int .i64 t, .int .i64 f, .string d], .int .i64 n] w fun e w' => e = .returned (.bool (stepB n 4 t f d)) ∧ Below w.heap.size w w' := by
  have HB := Lib.hid ((Below.refl w.heap.size w).alloc (Nat.le_refl _) (.cells #[.int .i64 4, .int .i64 t, .int .i64 f, .string d] 41))
  have m0 : IntKind.i64.wrap (n - 1) = n - 1 := IntWalk.i64_in _ (by omega)
  obtain ⟨bt, ht⟩ : ∃ b, inB t n = b := ⟨_, rfl⟩
  obtain ⟨bf, hf⟩ : ∃ b, inB f n = b := ⟨_, rfl⟩
  have HT := Lib.hid ht
  have HF := Lib.hid hf
  clear ht hf
  cases bt with
  | false =>
    rw [show stepB n _ _ _ _ = false from stepB_no (by simp [StepOk, HT.out])]
    go_enter Tryd.func38, Tryd.ntmps38
    go_wp2_with fail
    refine (is_yes _ _ _ _ h0 h1).mono ?_
    rintro e w1 ⟨rfl, rfl⟩
    go_wp2_with fail
    go_quiet ((go_at_call 86; first | exact Calls.quiet_of_same (is_dec _ _ _ _ _ HT.out) | exact Calls.quiet_of_same (is_dec _ _ _ _ _ HF.out)))
    go_wp2_with fail
    go_ret
    exact ⟨rfl, below_drewN HB.out _⟩
  | true =>
    cases bf with
    | false =>
      rw [show stepB n _ _ _ _ = false from stepB_no (by simp [StepOk, HT.out, HF.out])]
      go_enter Tryd.func38, Tryd.ntmps38
      go_wp2_with fail
      refine (is_yes _ _ _ _ h0 h1).mono ?_
      rintro e w1 ⟨rfl, rfl⟩
      go_wp2_with fail
      go_quiet ((go_at_call 86; first | exact Calls.quiet_of_same (is_dec _ _ _ _ _ HT.out) | exact Calls.quiet_of_same (is_dec _ _ _ _ _ HF.out)))
      go_wp2_with fail
      go_ret
      exact ⟨rfl, below_drewN HB.out _⟩
    | true =>
      by_cases hd : d.size = 8
      · have hd1 : ((d.size : Int) == 8) = true := by simp; omega
        rw [show stepB n _ _ _ _ = true from stepB_yes (by simp [StepOk, h0, h1, HT.out, HF.out, hd])]
        go_enter Tryd.func38, Tryd.ntmps38
        go_wp2_with fail
        refine (is_yes _ _ _ _ h0 h1).mono ?_
        rintro e w1 ⟨rfl, rfl⟩
        go_wp2_with fail
        go_quiet ((go_at_call 86; first | exact Calls.quiet_of_same (is_dec _ _ _ _ _ HT.out) | exact Calls.quiet_of_same (is_dec _ _ _ _ _ HF.out)))
        go_wp2_with fail
        go_ret
        exact ⟨rfl, below_drewN HB.out _⟩
      · have hd1 : ((d.size : Int) == 8) = false := by simp; omega
        rw [show stepB n _ _ _ _ = false from stepB_no (by simp [StepOk, HT.out, HF.out, hd])]
        go_enter Tryd.func38, Tryd.ntmps38
        go_wp2_with fail
        refine (is_yes _ _ _ _ h0 h1).mono ?_
        rintro e w1 ⟨rfl, rfl⟩
        go_wp2_with fail
        go_quiet ((go_at_call 86; first | exact Calls.quiet_of_same (is_dec _ _ _ _ _ HT.out) | exact Calls.quiet_of_same (is_dec _ _ _ _ _ HF.out)))
        go_wp2_with fail
        go_ret
        exact ⟨rfl, below_drewN HB.out _⟩

set_option maxRecDepth 100000 in
set_option maxHeartbeats 4000000 in
theorem specR5 (t f n : Int) (d : ByteArray) (w : World) (h0 : 1 ≤ n) (h1 : n ≤ 8) :
    Calls Tryd.prog 38 #[.agg #[.int .i64 5, .int .i64 t, .int .i64 f, .string d], .int .i64 n] w fun e w' => e = .returned (.bool (stepB n 5 t f d)) ∧ Below w.heap.size w w' := by
  have HB := Lib.hid ((Below.refl w.heap.size w).alloc (Nat.le_refl _) (.cells #[.int .i64 5, .int .i64 t, .int .i64 f, .string d] 41))
  have m0 : IntKind.i64.wrap (n - 1) = n - 1 := IntWalk.i64_in _ (by omega)
  obtain ⟨bt, ht⟩ : ∃ b, inB t n = b := ⟨_, rfl⟩
  obtain ⟨bf, hf⟩ : ∃ b, inB f n = b := ⟨_, rfl⟩
  have HT := Lib.hid ht
  have HF := Lib.hid hf
  clear ht hf
  by_cases hzt : t = 0
  · subst hzt
    obtain ⟨bT, hT⟩ : ∃ b, isT f = b := ⟨_, rfl⟩
    have HTT := Lib.hid hT
    clear hT
    cases bT with
    | false =>
      rw [show stepB n _ _ _ _ = false from stepB_no (by simp [StepOk, HTT.out])]
      go_enter Tryd.func38, Tryd.ntmps38
      go_wp2_with fail
      refine (is_yes _ _ _ _ h0 h1).mono ?_
      rintro e w1 ⟨rfl, rfl⟩
      go_wp2_with fail
      go_quiet ((go_at_call 86; first | exact Calls.quiet_of_same (is_dec _ _ _ _ _ HT.out) | exact Calls.quiet_of_same (is_dec _ _ _ _ _ HF.out)))
      go_wp2_with fail
      refine (is_dec _ _ _ _ _ HTT.out).mono ?_
      rintro e w2 ⟨rfl, rfl⟩
      go_wp2_with fail
      go_ret
      exact ⟨rfl, below_drewN HB.out _⟩
    | true =>
      by_cases hd : d.size = 0
      · obtain rfl := empty_of hd
        have hd0 : (ByteArray.mk #[]).size = 0 := rfl
        clear hd
        rw [show stepB n _ _ _ _ = true from stepB_yes (by simp [StepOk, h0, h1, HTT.out, hd0])]
        go_enter Tryd.func38, Tryd.ntmps38
        go_wp2_with fail
        refine (is_yes _ _ _ _ h0 h1).mono ?_
        rintro e w1 ⟨rfl, rfl⟩
        go_wp2_with fail
        go_quiet ((go_at_call 86; first | exact Calls.quiet_of_same (is_dec _ _ _ _ _ HT.out) | exact Calls.quiet_of_same (is_dec _ _ _ _ _ HF.out)))
        go_wp2_with fail
        refine (is_dec _ _ _ _ _ HTT.out).mono ?_
        rintro e w2 ⟨rfl, rfl⟩
        go_wp2_with fail
        go_ret
        exact ⟨rfl, below_drewN HB.out _⟩
      · have hd1 : d.toList.isEmpty = false := by have := toList_ne hd; simpa using this
        rw [show stepB n _ _ _ _ = false from stepB_no (by simp [StepOk, HTT.out, hd])]
        go_enter Tryd.func38, Tryd.ntmps38
        go_wp2_with fail
        refine (is_yes _ _ _ _ h0 h1).mono ?_
        rintro e w1 ⟨rfl, rfl⟩
        go_wp2_with fail
        go_quiet ((go_at_call 86; first | exact Calls.quiet_of_same (is_dec _ _ _ _ _ HT.out) | exact Calls.quiet_of_same (is_dec _ _ _ _ _ HF.out)))
        go_wp2_with fail
        refine (is_dec _ _ _ _ _ HTT.out).mono ?_
        rintro e w2 ⟨rfl, rfl⟩
        go_wp2_with fail
        go_ret
        exact ⟨rfl, below_drewN HB.out _⟩
  · have dzt : (t == 0) = false := by simpa using hzt
    rw [show stepB n _ _ _ _ = false from stepB_no (by simp [StepOk, hzt])]
    go_enter Tryd.func38, Tryd.ntmps38
    go_wp2_with fail
    refine (is_yes _ _ _ _ h0 h1).mono ?_
    rintro e w1 ⟨rfl, rfl⟩
    go_wp2_with fail
    go_quiet ((go_at_call 86; first | exact Calls.quiet_of_same (is_dec _ _ _ _ _ HT.out) | exact Calls.quiet_of_same (is_dec _ _ _ _ _ HF.out)))
    go_wp2_with fail
    go_ret
    exact ⟨rfl, below_drewN HB.out _⟩

set_option maxRecDepth 100000 in
set_option maxHeartbeats 4000000 in
theorem specRightS (k t f n : Int) (d : ByteArray) (w : World) :
    Calls Tryd.prog 38 #[.agg #[.int .i64 k, .int .i64 t, .int .i64 f, .string d], .int .i64 n] w fun e w' => e = .returned (.bool (stepB n k t f d)) ∧ Below w.heap.size w w' := by
  by_cases hn : 1 ≤ n ∧ n ≤ 8
  · obtain ⟨h0, h1⟩ := hn
    by_cases k1 : k = 1
    · subst k1; exact specR1 t f n d w h0 h1
    by_cases k2 : k = 2
    · subst k2; exact specR2 t f n d w h0 h1
    by_cases k3 : k = 3
    · subst k3; exact specR3 t f n d w h0 h1
    by_cases k4 : k = 4
    · subst k4; exact specR4 t f n d w h0 h1
    by_cases k5 : k = 5
    · subst k5; exact specR5 t f n d w h0 h1
    rw [show stepB n k t f d = false from stepB_no (by simp [StepOk, k1, k2, k3, k4, k5])]
    have HB := Lib.hid ((Below.refl w.heap.size w).alloc (Nat.le_refl _) (.cells #[.int .i64 k, .int .i64 t, .int .i64 f, .string d] 41))
    have m0 : IntKind.i64.wrap (n - 1) = n - 1 := IntWalk.i64_in _ (by omega)
    have e1 : (k == 1) = false := by simpa using k1
    have e2 : (k == 2) = false := by simpa using k2
    have e3 : (k == 3) = false := by simpa using k3
    have e4 : (k == 4) = false := by simpa using k4
    have e5 : (k == 5) = false := by simpa using k5
    clear k1 k2 k3 k4 k5
    go_enter Tryd.func38, Tryd.ntmps38
    go_wp2_with fail
    refine (is_yes _ _ _ _ h0 h1).mono ?_
    rintro e w1 ⟨rfl, rfl⟩
    go_wp2_with fail
    go_quiet ((go_at_call 86; exact Calls.quiet_of_same (is_dec _ _ _ _ _ rfl)))
    go_wp2_with fail
    go_ret
    exact ⟨rfl, below_drewN HB.out _⟩
  · rw [show stepB n k t f d = false from stepB_no (fun h => hn h.1)]
    have HB := Lib.hid ((Below.refl w.heap.size w).alloc (Nat.le_refl _) (.cells #[.int .i64 k, .int .i64 t, .int .i64 f, .string d] 41))
    have HN := Lib.hid (show (decide (1 ≤ n) && decide (n ≤ 8)) = false by cases h : (decide (1 ≤ n) && decide (n ≤ 8)) with | false => rfl | true => simp at h; exact absurd h hn)
    clear hn
    go_enter Tryd.func38, Tryd.ntmps38
    go_wp2_with fail
    refine (is_dec _ _ _ _ _ HN.out).mono ?_
    rintro e w1 ⟨rfl, rfl⟩
    go_wp2_with fail
    go_ret
    exact ⟨rfl, HB.out⟩
end Go.Proofs.YthkbllkhomjmbaaDoor

namespace Go.Proofs.YthkbllkhomjmbaaDoor
open Go.RowKit

set_option maxRecDepth 100000 in
theorem isBlock_any (x n : Int) (b : Bool) (w : World) (h : inB x n = b) :
    Calls Tryd.prog 147 #[.int .i64 x, .int .i64 n] w fun e w' => e = .returned (.bool b) ∧ w' = w := by
  subst h
  by_cases h0 : 0 ≤ x
  · by_cases h1 : x < n
    · rw [(inB_iff x n).2 ⟨h0, h1⟩]
      go_enter Tryd.func147, Tryd.ntmps147
      go_wp2
      go_ret
      exact ⟨rfl, rfl⟩
    · rw [(inB_no x n).2 (fun h => h1 h.2)]
      have d1 : decide (x < n) = false := decide_eq_false h1
      go_enter Tryd.func147, Tryd.ntmps147
      go_wp2
      go_ret
      exact ⟨rfl, rfl⟩
  · rw [(inB_no x n).2 (fun h => h0 h.1)]
    have d1 : decide (0 ≤ x) = false := decide_eq_false h0
    go_enter Tryd.func147, Tryd.ntmps147
    go_wp2
    go_ret
    exact ⟨rfl, rfl⟩
set_option maxRecDepth 100000 in
theorem isTime_any (x : Int) (b : Bool) (w : World) (h : isT x = b) :
    Calls Tryd.prog 94 #[.int .i64 x] w fun e w' => e = .returned (.bool b) ∧ w' = w := by
  subst h
  by_cases h0 : 0 ≤ x
  · by_cases h1 : x ≤ 1000000
    · rw [(isT_iff x).2 ⟨h0, h1⟩]
      go_enter Tryd.func94, Tryd.ntmps94
      go_wp2
      go_ret
      exact ⟨rfl, rfl⟩
    · rw [(isT_no x).2 (fun h => h1 h.2)]
      have d1 : decide (x ≤ 1000000) = false := decide_eq_false h1
      go_enter Tryd.func94, Tryd.ntmps94
      go_wp2
      go_ret
      exact ⟨rfl, rfl⟩
  · rw [(isT_no x).2 (fun h => h0 h.1)]
    have d1 : decide (0 ≤ x) = false := decide_eq_false h0
    go_enter Tryd.func94, Tryd.ntmps94
    go_wp2
    go_ret
    exact ⟨rfl, rfl⟩
set_option maxRecDepth 100000 in
theorem isCount_yes (n : Int) (w : World) (h0 : 1 ≤ n) (h1 : n ≤ 8) :
    Calls Tryd.prog 78 #[.int .i64 n] w fun e w' => e = .returned (.bool true) ∧ w' = w := by
  go_enter Tryd.func78, Tryd.ntmps78
  go_wp2
  go_ret
  exact ⟨rfl, rfl⟩
set_option maxRecDepth 100000 in
theorem isCount_no (n : Int) (w : World) (h : ¬ (1 ≤ n ∧ n ≤ 8)) :
    Calls Tryd.prog 78 #[.int .i64 n] w fun e w' => e = .returned (.bool false) ∧ w' = w := by
  by_cases h0 : 1 ≤ n
  · have d1 : decide (n ≤ 8) = false := decide_eq_false (fun h1 => h ⟨h0, h1⟩)
    clear h
    go_enter Tryd.func78, Tryd.ntmps78
    go_wp2
    go_ret
    exact ⟨rfl, rfl⟩
  · have d1 : decide (1 ≤ n) = false := decide_eq_false h0
    clear h
    go_enter Tryd.func78, Tryd.ntmps78
    go_wp2
    go_ret
    exact ⟨rfl, rfl⟩


set_option maxRecDepth 100000 in
set_option maxHeartbeats 1000000 in
theorem fits1 (t : Int) (n : Int) (b : Bool) (w : World) (h : (inB t n) = b) :
    Calls Tryd.prog 145 #[.agg #[.int .i64 t], .int .i64 n] w fun e w' => e = .returned (.bool b) ∧ Below w.heap.size w w' := by
  have HB := Lib.hid ((Below.refl w.heap.size w).alloc (Nat.le_refl _) (.cells #[.int .i64 t] 148))
  cases h0 : inB t n with
  | false =>
    have hb : b = false := by rw [← h]; simp [h0]
    clear h
    subst hb
    go_enter Tryd.func145, Tryd.ntmps145
    go_wp2_with fail
    refine (isBlock_any _ _ _ _ h0).mono ?_
    rintro e w1 ⟨rfl, rfl⟩
    go_wp2_with fail
    go_ret
    exact ⟨rfl, HB.out⟩
  | true =>
    have hb : b = true := by rw [← h]; simp [h0]
    clear h
    subst hb
    go_enter Tryd.func145, Tryd.ntmps145
    go_wp2_with fail
    refine (isBlock_any _ _ _ _ h0).mono ?_
    rintro e w1 ⟨rfl, rfl⟩
    go_wp2_with fail
    go_ret
    exact ⟨rfl, HB.out⟩

set_option maxRecDepth 100000 in
set_option maxHeartbeats 1000000 in
theorem step1 (t : Int) (w : World) :
    Calls Tryd.prog 146 #[.agg #[.int .i64 t]] w fun e w' => e = .returned (.agg #[.int .i64 1, .int .i64 t, .int .i64 0, .string ⟨#[]⟩]) ∧ Below w.heap.size w w' := by
  go_enter Tryd.func146, Tryd.ntmps146
  go_wp2_with fail
  refine bodyPost_ret (v := .agg #[.int .i64 1, .int .i64 t, .int .i64 0, .string ⟨#[]⟩]) (by simp [results, Tryd.results146, go_sem]) rfl ⟨rfl, ?_⟩
  exact ((Below.refl w.heap.size w).alloc (Nat.le_refl _) _).alloc (by simp) _
theorem method1f (v : Value) (w : World) : (Go.method 311 148 v "loop.example/g00668/impl.fits").run Tryd.prog w = .ok (145, v) w := by kernel_rfl
theorem method1s (v : Value) (w : World) : (Go.method 311 148 v "loop.example/g00668/impl.step").run Tryd.prog w = .ok (146, v) w := by kernel_rfl
set_option maxRecDepth 100000 in
set_option maxHeartbeats 1000000 in
theorem op1 (t f : Int) (d : ByteArray) (w : World) :
    Calls Tryd.prog 85 #[.agg #[.int .i64 1, .int .i64 t, .int .i64 f, .string d]] w fun e w' => e = .returned (.iface 148 (.agg #[.int .i64 t])) ∧ Below w.heap.size w w' := by
  go_enter Tryd.func85, Tryd.ntmps85
  go_wp2_with fail
  go_ret
  exact ⟨rfl, (Below.refl w.heap.size w).alloc (Nat.le_refl _) _⟩

set_option maxRecDepth 100000 in
set_option maxHeartbeats 1000000 in
theorem fits2 (t : Int) (d : ByteArray) (n : Int) (b : Bool) (w : World) (h : (inB t n && decide (d.size = 8)) = b) :
    Calls Tryd.prog 148 #[.agg #[.int .i64 t, .string d], .int .i64 n] w fun e w' => e = .returned (.bool b) ∧ Below w.heap.size w w' := by
  have HB := Lib.hid ((Below.refl w.heap.size w).alloc (Nat.le_refl _) (.cells #[.int .i64 t, .string d] 150))
  cases h0 : inB t n with
  | false =>
    have hb : b = false := by rw [← h]; simp [h0]
    clear h
    subst hb
    go_enter Tryd.func148, Tryd.ntmps148
    go_wp2_with fail
    refine (isBlock_any _ _ _ _ h0).mono ?_
    rintro e w1 ⟨rfl, rfl⟩
    go_wp2_with fail
    go_ret
    exact ⟨rfl, HB.out⟩
  | true =>
    cases h1 : decide (d.size = 8) with
    | false =>
      have hb : b = false := by rw [← h]; simp [h0, h1]
      clear h
      subst hb
      have hd1 : ((d.size : Int) == 8) = false := by simp at h1; simp; omega
      clear h1
      go_enter Tryd.func148, Tryd.ntmps148
      go_wp2_with fail
      refine (isBlock_any _ _ _ _ h0).mono ?_
      rintro e w1 ⟨rfl, rfl⟩
      go_wp2_with fail
      go_ret
      exact ⟨rfl, HB.out⟩
    | true =>
      have hd1 : ((d.size : Int) == 8) = true := by simp at h1; simp; omega
      have hb : b = true := by rw [← h]; simp [h0, h1]
      clear h
      subst hb
      go_enter Tryd.func148, Tryd.ntmps148
      go_wp2_with fail
      refine (isBlock_any _ _ _ _ h0).mono ?_
      rintro e w1 ⟨rfl, rfl⟩
      go_wp2_with fail
      go_ret
      exact ⟨rfl, HB.out⟩

set_option maxRecDepth 100000 in
set_option maxHeartbeats 1000000 in
theorem step2 (t : Int) (d : ByteArray) (w : World) :
    Calls Tryd.prog 149 #[.agg #[.int .i64 t, .string d]] w fun e w' => e = .returned (.agg #[.int .i64 2, .int .i64 t, .int .i64 0, .string d]) ∧ Below w.heap.size w w' := by
  go_enter Tryd.func149, Tryd.ntmps149
  go_wp2_with fail
  refine bodyPost_ret (v := .agg #[.int .i64 2, .int .i64 t, .int .i64 0, .string d]) (by simp [results, Tryd.results149, go_sem]) rfl ⟨rfl, ?_⟩
  exact ((Below.refl w.heap.size w).alloc (Nat.le_refl _) _).alloc (by simp) _
theorem method2f (v : Value) (w : World) : (Go.method 311 150 v "loop.example/g00668/impl.fits").run Tryd.prog w = .ok (148, v) w := by kernel_rfl
theorem method2s (v : Value) (w : World) : (Go.method 311 150 v "loop.example/g00668/impl.step").run Tryd.prog w = .ok (149, v) w := by kernel_rfl
set_option maxRecDepth 100000 in
set_option maxHeartbeats 1000000 in
theorem op2 (t f : Int) (d : ByteArray) (w : World) :
    Calls Tryd.prog 85 #[.agg #[.int .i64 2, .int .i64 t, .int .i64 f, .string d]] w fun e w' => e = .returned (.iface 150 (.agg #[.int .i64 t, .string d])) ∧ Below w.heap.size w w' := by
  go_enter Tryd.func85, Tryd.ntmps85
  go_wp2_with fail
  go_ret
  exact ⟨rfl, (Below.refl w.heap.size w).alloc (Nat.le_refl _) _⟩

set_option maxRecDepth 100000 in
set_option maxHeartbeats 1000000 in
theorem fits3 (t : Int) (f : Int) (n : Int) (b : Bool) (w : World) (h : (inB t n && inB f n) = b) :
    Calls Tryd.prog 150 #[.agg #[.int .i64 t, .int .i64 f], .int .i64 n] w fun e w' => e = .returned (.bool b) ∧ Below w.heap.size w w' := by
  have HB := Lib.hid ((Below.refl w.heap.size w).alloc (Nat.le_refl _) (.cells #[.int .i64 t, .int .i64 f] 152))
  cases h0 : inB t n with
  | false =>
    have hb : b = false := by rw [← h]; simp [h0]
    clear h
    subst hb
    go_enter Tryd.func150, Tryd.ntmps150
    go_wp2_with fail
    refine (isBlock_any _ _ _ _ h0).mono ?_
    rintro e w1 ⟨rfl, rfl⟩
    go_wp2_with fail
    go_ret
    exact ⟨rfl, HB.out⟩
  | true =>
    cases h1 : inB f n with
    | false =>
      have hb : b = false := by rw [← h]; simp [h0, h1]
      clear h
      subst hb
      go_enter Tryd.func150, Tryd.ntmps150
      go_wp2_with fail
      refine (isBlock_any _ _ _ _ h0).mono ?_
      rintro e w1 ⟨rfl, rfl⟩
      go_wp2_with fail
      refine (isBlock_any _ _ _ _ h1).mono ?_
      rintro e w2 ⟨rfl, rfl⟩
      go_wp2_with fail
      go_ret
      exact ⟨rfl, HB.out⟩
    | true =>
      have hb : b = true := by rw [← h]; simp [h0, h1]
      clear h
      subst hb
      go_enter Tryd.func150, Tryd.ntmps150
      go_wp2_with fail
      refine (isBlock_any _ _ _ _ h0).mono ?_
      rintro e w1 ⟨rfl, rfl⟩
      go_wp2_with fail
      refine (isBlock_any _ _ _ _ h1).mono ?_
      rintro e w2 ⟨rfl, rfl⟩
      go_wp2_with fail
      go_ret
      exact ⟨rfl, HB.out⟩

set_option maxRecDepth 100000 in
set_option maxHeartbeats 1000000 in
theorem step3 (t : Int) (f : Int) (w : World) :
    Calls Tryd.prog 151 #[.agg #[.int .i64 t, .int .i64 f]] w fun e w' => e = .returned (.agg #[.int .i64 3, .int .i64 t, .int .i64 f, .string ⟨#[]⟩]) ∧ Below w.heap.size w w' := by
  go_enter Tryd.func151, Tryd.ntmps151
  go_wp2_with fail
  refine bodyPost_ret (v := .agg #[.int .i64 3, .int .i64 t, .int .i64 f, .string ⟨#[]⟩]) (by simp [results, Tryd.results151, go_sem]) rfl ⟨rfl, ?_⟩
  exact ((Below.refl w.heap.size w).alloc (Nat.le_refl _) _).alloc (by simp) _
theorem method3f (v : Value) (w : World) : (Go.method 311 152 v "loop.example/g00668/impl.fits").run Tryd.prog w = .ok (150, v) w := by kernel_rfl
theorem method3s (v : Value) (w : World) : (Go.method 311 152 v "loop.example/g00668/impl.step").run Tryd.prog w = .ok (151, v) w := by kernel_rfl
set_option maxRecDepth 100000 in
set_option maxHeartbeats 1000000 in
theorem op3 (t f : Int) (d : ByteArray) (w : World) :
    Calls Tryd.prog 85 #[.agg #[.int .i64 3, .int .i64 t, .int .i64 f, .string d]] w fun e w' => e = .returned (.iface 152 (.agg #[.int .i64 t, .int .i64 f])) ∧ Below w.heap.size w w' := by
  go_enter Tryd.func85, Tryd.ntmps85
  go_wp2_with fail
  go_ret
  exact ⟨rfl, (Below.refl w.heap.size w).alloc (Nat.le_refl _) _⟩

set_option maxRecDepth 100000 in
set_option maxHeartbeats 1000000 in
theorem fits4 (t : Int) (f : Int) (d : ByteArray) (n : Int) (b : Bool) (w : World) (h : (inB t n && inB f n && decide (d.size = 8)) = b) :
    Calls Tryd.prog 152 #[.agg #[.int .i64 t, .int .i64 f, .string d], .int .i64 n] w fun e w' => e = .returned (.bool b) ∧ Below w.heap.size w w' := by
  have HB := Lib.hid ((Below.refl w.heap.size w).alloc (Nat.le_refl _) (.cells #[.int .i64 t, .int .i64 f, .string d] 154))
  cases h0 : inB t n with
  | false =>
    have hb : b = false := by rw [← h]; simp [h0]
    clear h
    subst hb
    go_enter Tryd.func152, Tryd.ntmps152
    go_wp2_with fail
    refine (isBlock_any _ _ _ _ h0).mono ?_
    rintro e w1 ⟨rfl, rfl⟩
    go_wp2_with fail
    go_ret
    exact ⟨rfl, HB.out⟩
  | true =>
    cases h1 : inB f n with
    | false =>
      have hb : b = false := by rw [← h]; simp [h0, h1]
      clear h
      subst hb
      go_enter Tryd.func152, Tryd.ntmps152
      go_wp2_with fail
      refine (isBlock_any _ _ _ _ h0).mono ?_
      rintro e w1 ⟨rfl, rfl⟩
      go_wp2_with fail
      refine (isBlock_any _ _ _ _ h1).mono ?_
      rintro e w2 ⟨rfl, rfl⟩
      go_wp2_with fail
      go_ret
      exact ⟨rfl, HB.out⟩
    | true =>
      cases h2 : decide (d.size = 8) with
      | false =>
        have hb : b = false := by rw [← h]; simp [h0, h1, h2]
        clear h
        subst hb
        have hd1 : ((d.size : Int) == 8) = false := by simp at h2; simp; omega
        clear h2
        go_enter Tryd.func152, Tryd.ntmps152
        go_wp2_with fail
        refine (isBlock_any _ _ _ _ h0).mono ?_
        rintro e w1 ⟨rfl, rfl⟩
        go_wp2_with fail
        refine (isBlock_any _ _ _ _ h1).mono ?_
        rintro e w2 ⟨rfl, rfl⟩
        go_wp2_with fail
        go_ret
        exact ⟨rfl, HB.out⟩
      | true =>
        have hd1 : ((d.size : Int) == 8) = true := by simp at h2; simp; omega
        have hb : b = true := by rw [← h]; simp [h0, h1, h2]
        clear h
        subst hb
        go_enter Tryd.func152, Tryd.ntmps152
        go_wp2_with fail
        refine (isBlock_any _ _ _ _ h0).mono ?_
        rintro e w1 ⟨rfl, rfl⟩
        go_wp2_with fail
        refine (isBlock_any _ _ _ _ h1).mono ?_
        rintro e w2 ⟨rfl, rfl⟩
        go_wp2_with fail
        go_ret
        exact ⟨rfl, HB.out⟩

set_option maxRecDepth 100000 in
set_option maxHeartbeats 1000000 in
theorem step4 (t : Int) (f : Int) (d : ByteArray) (w : World) :
    Calls Tryd.prog 153 #[.agg #[.int .i64 t, .int .i64 f, .string d]] w fun e w' => e = .returned (.agg #[.int .i64 4, .int .i64 t, .int .i64 f, .string d]) ∧ Below w.heap.size w w' := by
  go_enter Tryd.func153, Tryd.ntmps153
  go_wp2_with fail
  refine bodyPost_ret (v := .agg #[.int .i64 4, .int .i64 t, .int .i64 f, .string d]) (by simp [results, Tryd.results153, go_sem]) rfl ⟨rfl, ?_⟩
  exact ((Below.refl w.heap.size w).alloc (Nat.le_refl _) _).alloc (by simp) _
theorem method4f (v : Value) (w : World) : (Go.method 311 154 v "loop.example/g00668/impl.fits").run Tryd.prog w = .ok (152, v) w := by kernel_rfl
theorem method4s (v : Value) (w : World) : (Go.method 311 154 v "loop.example/g00668/impl.step").run Tryd.prog w = .ok (153, v) w := by kernel_rfl
set_option maxRecDepth 100000 in
set_option maxHeartbeats 1000000 in
theorem op4 (t f : Int) (d : ByteArray) (w : World) :
    Calls Tryd.prog 85 #[.agg #[.int .i64 4, .int .i64 t, .int .i64 f, .string d]] w fun e w' => e = .returned (.iface 154 (.agg #[.int .i64 t, .int .i64 f, .string d])) ∧ Below w.heap.size w w' := by
  go_enter Tryd.func85, Tryd.ntmps85
  go_wp2_with fail
  go_ret
  exact ⟨rfl, (Below.refl w.heap.size w).alloc (Nat.le_refl _) _⟩

set_option maxRecDepth 100000 in
set_option maxHeartbeats 1000000 in
theorem fits5 (f : Int) (n : Int) (b : Bool) (w : World) (h : (isT f) = b) :
    Calls Tryd.prog 143 #[.agg #[.int .i64 f], .int .i64 n] w fun e w' => e = .returned (.bool b) ∧ Below w.heap.size w w' := by
  have HB := Lib.hid ((Below.refl w.heap.size w).alloc (Nat.le_refl _) (.cells #[.int .i64 f] 146))
  cases h0 : isT f with
  | false =>
    have hb : b = false := by rw [← h]; simp [h0]
    clear h
    subst hb
    go_enter Tryd.func143, Tryd.ntmps143
    go_wp2_with fail
    refine (isTime_any _ _ _ h0).mono ?_
    rintro e w1 ⟨rfl, rfl⟩
    go_wp2_with fail
    go_ret
    exact ⟨rfl, HB.out⟩
  | true =>
    have hb : b = true := by rw [← h]; simp [h0]
    clear h
    subst hb
    go_enter Tryd.func143, Tryd.ntmps143
    go_wp2_with fail
    refine (isTime_any _ _ _ h0).mono ?_
    rintro e w1 ⟨rfl, rfl⟩
    go_wp2_with fail
    go_ret
    exact ⟨rfl, HB.out⟩

set_option maxRecDepth 100000 in
set_option maxHeartbeats 1000000 in
theorem step5 (f : Int) (w : World) :
    Calls Tryd.prog 144 #[.agg #[.int .i64 f]] w fun e w' => e = .returned (.agg #[.int .i64 5, .int .i64 0, .int .i64 f, .string ⟨#[]⟩]) ∧ Below w.heap.size w w' := by
  go_enter Tryd.func144, Tryd.ntmps144
  go_wp2_with fail
  refine bodyPost_ret (v := .agg #[.int .i64 5, .int .i64 0, .int .i64 f, .string ⟨#[]⟩]) (by simp [results, Tryd.results144, go_sem]) rfl ⟨rfl, ?_⟩
  exact ((Below.refl w.heap.size w).alloc (Nat.le_refl _) _).alloc (by simp) _
theorem method5f (v : Value) (w : World) : (Go.method 311 146 v "loop.example/g00668/impl.fits").run Tryd.prog w = .ok (143, v) w := by kernel_rfl
theorem method5s (v : Value) (w : World) : (Go.method 311 146 v "loop.example/g00668/impl.step").run Tryd.prog w = .ok (144, v) w := by kernel_rfl
set_option maxRecDepth 100000 in
set_option maxHeartbeats 1000000 in
theorem op5 (t f : Int) (d : ByteArray) (w : World) :
    Calls Tryd.prog 85 #[.agg #[.int .i64 5, .int .i64 t, .int .i64 f, .string d]] w fun e w' => e = .returned (.iface 146 (.agg #[.int .i64 f])) ∧ Below w.heap.size w w' := by
  go_enter Tryd.func85, Tryd.ntmps85
  go_wp2_with fail
  go_ret
  exact ⟨rfl, (Below.refl w.heap.size w).alloc (Nat.le_refl _) _⟩

set_option maxRecDepth 100000 in
set_option maxHeartbeats 1000000 in
theorem op0 (k t f : Int) (d : ByteArray) (w : World) (k1 : k ≠ 1) (k2 : k ≠ 2) (k3 : k ≠ 3) (k4 : k ≠ 4) (k5 : k ≠ 5) :
    Calls Tryd.prog 85 #[.agg #[.int .i64 k, .int .i64 t, .int .i64 f, .string d]] w fun e w' => e = .returned .nilIface ∧ Below w.heap.size w w' := by
  have e1 : (k == 1) = false := by simpa using k1
  have e2 : (k == 2) = false := by simpa using k2
  have e3 : (k == 3) = false := by simpa using k3
  have e4 : (k == 4) = false := by simpa using k4
  have e5 : (k == 5) = false := by simpa using k5
  clear k1 k2 k3 k4 k5
  go_enter Tryd.func85, Tryd.ntmps85
  go_wp2_with fail
  go_ret
  exact ⟨rfl, (Below.refl w.heap.size w).alloc (Nat.le_refl _) _⟩
end Go.Proofs.YthkbllkhomjmbaaDoor

namespace Go.Proofs.YthkbllkhomjmbaaDoor
open Go.RowKit

/-- Block n holds just these cells. -/
def Bx (w : World) (n : Nat) (T : TypeId) (vs : Array Value) : Prop := w.heap[n]? = some (.cells vs T (0, 0))
theorem bx_new (w : World) (T : TypeId) (vs : Array Value) : Bx (w.alloc (.cells vs T)) w.heap.size T vs := heap_alloc_new w _
theorem Bx.lt {w : World} {n : Nat} {T : TypeId} {vs : Array Value} (h : Bx w n T vs) : n < w.heap.size := (Array.getElem?_eq_some_iff.1 h).1
theorem Bx.below {w w' : World} {n B : Nat} {T : TypeId} {vs : Array Value} (h : Bx w n T vs) (hb : Below B w w') (hB : n < B) : Bx w' n T vs := (hb.block n hB).trans h
theorem Bx.next {w w' : World} {n : Nat} {T : TypeId} {vs : Array Value} (h : Bx w n T vs) (hb : Below w.heap.size w w') : Bx w' n T vs := (hb.block n h.lt).trans h
theorem Bx.two {w w' : World} {n : Nat} {T : TypeId} {vs : Array Value} {s d : Option Nat} (h : Bx w n T vs) (ht : Two s d w w') (h1 : some n ≠ s) (h2 : some n ≠ d) : Bx w' n T vs := (ht.block n h.lt h1 h2).trans h
theorem Bx.grown {w w' : World} {n : Nat} {T : TypeId} {vs : Array Value} {s : Option Nat} (h : Bx w n T vs) (hg : w.grownBy w' s) (h1 : some n ≠ s) : Bx w' n T vs := (hg.block n h.lt h1).trans h
theorem Bx.cell {w : World} {n : Nat} {T : TypeId} {vs : Array Value} (h : Bx w n T vs) (j : Nat) : w.cell? ⟨n, j, none⟩ = vs[j]? := cell_of_row w n j _ _ _ h
theorem Bx.frozen {w : World} {n : Nat} {T : TypeId} {vs : Array Value} (h : Bx w n T vs) (j : Nat) : w.frozen? ⟨n, j, none⟩ = false := frozen_of_row w n j _ _ h
theorem Bx.c0 {w : World} {n : Nat} {T : TypeId} {a b : Value} (h : Bx w n T #[a, b]) : w.cell? ⟨n, 0, none⟩ = some a := h.cell 0
theorem Bx.c1 {w : World} {n : Nat} {T : TypeId} {a b : Value} (h : Bx w n T #[a, b]) : w.cell? ⟨n, 1, none⟩ = some b := h.cell 1
theorem Bx.q0 {w : World} {n : Nat} {T : TypeId} {a b c d : Value} (h : Bx w n T #[a, b, c, d]) : w.cell? ⟨n, 0, none⟩ = some a := h.cell 0
theorem Bx.q1 {w : World} {n : Nat} {T : TypeId} {a b c d : Value} (h : Bx w n T #[a, b, c, d]) : w.cell? ⟨n, 1, none⟩ = some b := h.cell 1
theorem Bx.q2 {w : World} {n : Nat} {T : TypeId} {a b c d : Value} (h : Bx w n T #[a, b, c, d]) : w.cell? ⟨n, 2, none⟩ = some c := h.cell 2
theorem Bx.q3 {w : World} {n : Nat} {T : TypeId} {a b c d : Value} (h : Bx w n T #[a, b, c, d]) : w.cell? ⟨n, 3, none⟩ = some d := h.cell 3
theorem Bx.t0 {w : World} {n : Nat} {T : TypeId} {a b c : Value} (h : Bx w n T #[a, b, c]) : w.cell? ⟨n, 0, none⟩ = some a := h.cell 0
theorem Bx.t1 {w : World} {n : Nat} {T : TypeId} {a b c : Value} (h : Bx w n T #[a, b, c]) : w.cell? ⟨n, 1, none⟩ = some b := h.cell 1
theorem Bx.t2 {w : World} {n : Nat} {T : TypeId} {a b c : Value} (h : Bx w n T #[a, b, c]) : w.cell? ⟨n, 2, none⟩ = some c := h.cell 2
theorem Bx.set {w : World} {n j : Nat} {T : TypeId} {vs : Array Value} (h : Bx w n T vs) (x : Value) : Bx (w.setCell ⟨n, j, none⟩ x) n T (vs.setIfInBounds j x) := heap_setCell_same w n j _ T x h
theorem Bx.other {w : World} {n : Nat} {T : TypeId} {vs : Array Value} (h : Bx w n T vs) (p : Addr) (x : Value) (hp : n ≠ p.block) : Bx (w.setCell p x) n T vs := (Below.heap_setCell w p x n hp).trans h
theorem below_alloc1 (w : World) (o : Obj) : Below w.heap.size w (w.alloc o) := (Below.refl _ w).alloc (Nat.le_refl _) o
theorem size_alloc1 (w : World) (o : Obj) : (w.alloc o).heap.size = w.heap.size + 1 := by simp
theorem FOwn.two {w w' : World} {lo : Nat} {sv dv : Value} {F : FM} {s d : Option Nat} (h : FOwn w lo sv dv F) (ht : Two s d w w') (hne : ∀ k, (blk sv F.sec.length = some k ∨ blk dv F.dir.length = some k) → some k ≠ s ∧ some k ≠ d) : FOwn w' lo sv dv F :=
  ⟨h.1.two ht fun k hk => hne k (.inl hk), h.2.1.two ht fun k hk => hne k (.inr hk), h.2.2⟩
theorem FOwn.in {w : World} {lo : Nat} {sv dv : Value} {F : FM} (h : FOwn w lo sv dv F) : ∀ k, (blk sv F.sec.length = some k ∨ blk dv F.dir.length = some k) → lo ≤ k ∧ k < w.heap.size := fun k hk => by
  rcases hk with hk | hk
  · exact h.1.blk k hk
  · exact h.2.1.blk k hk
theorem FMarked.below {w w' : World} {lo n m k B : Nat} {sv dv : Value} (h : FMarked w lo sv dv n m k) (hb : Below B w w') (hB : w.heap.size ≤ B) : FMarked w' lo sv dv n m k := ⟨h.1.below hb hB, h.2.1.below hb hB, h.2.2⟩
theorem Two.keepBelow {s d : Option Nat} {w w' : World} {lo : Nat} (ht : Two s d w w') (h : ∀ k, (s = some k ∨ d = some k) → lo ≤ k) (hw : lo ≤ w.heap.size) : Below lo w w' := ht.below (fun k e => h k (.inl e)) (fun k e => h k (.inr e)) hw
end Go.Proofs.YthkbllkhomjmbaaDoor

namespace Go.Proofs.YthkbllkhomjmbaaDoor
open Go.RowKit


set_option maxRecDepth 100000 in
set_option maxHeartbeats 1000000 in
theorem implR1 (t f n : Int) (d : ByteArray) (w : World) (h0 : 1 ≤ n) (h1 : n ≤ 8) :
    Calls Tryd.prog 37 #[.agg #[.int .i64 1, .int .i64 t, .int .i64 f, .string d], .int .i64 n] w fun e w' => e = .returned (.bool (stepB n 1 t f d)) ∧ Below w.heap.size w w' := by
  have mf := method1f
  have ms := method1s
  obtain ⟨bb, hbb⟩ : ∃ b, (inB t n) = b := ⟨_, rfl⟩
  have HBB := Lib.hid hbb
  clear hbb
  have b0 := below_alloc1 w (.cells #[.int .i64 1, .int .i64 t, .int .i64 f, .string d] 41)
  have z0 := size_alloc1 w (.cells #[.int .i64 1, .int .i64 t, .int .i64 f, .string d] 41)
  have X0 := Lib.hid (bx_new w 41 #[.int .i64 1, .int .i64 t, .int .i64 f, .string d])
  have B0 := Lib.hid b0
  clear b0
  cases bb with
  | false =>
    have no : stepB n 1 t f d = false := stepB_no (by have := HBB.out; simp [StepOk]; try (intros; simp_all))
    rw [no]
    go_enter Tryd.func37, Tryd.ntmps37
    go_wp2_with fail
    refine (op1 _ _ _ _).mono ?_
    rintro e w1 ⟨rfl, hb1⟩
    have X1 := X0.out.next hb1
    have B1 := Lib.hid (B0.out.trans (hb1.mono (by omega)))
    have s1 := hb1.size
    have c0 := X1.q0
    have c1 := X1.q1
    have c2 := X1.q2
    have c3 := X1.q3
    have HX1 := Lib.hid X1
    clear X1 hb1
    go_wp2_with fail
    refine (isCount_yes n _ h0 h1).mono ?_
    rintro e w1 ⟨rfl, rfl⟩
    go_wp2_with fail
    (first | go_region_with ((first | (go_at_call 145; go_loud ( refine (fits1 t n _ _ HBB.out).mono ?_; rintro e w2 ⟨rfl, hb2⟩; have X2 := HX1.out.next ((Below.refl w1.heap.size w1).drew.trans hb2); have B2 := Lib.hid (B1.out.trans (((Below.refl w1.heap.size w1).drew.trans hb2).mono B1.out.size)); have c0 := X2.q0; have c1 := X2.q1; have c2 := X2.q2; have c3 := X2.q3; have s2 := hb2.size; have HX2 := Lib.hid X2; clear X2 hb2)) | (go_at_call 146; go_loud ( refine (step1 t _).mono ?_; rintro e w3 ⟨rfl, hb3⟩; have X3 := HX2.out.next hb3; have B3 := Lib.hid (B2.out.trans (hb3.mono B2.out.size)); have c0 := X3.q0; have c1 := X3.q1; have c2 := X3.q2; have c3 := X3.q3; clear X3 hb3)))) | fail "region")
    all_goals (go_wp2_with fail; go_ret; first | exact ⟨rfl, B3.out⟩ | exact ⟨rfl, B2.out⟩)
  | true =>
    by_cases hzf : f = 0
    · subst hzf
      by_cases hd : d.size = 0
      · obtain rfl := empty_of hd
        clear hd
        have ys : stepB n 1 t 0 ⟨#[]⟩ = true := stepB_yes (by have := HBB.out; (try simp at this); simp [StepOk, h0, h1, this]; try rfl)
        rw [ys]
        go_enter Tryd.func37, Tryd.ntmps37
        go_wp2_with fail
        refine (op1 _ _ _ _).mono ?_
        rintro e w1 ⟨rfl, hb1⟩
        have X1 := X0.out.next hb1
        have B1 := Lib.hid (B0.out.trans (hb1.mono (by omega)))
        have s1 := hb1.size
        have c0 := X1.q0
        have c1 := X1.q1
        have c2 := X1.q2
        have c3 := X1.q3
        have HX1 := Lib.hid X1
        clear X1 hb1
        go_wp2_with fail
        refine (isCount_yes n _ h0 h1).mono ?_
        rintro e w1 ⟨rfl, rfl⟩
        go_wp2_with fail
        (first | go_region_with ((first | (go_at_call 145; go_loud ( refine (fits1 t n _ _ HBB.out).mono ?_; rintro e w2 ⟨rfl, hb2⟩; have X2 := HX1.out.next ((Below.refl w1.heap.size w1).drew.trans hb2); have B2 := Lib.hid (B1.out.trans (((Below.refl w1.heap.size w1).drew.trans hb2).mono B1.out.size)); have c0 := X2.q0; have c1 := X2.q1; have c2 := X2.q2; have c3 := X2.q3; have s2 := hb2.size; have HX2 := Lib.hid X2; clear X2 hb2)) | (go_at_call 146; go_loud ( refine (step1 t _).mono ?_; rintro e w3 ⟨rfl, hb3⟩; have X3 := HX2.out.next hb3; have B3 := Lib.hid (B2.out.trans (hb3.mono B2.out.size)); have c0 := X3.q0; have c1 := X3.q1; have c2 := X3.q2; have c3 := X3.q3; clear X3 hb3)))) | fail "region")
        all_goals (go_wp2_with fail; go_ret; first | exact ⟨rfl, B3.out⟩ | exact ⟨rfl, B2.out⟩)
      · have no : stepB n 1 t 0 d = false := stepB_no (by simp [StepOk, hd])
        have hd1 : d.toList.isEmpty = false := by have := toList_ne hd; simpa using this
        rw [no]
        go_enter Tryd.func37, Tryd.ntmps37
        go_wp2_with fail
        refine (op1 _ _ _ _).mono ?_
        rintro e w1 ⟨rfl, hb1⟩
        have X1 := X0.out.next hb1
        have B1 := Lib.hid (B0.out.trans (hb1.mono (by omega)))
        have s1 := hb1.size
        have c0 := X1.q0
        have c1 := X1.q1
        have c2 := X1.q2
        have c3 := X1.q3
        have HX1 := Lib.hid X1
        clear X1 hb1
        go_wp2_with fail
        refine (isCount_yes n _ h0 h1).mono ?_
        rintro e w1 ⟨rfl, rfl⟩
        go_wp2_with fail
        (first | go_region_with ((first | (go_at_call 145; go_loud ( refine (fits1 t n _ _ HBB.out).mono ?_; rintro e w2 ⟨rfl, hb2⟩; have X2 := HX1.out.next ((Below.refl w1.heap.size w1).drew.trans hb2); have B2 := Lib.hid (B1.out.trans (((Below.refl w1.heap.size w1).drew.trans hb2).mono B1.out.size)); have c0 := X2.q0; have c1 := X2.q1; have c2 := X2.q2; have c3 := X2.q3; have s2 := hb2.size; have HX2 := Lib.hid X2; clear X2 hb2)) | (go_at_call 146; go_loud ( refine (step1 t _).mono ?_; rintro e w3 ⟨rfl, hb3⟩; have X3 := HX2.out.next hb3; have B3 := Lib.hid (B2.out.trans (hb3.mono B2.out.size)); have c0 := X3.q0; have c1 := X3.q1; have c2 := X3.q2; have c3 := X3.q3; clear X3 hb3)))) | fail "region")
        all_goals (go_wp2_with fail; go_ret; first | exact ⟨rfl, B3.out⟩ | exact ⟨rfl, B2.out⟩)
    · have no : stepB n 1 t f d = false := stepB_no (by simp [StepOk, hzf])
      have dzf : ((0 : Int) == f) = false := by simp; omega
      rw [no]
      go_enter Tryd.func37, Tryd.ntmps37
      go_wp2_with fail
      refine (op1 _ _ _ _).mono ?_
      rintro e w1 ⟨rfl, hb1⟩
      have X1 := X0.out.next hb1
      have B1 := Lib.hid (B0.out.trans (hb1.mono (by omega)))
      have s1 := hb1.size
      have c0 := X1.q0
      have c1 := X1.q1
      have c2 := X1.q2
      have c3 := X1.q3
      have HX1 := Lib.hid X1
      clear X1 hb1
      go_wp2_with fail
      refine (isCount_yes n _ h0 h1).mono ?_
      rintro e w1 ⟨rfl, rfl⟩
      go_wp2_with fail
      (first | go_region_with ((first | (go_at_call 145; go_loud ( refine (fits1 t n _ _ HBB.out).mono ?_; rintro e w2 ⟨rfl, hb2⟩; have X2 := HX1.out.next ((Below.refl w1.heap.size w1).drew.trans hb2); have B2 := Lib.hid (B1.out.trans (((Below.refl w1.heap.size w1).drew.trans hb2).mono B1.out.size)); have c0 := X2.q0; have c1 := X2.q1; have c2 := X2.q2; have c3 := X2.q3; have s2 := hb2.size; have HX2 := Lib.hid X2; clear X2 hb2)) | (go_at_call 146; go_loud ( refine (step1 t _).mono ?_; rintro e w3 ⟨rfl, hb3⟩; have X3 := HX2.out.next hb3; have B3 := Lib.hid (B2.out.trans (hb3.mono B2.out.size)); have c0 := X3.q0; have c1 := X3.q1; have c2 := X3.q2; have c3 := X3.q3; clear X3 hb3)))) | fail "region")
      all_goals (go_wp2_with fail; go_ret; first | exact ⟨rfl, B3.out⟩ | exact ⟨rfl, B2.out⟩)
end Go.Proofs.YthkbllkhomjmbaaDoor

namespace Go.Proofs.YthkbllkhomjmbaaDoor
open Go.RowKit


set_option maxRecDepth 100000 in
set_option maxHeartbeats 1000000 in
theorem implR2 (t f n : Int) (d : ByteArray) (w : World) (h0 : 1 ≤ n) (h1 : n ≤ 8) :
    Calls Tryd.prog 37 #[.agg #[.int .i64 2, .int .i64 t, .int .i64 f, .string d], .int .i64 n] w fun e w' => e = .returned (.bool (stepB n 2 t f d)) ∧ Below w.heap.size w w' := by
  have mf := method2f
  have ms := method2s
  obtain ⟨bb, hbb⟩ : ∃ b, (inB t n && decide (d.size = 8)) = b := ⟨_, rfl⟩
  have HBB := Lib.hid hbb
  clear hbb
  have b0 := below_alloc1 w (.cells #[.int .i64 2, .int .i64 t, .int .i64 f, .string d] 41)
  have z0 := size_alloc1 w (.cells #[.int .i64 2, .int .i64 t, .int .i64 f, .string d] 41)
  have X0 := Lib.hid (bx_new w 41 #[.int .i64 2, .int .i64 t, .int .i64 f, .string d])
  have B0 := Lib.hid b0
  clear b0
  cases bb with
  | false =>
    have no : stepB n 2 t f d = false := stepB_no (by have := HBB.out; simp [StepOk]; try (intros; simp_all))
    rw [no]
    go_enter Tryd.func37, Tryd.ntmps37
    go_wp2_with fail
    refine (op2 _ _ _ _).mono ?_
    rintro e w1 ⟨rfl, hb1⟩
    have X1 := X0.out.next hb1
    have B1 := Lib.hid (B0.out.trans (hb1.mono (by omega)))
    have s1 := hb1.size
    have c0 := X1.q0
    have c1 := X1.q1
    have c2 := X1.q2
    have c3 := X1.q3
    have HX1 := Lib.hid X1
    clear X1 hb1
    go_wp2_with fail
    refine (isCount_yes n _ h0 h1).mono ?_
    rintro e w1 ⟨rfl, rfl⟩
    go_wp2_with fail
    (first | go_region_with ((first | (go_at_call 148; go_loud ( refine (fits2 t d n _ _ HBB.out).mono ?_; rintro e w2 ⟨rfl, hb2⟩; have X2 := HX1.out.next ((Below.refl w1.heap.size w1).drew.trans hb2); have B2 := Lib.hid (B1.out.trans (((Below.refl w1.heap.size w1).drew.trans hb2).mono B1.out.size)); have c0 := X2.q0; have c1 := X2.q1; have c2 := X2.q2; have c3 := X2.q3; have s2 := hb2.size; have HX2 := Lib.hid X2; clear X2 hb2)) | (go_at_call 149; go_loud ( refine (step2 t d _).mono ?_; rintro e w3 ⟨rfl, hb3⟩; have X3 := HX2.out.next hb3; have B3 := Lib.hid (B2.out.trans (hb3.mono B2.out.size)); have c0 := X3.q0; have c1 := X3.q1; have c2 := X3.q2; have c3 := X3.q3; clear X3 hb3)))) | fail "region")
    all_goals (go_wp2_with fail; go_ret; first | exact ⟨rfl, B3.out⟩ | exact ⟨rfl, B2.out⟩)
  | true =>
    by_cases hzf : f = 0
    · subst hzf
      have ys : stepB n 2 t 0 d = true := stepB_yes (by have := HBB.out; (try simp at this); simp [StepOk, h0, h1, this]; try rfl)
      rw [ys]
      go_enter Tryd.func37, Tryd.ntmps37
      go_wp2_with fail
      refine (op2 _ _ _ _).mono ?_
      rintro e w1 ⟨rfl, hb1⟩
      have X1 := X0.out.next hb1
      have B1 := Lib.hid (B0.out.trans (hb1.mono (by omega)))
      have s1 := hb1.size
      have c0 := X1.q0
      have c1 := X1.q1
      have c2 := X1.q2
      have c3 := X1.q3
      have HX1 := Lib.hid X1
      clear X1 hb1
      go_wp2_with fail
      refine (isCount_yes n _ h0 h1).mono ?_
      rintro e w1 ⟨rfl, rfl⟩
      go_wp2_with fail
      (first | go_region_with ((first | (go_at_call 148; go_loud ( refine (fits2 t d n _ _ HBB.out).mono ?_; rintro e w2 ⟨rfl, hb2⟩; have X2 := HX1.out.next ((Below.refl w1.heap.size w1).drew.trans hb2); have B2 := Lib.hid (B1.out.trans (((Below.refl w1.heap.size w1).drew.trans hb2).mono B1.out.size)); have c0 := X2.q0; have c1 := X2.q1; have c2 := X2.q2; have c3 := X2.q3; have s2 := hb2.size; have HX2 := Lib.hid X2; clear X2 hb2)) | (go_at_call 149; go_loud ( refine (step2 t d _).mono ?_; rintro e w3 ⟨rfl, hb3⟩; have X3 := HX2.out.next hb3; have B3 := Lib.hid (B2.out.trans (hb3.mono B2.out.size)); have c0 := X3.q0; have c1 := X3.q1; have c2 := X3.q2; have c3 := X3.q3; clear X3 hb3)))) | fail "region")
      all_goals (go_wp2_with fail; go_ret; first | exact ⟨rfl, B3.out⟩ | exact ⟨rfl, B2.out⟩)
    · have no : stepB n 2 t f d = false := stepB_no (by simp [StepOk, hzf])
      have dzf : ((0 : Int) == f) = false := by simp; omega
      rw [no]
      go_enter Tryd.func37, Tryd.ntmps37
      go_wp2_with fail
      refine (op2 _ _ _ _).mono ?_
      rintro e w1 ⟨rfl, hb1⟩
      have X1 := X0.out.next hb1
      have B1 := Lib.hid (B0.out.trans (hb1.mono (by omega)))
      have s1 := hb1.size
      have c0 := X1.q0
      have c1 := X1.q1
      have c2 := X1.q2
      have c3 := X1.q3
      have HX1 := Lib.hid X1
      clear X1 hb1
      go_wp2_with fail
      refine (isCount_yes n _ h0 h1).mono ?_
      rintro e w1 ⟨rfl, rfl⟩
      go_wp2_with fail
      (first | go_region_with ((first | (go_at_call 148; go_loud ( refine (fits2 t d n _ _ HBB.out).mono ?_; rintro e w2 ⟨rfl, hb2⟩; have X2 := HX1.out.next ((Below.refl w1.heap.size w1).drew.trans hb2); have B2 := Lib.hid (B1.out.trans (((Below.refl w1.heap.size w1).drew.trans hb2).mono B1.out.size)); have c0 := X2.q0; have c1 := X2.q1; have c2 := X2.q2; have c3 := X2.q3; have s2 := hb2.size; have HX2 := Lib.hid X2; clear X2 hb2)) | (go_at_call 149; go_loud ( refine (step2 t d _).mono ?_; rintro e w3 ⟨rfl, hb3⟩; have X3 := HX2.out.next hb3; have B3 := Lib.hid (B2.out.trans (hb3.mono B2.out.size)); have c0 := X3.q0; have c1 := X3.q1; have c2 := X3.q2; have c3 := X3.q3; clear X3 hb3)))) | fail "region")
      all_goals (go_wp2_with fail; go_ret; first | exact ⟨rfl, B3.out⟩ | exact ⟨rfl, B2.out⟩)
end Go.Proofs.YthkbllkhomjmbaaDoor

namespace Go.Proofs.YthkbllkhomjmbaaDoor
open Go.RowKit


set_option maxRecDepth 100000 in
set_option maxHeartbeats 1000000 in
theorem implR3 (t f n : Int) (d : ByteArray) (w : World) (h0 : 1 ≤ n) (h1 : n ≤ 8) :
    Calls Tryd.prog 37 #[.agg #[.int .i64 3, .int .i64 t, .int .i64 f, .string d], .int .i64 n] w fun e w' => e = .returned (.bool (stepB n 3 t f d)) ∧ Below w.heap.size w w' := by
  have mf := method3f
  have ms := method3s
  obtain ⟨bb, hbb⟩ : ∃ b, (inB t n && inB f n) = b := ⟨_, rfl⟩
  have HBB := Lib.hid hbb
  clear hbb
  have b0 := below_alloc1 w (.cells #[.int .i64 3, .int .i64 t, .int .i64 f, .string d] 41)
  have z0 := size_alloc1 w (.cells #[.int .i64 3, .int .i64 t, .int .i64 f, .string d] 41)
  have X0 := Lib.hid (bx_new w 41 #[.int .i64 3, .int .i64 t, .int .i64 f, .string d])
  have B0 := Lib.hid b0
  clear b0
  cases bb with
  | false =>
    have no : stepB n 3 t f d = false := stepB_no (by have := HBB.out; simp [StepOk]; try (intros; simp_all))
    rw [no]
    go_enter Tryd.func37, Tryd.ntmps37
    go_wp2_with fail
    refine (op3 _ _ _ _).mono ?_
    rintro e w1 ⟨rfl, hb1⟩
    have X1 := X0.out.next hb1
    have B1 := Lib.hid (B0.out.trans (hb1.mono (by omega)))
    have s1 := hb1.size
    have c0 := X1.q0
    have c1 := X1.q1
    have c2 := X1.q2
    have c3 := X1.q3
    have HX1 := Lib.hid X1
    clear X1 hb1
    go_wp2_with fail
    refine (isCount_yes n _ h0 h1).mono ?_
    rintro e w1 ⟨rfl, rfl⟩
    go_wp2_with fail
    (first | go_region_with ((first | (go_at_call 150; go_loud ( refine (fits3 t f n _ _ HBB.out).mono ?_; rintro e w2 ⟨rfl, hb2⟩; have X2 := HX1.out.next ((Below.refl w1.heap.size w1).drew.trans hb2); have B2 := Lib.hid (B1.out.trans (((Below.refl w1.heap.size w1).drew.trans hb2).mono B1.out.size)); have c0 := X2.q0; have c1 := X2.q1; have c2 := X2.q2; have c3 := X2.q3; have s2 := hb2.size; have HX2 := Lib.hid X2; clear X2 hb2)) | (go_at_call 151; go_loud ( refine (step3 t f _).mono ?_; rintro e w3 ⟨rfl, hb3⟩; have X3 := HX2.out.next hb3; have B3 := Lib.hid (B2.out.trans (hb3.mono B2.out.size)); have c0 := X3.q0; have c1 := X3.q1; have c2 := X3.q2; have c3 := X3.q3; clear X3 hb3)))) | fail "region")
    all_goals (go_wp2_with fail; go_ret; first | exact ⟨rfl, B3.out⟩ | exact ⟨rfl, B2.out⟩)
  | true =>
    by_cases hd : d.size = 0
    · obtain rfl := empty_of hd
      clear hd
      have ys : stepB n 3 t f ⟨#[]⟩ = true := stepB_yes (by have := HBB.out; (try simp at this); simp [StepOk, h0, h1, this]; try rfl)
      rw [ys]
      go_enter Tryd.func37, Tryd.ntmps37
      go_wp2_with fail
      refine (op3 _ _ _ _).mono ?_
      rintro e w1 ⟨rfl, hb1⟩
      have X1 := X0.out.next hb1
      have B1 := Lib.hid (B0.out.trans (hb1.mono (by omega)))
      have s1 := hb1.size
      have c0 := X1.q0
      have c1 := X1.q1
      have c2 := X1.q2
      have c3 := X1.q3
      have HX1 := Lib.hid X1
      clear X1 hb1
      go_wp2_with fail
      refine (isCount_yes n _ h0 h1).mono ?_
      rintro e w1 ⟨rfl, rfl⟩
      go_wp2_with fail
      (first | go_region_with ((first | (go_at_call 150; go_loud ( refine (fits3 t f n _ _ HBB.out).mono ?_; rintro e w2 ⟨rfl, hb2⟩; have X2 := HX1.out.next ((Below.refl w1.heap.size w1).drew.trans hb2); have B2 := Lib.hid (B1.out.trans (((Below.refl w1.heap.size w1).drew.trans hb2).mono B1.out.size)); have c0 := X2.q0; have c1 := X2.q1; have c2 := X2.q2; have c3 := X2.q3; have s2 := hb2.size; have HX2 := Lib.hid X2; clear X2 hb2)) | (go_at_call 151; go_loud ( refine (step3 t f _).mono ?_; rintro e w3 ⟨rfl, hb3⟩; have X3 := HX2.out.next hb3; have B3 := Lib.hid (B2.out.trans (hb3.mono B2.out.size)); have c0 := X3.q0; have c1 := X3.q1; have c2 := X3.q2; have c3 := X3.q3; clear X3 hb3)))) | fail "region")
      all_goals (go_wp2_with fail; go_ret; first | exact ⟨rfl, B3.out⟩ | exact ⟨rfl, B2.out⟩)
    · have no : stepB n 3 t f d = false := stepB_no (by simp [StepOk, hd])
      have hd1 : d.toList.isEmpty = false := by have := toList_ne hd; simpa using this
      rw [no]
      go_enter Tryd.func37, Tryd.ntmps37
      go_wp2_with fail
      refine (op3 _ _ _ _).mono ?_
      rintro e w1 ⟨rfl, hb1⟩
      have X1 := X0.out.next hb1
      have B1 := Lib.hid (B0.out.trans (hb1.mono (by omega)))
      have s1 := hb1.size
      have c0 := X1.q0
      have c1 := X1.q1
      have c2 := X1.q2
      have c3 := X1.q3
      have HX1 := Lib.hid X1
      clear X1 hb1
      go_wp2_with fail
      refine (isCount_yes n _ h0 h1).mono ?_
      rintro e w1 ⟨rfl, rfl⟩
      go_wp2_with fail
      (first | go_region_with ((first | (go_at_call 150; go_loud ( refine (fits3 t f n _ _ HBB.out).mono ?_; rintro e w2 ⟨rfl, hb2⟩; have X2 := HX1.out.next ((Below.refl w1.heap.size w1).drew.trans hb2); have B2 := Lib.hid (B1.out.trans (((Below.refl w1.heap.size w1).drew.trans hb2).mono B1.out.size)); have c0 := X2.q0; have c1 := X2.q1; have c2 := X2.q2; have c3 := X2.q3; have s2 := hb2.size; have HX2 := Lib.hid X2; clear X2 hb2)) | (go_at_call 151; go_loud ( refine (step3 t f _).mono ?_; rintro e w3 ⟨rfl, hb3⟩; have X3 := HX2.out.next hb3; have B3 := Lib.hid (B2.out.trans (hb3.mono B2.out.size)); have c0 := X3.q0; have c1 := X3.q1; have c2 := X3.q2; have c3 := X3.q3; clear X3 hb3)))) | fail "region")
      all_goals (go_wp2_with fail; go_ret; first | exact ⟨rfl, B3.out⟩ | exact ⟨rfl, B2.out⟩)
end Go.Proofs.YthkbllkhomjmbaaDoor

namespace Go.Proofs.YthkbllkhomjmbaaDoor
open Go.RowKit


set_option maxRecDepth 100000 in
set_option maxHeartbeats 1000000 in
theorem implR4 (t f n : Int) (d : ByteArray) (w : World) (h0 : 1 ≤ n) (h1 : n ≤ 8) :
    Calls Tryd.prog 37 #[.agg #[.int .i64 4, .int .i64 t, .int .i64 f, .string d], .int .i64 n] w fun e w' => e = .returned (.bool (stepB n 4 t f d)) ∧ Below w.heap.size w w' := by
  have mf := method4f
  have ms := method4s
  obtain ⟨bb, hbb⟩ : ∃ b, (inB t n && inB f n && decide (d.size = 8)) = b := ⟨_, rfl⟩
  have HBB := Lib.hid hbb
  clear hbb
  have b0 := below_alloc1 w (.cells #[.int .i64 4, .int .i64 t, .int .i64 f, .string d] 41)
  have z0 := size_alloc1 w (.cells #[.int .i64 4, .int .i64 t, .int .i64 f, .string d] 41)
  have X0 := Lib.hid (bx_new w 41 #[.int .i64 4, .int .i64 t, .int .i64 f, .string d])
  have B0 := Lib.hid b0
  clear b0
  cases bb with
  | false =>
    have no : stepB n 4 t f d = false := stepB_no (by have := HBB.out; simp [StepOk]; try (intros; simp_all))
    rw [no]
    go_enter Tryd.func37, Tryd.ntmps37
    go_wp2_with fail
    refine (op4 _ _ _ _).mono ?_
    rintro e w1 ⟨rfl, hb1⟩
    have X1 := X0.out.next hb1
    have B1 := Lib.hid (B0.out.trans (hb1.mono (by omega)))
    have s1 := hb1.size
    have c0 := X1.q0
    have c1 := X1.q1
    have c2 := X1.q2
    have c3 := X1.q3
    have HX1 := Lib.hid X1
    clear X1 hb1
    go_wp2_with fail
    refine (isCount_yes n _ h0 h1).mono ?_
    rintro e w1 ⟨rfl, rfl⟩
    go_wp2_with fail
    (first | go_region_with ((first | (go_at_call 152; go_loud ( refine (fits4 t f d n _ _ HBB.out).mono ?_; rintro e w2 ⟨rfl, hb2⟩; have X2 := HX1.out.next ((Below.refl w1.heap.size w1).drew.trans hb2); have B2 := Lib.hid (B1.out.trans (((Below.refl w1.heap.size w1).drew.trans hb2).mono B1.out.size)); have c0 := X2.q0; have c1 := X2.q1; have c2 := X2.q2; have c3 := X2.q3; have s2 := hb2.size; have HX2 := Lib.hid X2; clear X2 hb2)) | (go_at_call 153; go_loud ( refine (step4 t f d _).mono ?_; rintro e w3 ⟨rfl, hb3⟩; have X3 := HX2.out.next hb3; have B3 := Lib.hid (B2.out.trans (hb3.mono B2.out.size)); have c0 := X3.q0; have c1 := X3.q1; have c2 := X3.q2; have c3 := X3.q3; clear X3 hb3)))) | fail "region")
    all_goals (go_wp2_with fail; go_ret; first | exact ⟨rfl, B3.out⟩ | exact ⟨rfl, B2.out⟩)
  | true =>
    have ys : stepB n 4 t f d = true := stepB_yes (by have := HBB.out; (try simp at this); simp [StepOk, h0, h1, this]; try rfl)
    rw [ys]
    go_enter Tryd.func37, Tryd.ntmps37
    go_wp2_with fail
    refine (op4 _ _ _ _).mono ?_
    rintro e w1 ⟨rfl, hb1⟩
    have X1 := X0.out.next hb1
    have B1 := Lib.hid (B0.out.trans (hb1.mono (by omega)))
    have s1 := hb1.size
    have c0 := X1.q0
    have c1 := X1.q1
    have c2 := X1.q2
    have c3 := X1.q3
    have HX1 := Lib.hid X1
    clear X1 hb1
    go_wp2_with fail
    refine (isCount_yes n _ h0 h1).mono ?_
    rintro e w1 ⟨rfl, rfl⟩
    go_wp2_with fail
    (first | go_region_with ((first | (go_at_call 152; go_loud ( refine (fits4 t f d n _ _ HBB.out).mono ?_; rintro e w2 ⟨rfl, hb2⟩; have X2 := HX1.out.next ((Below.refl w1.heap.size w1).drew.trans hb2); have B2 := Lib.hid (B1.out.trans (((Below.refl w1.heap.size w1).drew.trans hb2).mono B1.out.size)); have c0 := X2.q0; have c1 := X2.q1; have c2 := X2.q2; have c3 := X2.q3; have s2 := hb2.size; have HX2 := Lib.hid X2; clear X2 hb2)) | (go_at_call 153; go_loud ( refine (step4 t f d _).mono ?_; rintro e w3 ⟨rfl, hb3⟩; have X3 := HX2.out.next hb3; have B3 := Lib.hid (B2.out.trans (hb3.mono B2.out.size)); have c0 := X3.q0; have c1 := X3.q1; have c2 := X3.q2; have c3 := X3.q3; clear X3 hb3)))) | fail "region")
    all_goals (go_wp2_with fail; go_ret; first | exact ⟨rfl, B3.out⟩ | exact ⟨rfl, B2.out⟩)
end Go.Proofs.YthkbllkhomjmbaaDoor

namespace Go.Proofs.YthkbllkhomjmbaaDoor
open Go.RowKit


set_option maxRecDepth 100000 in
set_option maxHeartbeats 1000000 in
theorem implR5 (t f n : Int) (d : ByteArray) (w : World) (h0 : 1 ≤ n) (h1 : n ≤ 8) :
    Calls Tryd.prog 37 #[.agg #[.int .i64 5, .int .i64 t, .int .i64 f, .string d], .int .i64 n] w fun e w' => e = .returned (.bool (stepB n 5 t f d)) ∧ Below w.heap.size w w' := by
  have mf := method5f
  have ms := method5s
  obtain ⟨bb, hbb⟩ : ∃ b, (isT f) = b := ⟨_, rfl⟩
  have HBB := Lib.hid hbb
  clear hbb
  have b0 := below_alloc1 w (.cells #[.int .i64 5, .int .i64 t, .int .i64 f, .string d] 41)
  have z0 := size_alloc1 w (.cells #[.int .i64 5, .int .i64 t, .int .i64 f, .string d] 41)
  have X0 := Lib.hid (bx_new w 41 #[.int .i64 5, .int .i64 t, .int .i64 f, .string d])
  have B0 := Lib.hid b0
  clear b0
  cases bb with
  | false =>
    have no : stepB n 5 t f d = false := stepB_no (by have := HBB.out; simp [StepOk]; try (intros; simp_all))
    rw [no]
    go_enter Tryd.func37, Tryd.ntmps37
    go_wp2_with fail
    refine (op5 _ _ _ _).mono ?_
    rintro e w1 ⟨rfl, hb1⟩
    have X1 := X0.out.next hb1
    have B1 := Lib.hid (B0.out.trans (hb1.mono (by omega)))
    have s1 := hb1.size
    have c0 := X1.q0
    have c1 := X1.q1
    have c2 := X1.q2
    have c3 := X1.q3
    have HX1 := Lib.hid X1
    clear X1 hb1
    go_wp2_with fail
    refine (isCount_yes n _ h0 h1).mono ?_
    rintro e w1 ⟨rfl, rfl⟩
    go_wp2_with fail
    (first | go_region_with ((first | (go_at_call 143; go_loud ( refine (fits5 f n _ _ HBB.out).mono ?_; rintro e w2 ⟨rfl, hb2⟩; have X2 := HX1.out.next ((Below.refl w1.heap.size w1).drew.trans hb2); have B2 := Lib.hid (B1.out.trans (((Below.refl w1.heap.size w1).drew.trans hb2).mono B1.out.size)); have c0 := X2.q0; have c1 := X2.q1; have c2 := X2.q2; have c3 := X2.q3; have s2 := hb2.size; have HX2 := Lib.hid X2; clear X2 hb2)) | (go_at_call 144; go_loud ( refine (step5 f _).mono ?_; rintro e w3 ⟨rfl, hb3⟩; have X3 := HX2.out.next hb3; have B3 := Lib.hid (B2.out.trans (hb3.mono B2.out.size)); have c0 := X3.q0; have c1 := X3.q1; have c2 := X3.q2; have c3 := X3.q3; clear X3 hb3)))) | fail "region")
    all_goals (go_wp2_with fail; go_ret; first | exact ⟨rfl, B3.out⟩ | exact ⟨rfl, B2.out⟩)
  | true =>
    by_cases hzt : t = 0
    · subst hzt
      by_cases hd : d.size = 0
      · obtain rfl := empty_of hd
        clear hd
        have ys : stepB n 5 0 f ⟨#[]⟩ = true := stepB_yes (by have := HBB.out; (try simp at this); simp [StepOk, h0, h1, this]; try rfl)
        rw [ys]
        go_enter Tryd.func37, Tryd.ntmps37
        go_wp2_with fail
        refine (op5 _ _ _ _).mono ?_
        rintro e w1 ⟨rfl, hb1⟩
        have X1 := X0.out.next hb1
        have B1 := Lib.hid (B0.out.trans (hb1.mono (by omega)))
        have s1 := hb1.size
        have c0 := X1.q0
        have c1 := X1.q1
        have c2 := X1.q2
        have c3 := X1.q3
        have HX1 := Lib.hid X1
        clear X1 hb1
        go_wp2_with fail
        refine (isCount_yes n _ h0 h1).mono ?_
        rintro e w1 ⟨rfl, rfl⟩
        go_wp2_with fail
        (first | go_region_with ((first | (go_at_call 143; go_loud ( refine (fits5 f n _ _ HBB.out).mono ?_; rintro e w2 ⟨rfl, hb2⟩; have X2 := HX1.out.next ((Below.refl w1.heap.size w1).drew.trans hb2); have B2 := Lib.hid (B1.out.trans (((Below.refl w1.heap.size w1).drew.trans hb2).mono B1.out.size)); have c0 := X2.q0; have c1 := X2.q1; have c2 := X2.q2; have c3 := X2.q3; have s2 := hb2.size; have HX2 := Lib.hid X2; clear X2 hb2)) | (go_at_call 144; go_loud ( refine (step5 f _).mono ?_; rintro e w3 ⟨rfl, hb3⟩; have X3 := HX2.out.next hb3; have B3 := Lib.hid (B2.out.trans (hb3.mono B2.out.size)); have c0 := X3.q0; have c1 := X3.q1; have c2 := X3.q2; have c3 := X3.q3; clear X3 hb3)))) | fail "region")
        all_goals (go_wp2_with fail; go_ret; first | exact ⟨rfl, B3.out⟩ | exact ⟨rfl, B2.out⟩)
      · have no : stepB n 5 0 f d = false := stepB_no (by simp [StepOk, hd])
        have hd1 : d.toList.isEmpty = false := by have := toList_ne hd; simpa using this
        rw [no]
        go_enter Tryd.func37, Tryd.ntmps37
        go_wp2_with fail
        refine (op5 _ _ _ _).mono ?_
        rintro e w1 ⟨rfl, hb1⟩
        have X1 := X0.out.next hb1
        have B1 := Lib.hid (B0.out.trans (hb1.mono (by omega)))
        have s1 := hb1.size
        have c0 := X1.q0
        have c1 := X1.q1
        have c2 := X1.q2
        have c3 := X1.q3
        have HX1 := Lib.hid X1
        clear X1 hb1
        go_wp2_with fail
        refine (isCount_yes n _ h0 h1).mono ?_
        rintro e w1 ⟨rfl, rfl⟩
        go_wp2_with fail
        (first | go_region_with ((first | (go_at_call 143; go_loud ( refine (fits5 f n _ _ HBB.out).mono ?_; rintro e w2 ⟨rfl, hb2⟩; have X2 := HX1.out.next ((Below.refl w1.heap.size w1).drew.trans hb2); have B2 := Lib.hid (B1.out.trans (((Below.refl w1.heap.size w1).drew.trans hb2).mono B1.out.size)); have c0 := X2.q0; have c1 := X2.q1; have c2 := X2.q2; have c3 := X2.q3; have s2 := hb2.size; have HX2 := Lib.hid X2; clear X2 hb2)) | (go_at_call 144; go_loud ( refine (step5 f _).mono ?_; rintro e w3 ⟨rfl, hb3⟩; have X3 := HX2.out.next hb3; have B3 := Lib.hid (B2.out.trans (hb3.mono B2.out.size)); have c0 := X3.q0; have c1 := X3.q1; have c2 := X3.q2; have c3 := X3.q3; clear X3 hb3)))) | fail "region")
        all_goals (go_wp2_with fail; go_ret; first | exact ⟨rfl, B3.out⟩ | exact ⟨rfl, B2.out⟩)
    · have no : stepB n 5 t f d = false := stepB_no (by simp [StepOk, hzt])
      have dzt : ((0 : Int) == t) = false := by simp; omega
      rw [no]
      go_enter Tryd.func37, Tryd.ntmps37
      go_wp2_with fail
      refine (op5 _ _ _ _).mono ?_
      rintro e w1 ⟨rfl, hb1⟩
      have X1 := X0.out.next hb1
      have B1 := Lib.hid (B0.out.trans (hb1.mono (by omega)))
      have s1 := hb1.size
      have c0 := X1.q0
      have c1 := X1.q1
      have c2 := X1.q2
      have c3 := X1.q3
      have HX1 := Lib.hid X1
      clear X1 hb1
      go_wp2_with fail
      refine (isCount_yes n _ h0 h1).mono ?_
      rintro e w1 ⟨rfl, rfl⟩
      go_wp2_with fail
      (first | go_region_with ((first | (go_at_call 143; go_loud ( refine (fits5 f n _ _ HBB.out).mono ?_; rintro e w2 ⟨rfl, hb2⟩; have X2 := HX1.out.next ((Below.refl w1.heap.size w1).drew.trans hb2); have B2 := Lib.hid (B1.out.trans (((Below.refl w1.heap.size w1).drew.trans hb2).mono B1.out.size)); have c0 := X2.q0; have c1 := X2.q1; have c2 := X2.q2; have c3 := X2.q3; have s2 := hb2.size; have HX2 := Lib.hid X2; clear X2 hb2)) | (go_at_call 144; go_loud ( refine (step5 f _).mono ?_; rintro e w3 ⟨rfl, hb3⟩; have X3 := HX2.out.next hb3; have B3 := Lib.hid (B2.out.trans (hb3.mono B2.out.size)); have c0 := X3.q0; have c1 := X3.q1; have c2 := X3.q2; have c3 := X3.q3; clear X3 hb3)))) | fail "region")
      all_goals (go_wp2_with fail; go_ret; first | exact ⟨rfl, B3.out⟩ | exact ⟨rfl, B2.out⟩)
end Go.Proofs.YthkbllkhomjmbaaDoor

namespace Go.Proofs.YthkbllkhomjmbaaDoor
open Go.RowKit

set_option maxRecDepth 100000 in
set_option maxHeartbeats 2000000 in
theorem implRight (k t f n : Int) (d : ByteArray) (w : World) :
    Calls Tryd.prog 37 #[.agg #[.int .i64 k, .int .i64 t, .int .i64 f, .string d], .int .i64 n] w fun e w' => e = .returned (.bool (stepB n k t f d)) ∧ Below w.heap.size w w' := by
  by_cases hn : 1 ≤ n ∧ n ≤ 8
  · obtain ⟨h0, h1⟩ := hn
    by_cases k1 : k = 1
    · subst k1; exact implR1 t f n d w h0 h1
    by_cases k2 : k = 2
    · subst k2; exact implR2 t f n d w h0 h1
    by_cases k3 : k = 3
    · subst k3; exact implR3 t f n d w h0 h1
    by_cases k4 : k = 4
    · subst k4; exact implR4 t f n d w h0 h1
    by_cases k5 : k = 5
    · subst k5; exact implR5 t f n d w h0 h1
    rw [show stepB n k t f d = false from stepB_no (by simp [StepOk, k1, k2, k3, k4, k5])]
    have HB := Lib.hid (below_alloc1 w (.cells #[.int .i64 k, .int .i64 t, .int .i64 f, .string d] 41))
    go_enter Tryd.func37, Tryd.ntmps37
    go_wp2_with fail
    refine (op0 k t f d _ k1 k2 k3 k4 k5).mono ?_
    rintro e w1 ⟨rfl, hb⟩
    have HB2 := Lib.hid (HB.out.trans (hb.mono HB.out.size))
    clear hb
    go_wp2_with fail
    go_ret
    exact ⟨rfl, HB2.out⟩
  · rw [show stepB n k t f d = false from stepB_no (fun h => hn h.1)]
    have HB := Lib.hid (below_alloc1 w (.cells #[.int .i64 k, .int .i64 t, .int .i64 f, .string d] 41))
    have HN := Lib.hid hn
    clear hn
    have all : ∃ v, Calls Tryd.prog 85 #[.agg #[.int .i64 k, .int .i64 t, .int .i64 f, .string d]] (w.alloc (.cells #[.int .i64 k, .int .i64 t, .int .i64 f, .string d] 41)) (fun e w' => e = .returned v ∧ Below (w.alloc (.cells #[.int .i64 k, .int .i64 t, .int .i64 f, .string d] 41)).heap.size (w.alloc (.cells #[.int .i64 k, .int .i64 t, .int .i64 f, .string d] 41)) w') ∧ (v = .nilIface ∨ ∃ T x, v = .iface T x) := by
      by_cases k1 : k = 1
      · subst k1; exact ⟨_, op1 t f d _, .inr ⟨_, _, rfl⟩⟩
      by_cases k2 : k = 2
      · subst k2; exact ⟨_, op2 t f d _, .inr ⟨_, _, rfl⟩⟩
      by_cases k3 : k = 3
      · subst k3; exact ⟨_, op3 t f d _, .inr ⟨_, _, rfl⟩⟩
      by_cases k4 : k = 4
      · subst k4; exact ⟨_, op4 t f d _, .inr ⟨_, _, rfl⟩⟩
      by_cases k5 : k = 5
      · subst k5; exact ⟨_, op5 t f d _, .inr ⟨_, _, rfl⟩⟩
      exact ⟨_, op0 k t f d _ k1 k2 k3 k4 k5, .inl rfl⟩
    obtain ⟨v, hc, hv⟩ := all
    rcases hv with rfl | ⟨T, x, rfl⟩
    · go_enter Tryd.func37, Tryd.ntmps37
      go_wp2_with fail
      refine hc.mono ?_
      rintro e w1 ⟨rfl, hb⟩
      have HB2 := Lib.hid (HB.out.trans (hb.mono HB.out.size))
      clear hb
      go_wp2_with fail
      go_ret
      exact ⟨rfl, HB2.out⟩
    · go_enter Tryd.func37, Tryd.ntmps37
      go_wp2_with fail
      refine hc.mono ?_
      rintro e w1 ⟨rfl, hb⟩
      have HB2 := Lib.hid (HB.out.trans (hb.mono HB.out.size))
      clear hb
      go_wp2_with fail
      refine (isCount_no n _ HN.out).mono ?_
      rintro e w2 ⟨rfl, rfl⟩
      go_wp2_with fail
      go_ret
      exact ⟨rfl, HB2.out⟩
end Go.Proofs.YthkbllkhomjmbaaDoor

namespace Go.Proofs.YthkbllkhomjmbaaDoor
open Go

theorem xor_comm64 (a b : Int) : bits BinOp.xor IntKind.u64 a b = bits BinOp.xor IntKind.u64 b a := by
  simp only [bits, BitVec.xor_comm]

theorem zz_pos (n : Int) (h0 : 0 ≤ n) (h1 : n ≤ 9223372036854775807) : bits BinOp.xor IntKind.u64 (n * 2) (n / 9223372036854775808) = (Lib.zigzag n : Int) := by
  have e : n / 9223372036854775808 = ((0 : Nat) : Int) := by omega
  have e2 : n * 2 = (((n * 2).toNat : Nat) : Int) := by omega
  rw [e, e2, bits_xor_u64_nat _ _ (by omega) (by omega), Nat.xor_zero, Lib.zigzag_nonneg h0]
  omega

theorem zz_neg (n : Int) (h0 : n < 0) (h1 : -9223372036854775808 ≤ n) :
    bits BinOp.xor IntKind.u64 (IntKind.u64.wrap (IntKind.u64.wrap n * 2)) (IntKind.u64.wrap (n / 9223372036854775808)) = (Lib.zigzag n : Int) := by
  have e : n / 9223372036854775808 = -1 := by omega
  rw [e, xor_comm64, show IntKind.u64.wrap (-1) = IntKind.u64.max by decide, Lib.zigzag_neg h1 h0]

theorem zz_fold (n : Int) (h0 : 0 ≤ n) : 2 * n = (Lib.zigzag n : Int) := by rw [Lib.zigzag_nonneg h0]; omega
theorem zz_foldn (n : Int) (h0 : n < 0) : 2 * -(n + 1) + 1 = (Lib.zigzag n : Int) := by
  unfold Lib.zigzag; rw [if_neg (by omega)]; omega

/-- 2 ^ 64, behind a name. -/
def lim64 : Nat := 18446744073709551616

def moreB (x : Nat) : UInt8 := (x % 128 + 128).toUInt8
def lastB (x : Nat) : UInt8 := x.toUInt8
theorem var_more (l : List UInt8) (x : Nat) (h : 128 ≤ x) : (l ++ [moreB x]) ++ Lib.uvarint (x / 128) = l ++ Lib.uvarint x := by
  rw [Lib.uvarint_big h]; simp [moreB]
theorem var_last (l : List UInt8) (x : Nat) (h : x < 128) : l ++ [lastB x] = l ++ Lib.uvarint x := by
  rw [Lib.uvarint_small h]; rfl
theorem var_len (l : List UInt8) (x x0 : Nat) (h0 : x0 < lim64) (h : l ++ Lib.uvarint x = Lib.uvarint x0) : l.length + 1 ≤ 10 := by
  have a := Lib.uvarint_length64 (x := x0) h0
  have b := Lib.uvarint_pos x
  have c := congrArg List.length h
  simp at c; omega
theorem zz_lt (n : Int) (h0 : -9223372036854775808 ≤ n) (h1 : n ≤ 9223372036854775807) : Lib.zigzag n < lim64 := Lib.zigzag_lt h0 h1
theorem div_lt (x : Nat) (h : x < lim64) : x / 128 < lim64 := Nat.lt_of_le_of_lt (Nat.div_le_self _ _) h
theorem byte_more (x : Nat) : (x : Int) % 128 + 128 = ((moreB x).toNat : Int) := by
  unfold moreB; simp; omega
theorem byte_more2 (x : Nat) : bits BinOp.or IntKind.u8 ((x : Int) % 256) 128 = ((moreB x).toNat : Int) := by
  rw [Lib.u8_or128_any _ (by omega) (by omega), ← byte_more]; omega
theorem byte_last (x : Nat) (h : x < 128) : (x : Int) = ((lastB x).toNat : Int) := by
  unfold lastB; simp; omega
theorem wrap_div (x : Nat) (h : x < lim64) : IntKind.u64.wrap ((x : Int) / 128) = ((x / 128 : Nat) : Int) := by
  unfold lim64 at h; rw [IntKind.wrap_u64]; omega
end Go.Proofs.YthkbllkhomjmbaaDoor

namespace Go.Proofs.YthkbllkhomjmbaaDoor
open Go.RowKit

set_option maxHeartbeats 400000 in
set_option maxRecDepth 100000 in
theorem fold_any (n : Int) (w : World) (h0 : -9223372036854775808 ≤ n) (h1 : n ≤ 9223372036854775807) :
    Calls Tryd.prog 60 #[.int .i64 n] w fun e w' => e = .returned (.int .u64 (Lib.zigzag n)) ∧ w = w' := by
  by_cases h : 0 ≤ n
  · have H := Lib.hid (zz_fold n h)
    go_enter Tryd.func60, Tryd.ntmps60
    go_wp2
    go_ret
    exact ⟨ret_int H.out, rfl⟩
  · have H := Lib.hid (zz_foldn n (by omega))
    go_enter Tryd.func60, Tryd.ntmps60
    go_wp2
    go_ret
    exact ⟨ret_int H.out, rfl⟩

def SpecRel (w : World) (x0 : Nat) (u v : Value) (wr : World) : Prop :=
  ∃ (x : Nat) (l : List UInt8), x < lim64 ∧ u = .int .u64 x ∧ wr.ownsRow w.heap.size 5 1 v l.length (l.map B) ∧ Below w.heap.size w wr ∧ l ++ Lib.uvarint x = Lib.uvarint x0

set_option maxHeartbeats 400000 in
set_option maxRecDepth 100000 in
theorem specPut_any (n : Int) (w : World) (h0 : -9223372036854775808 ≤ n) (h1 : n ≤ 9223372036854775807) :
    Calls Tryd.prog 13 #[.int .i64 n] w fun e w' => e = .returned (.string ⟨(Lib.uvarint (Lib.zigzag n)).toArray⟩) ∧ Below w.heap.size w w' := by
  obtain ⟨i0, hi, hz0, hz1, hz2⟩ := info_parts Tryd.info5
  have hx0 : Lib.zigzag n < lim64 := zz_lt n h0 h1
  obtain ⟨str, hstr⟩ : ∃ str : ByteArray, str = ⟨(Lib.uvarint (Lib.zigzag n)).toArray⟩ := ⟨_, rfl⟩
  rw [← hstr]
  have HSTR := Lib.hid hstr
  clear hstr
  go_enter Tryd.func13, Tryd.ntmps13
  go_wp2_with fail
  refine (fold_any n _ h0 h1).mono ?_
  rintro e w' ⟨rfl, rfl⟩
  clear h0 h1
  generalize Lib.zigzag n = x0 at *
  go_wp2_with fail
  go_loopw [3, 4] (fun u v wr => SpecRel w x0 u v wr) (fun u _ _ => (intOf u).toNat)
  case atStart => exact ⟨x0, [], hx0, rfl, World.ownsRow_lit w #[] 0 (Nat.le_refl _) (by decide) rfl, (Below.refl _ _).alloc (Nat.le_refl _) _, rfl⟩
  case round =>
    obtain ⟨x, l, hx, rfl, hown, hbel, hl⟩ := hrel
    have hlen := var_len l x x0 hx0 hl
    have hsz := hbel.size
    have HL := Lib.hid hl
    have HX := Lib.hid hx
    have HX0 := Lib.hid hx0
    clear hl hx hx0
    by_cases h128 : 128 ≤ x
    · go_wp2_with (at_builtin; refine wpList_append_own _ rfl _ _ 22 rfl w.heap.size 5 i0 (.int .u8 0) 1 1 Tryd.underlying22 hi hz0 hz1 hz2 rfl (by decide) _ _ _ rfl (hown.alloc _) ⟨wr.heap.size, 0, none⟩ 1 1 [B (moreB x)] rfl rfl ?c1 ?c2 ?c3 ?c4 ?c5 ?_)
      case c1 => exact one_cell _ _ _ (val_int (byte_more x))
      case c2 => intro u hu; simp at hu; subst hu; rfl
      case c3 => unfold maxLen; omega
      case c4 => omega
      case c5 => simp; omega
      intro v' w1 hown' hgrow _
      have hb1 := (hbel.alloc hsz _).grown hgrow (by simp; omega) (owned_below hown)
      have HO := Lib.hid hown'
      clear hown' hgrow hown hbel
      go_wp2
      go_roundw
      case rel => exact ⟨x / 128, l ++ [moreB x], div_lt x HX.out, val_int (wrap_div x HX.out), by simpa using HO.out, hb1, by rw [var_more l x h128]; exact HL.out⟩
      case measure => rw [wrap_div x HX.out]; simp [intOf]; omega
    · go_wp2_with (at_builtin; refine wpList_append_own _ rfl _ _ 22 rfl w.heap.size 5 i0 (.int .u8 0) 1 1 Tryd.underlying22 hi hz0 hz1 hz2 rfl (by decide) _ _ _ rfl (hown.alloc _) ⟨wr.heap.size, 0, none⟩ 1 1 [B (lastB x)] rfl rfl ?d1 ?d2 ?d3 ?d4 ?d5 ?_)
      case d1 => exact one_cell _ _ _ (val_int (byte_last x (by omega)))
      case d2 => intro u hu; simp at hu; subst hu; rfl
      case d3 => unfold maxLen; omega
      case d4 => omega
      case d5 => simp; omega
      intro v' w1 hown' hgrow _
      have hb1 := (hbel.alloc hsz _).grown hgrow (by simp; omega) (owned_below hown)
      obtain ⟨g, cap, rfl⟩ := owned_shape hown' (by omega)
      have conv := conv_row (c := cap) hown' (l ++ [lastB x]) (l.length + 1) (by simp) (Nat.le_refl _) (by rw [List.take_of_length_le (by simp)]; simp)
      rw [var_last l x (by omega), HL.out, ← HSTR.out] at conv
      clear hown' hgrow hown hbel
      go_wp2
      go_ret
      exact ⟨rfl, hb1⟩

def ImplRel (w : World) (x0 : Nat) (u c : Value) (wr : World) : Prop :=
  ∃ (x : Nat) (l : List UInt8) (xs : List Value), x < lim64 ∧ u = .int .u64 x ∧ c = .int .i64 l.length ∧ wr.ownsRow w.heap.size 78 1 (.slice (some ⟨w.heap.size, 0, none⟩) 10 10) 10 xs ∧ xs.take l.length = l.map B ∧ Below w.heap.size w wr ∧ l ++ Lib.uvarint x = Lib.uvarint x0

theorem Tryd.und37 : Tryd.prog.underlying 78 = some (.array (Tryd.prog.arrayLen 78) (Tryd.prog.elem 78)) := by kernel_rfl
theorem Tryd.len37 : Tryd.prog.arrayLen 78 = 10 := by kernel_rfl
theorem Tryd.size37 (w : World) : (sizeOf (Tryd.prog.elem 78)).run Tryd.prog w = .ok 1 w := by kernel_rfl
theorem sl37 (w : World) (a : Addr) (k : Nat) (h : k ≤ 9) : (Instr.sliceAt 78 (.pointer (some a)) none (some (.int .i64 ((k : Int) + 1))) none).run Tryd.prog w = .ok (.slice (some a) (k + 1) 10) w := by
  rw [run_sliceAt_array_h w 78 a Tryd.und37 .i64 ((k : Int) + 1) (by omega) (by rw [Tryd.len37]; omega), Tryd.size37, Tryd.len37]
  have e : ((k : Int) + 1).toNat = k + 1 := by omega
  simp [Result.andThen, slicedAt, e, Addr.add]

theorem take_set_more (xs : List Value) (l : List UInt8) (b : UInt8) (v : Value) (h : l.length < xs.length) (hx : xs.take l.length = l.map B) (hv : v = B b) :
    (xs.set l.length v).take (l ++ [b]).length = (l ++ [b]).map B := by
  subst hv
  rw [List.length_append, List.length_singleton, List.take_succ_eq_append_getElem (by simpa using h), List.take_set_of_le (Nat.le_refl _), hx]
  simp

set_option maxHeartbeats 400000 in
set_option maxRecDepth 100000 in
theorem implPut_pos (n : Int) (w : World) (h0 : 0 ≤ n) (h1 : n ≤ 9223372036854775807) :
    Calls Tryd.prog 12 #[.int .i64 n] w fun e w' => e = .returned (.string ⟨(Lib.uvarint (Lib.zigzag n)).toArray⟩) ∧ Below w.heap.size w w' := by
  have hx0 : Lib.zigzag n < lim64 := zz_lt n (by omega) (by omega)
  have HZ := Lib.hid (zz_pos n h0 h1)
  obtain ⟨str, hstr⟩ : ∃ str : ByteArray, str = ⟨(Lib.uvarint (Lib.zigzag n)).toArray⟩ := ⟨_, rfl⟩
  rw [← hstr]
  have HSTR := Lib.hid hstr
  clear hstr
  generalize Lib.zigzag n = x0 at *
  go_enter Tryd.func12, Tryd.ntmps12
  go_wp2_with fail
  go_loopw [3, 5] (fun u c wr => ImplRel w x0 u c wr) (fun u _ _ => (intOf u).toNat)
  case atStart => exact ⟨x0, [], _, hx0, val_int HZ.out, rfl, World.ownsRow_lit w _ 10 (Nat.le_refl _) (by decide) rfl, rfl, (Below.refl _ _).alloc (Nat.le_refl _) _, rfl⟩
  case round =>
    clear HZ
    obtain ⟨x, l, xs, hx, rfl, rfl, hown, hxs, hbel, hl⟩ := hrel
    have hlen := var_len l x x0 hx0 hl
    have hc := hown.cellAt l.length (by omega)
    have hf := hown.frozenAt l.length
    have hxl : xs.length = 10 := hown.1
    rw [List.getElem?_eq_getElem (by omega)] at hc
    generalize xs[l.length] = v0 at hc
    have HL := Lib.hid hl
    have HX := Lib.hid hx
    have HX0 := Lib.hid hx0
    have HXS := Lib.hid hxs
    have HXL := Lib.hid hxl
    clear hl hx hxs hxl hx0
    by_cases h128 : 128 ≤ x
    · have HO := Lib.hid (hown.stored l.length (.int .u8 (bits BinOp.or IntKind.u8 ((x : Int) % 256) 128))).1
      have HB := Lib.hid (hbel.setCell (p := ⟨w.heap.size, l.length, none⟩) (Nat.le_refl _) (.int .u8 (bits BinOp.or IntKind.u8 ((x : Int) % 256) 128)))
      clear hown hbel
      go_wp2
      go_roundw
      case rel => exact ⟨x / 128, l ++ [moreB x], _, div_lt x HX.out, by go_num, by simp, HO.out, take_set_more xs l _ _ (by rw [HXL.out]; omega) HXS.out (val_int (byte_more2 x)), HB.out, by rw [var_more l x h128]; exact HL.out⟩
      case measure => simp [intOf]; omega
    · have HO := (hown.stored l.length (.int .u8 (x : Int))).1
      have HB := Lib.hid (hbel.setCell (p := ⟨w.heap.size, l.length, none⟩) (Nat.le_refl _) (.int .u8 (x : Int)))
      have conv := conv_row (c := 10) HO (l ++ [lastB x]) (l.length + 1) (by simp) (by omega) (by
        have := take_set_more xs l (lastB x) (.int .u8 (x : Int)) (by rw [HXL.out]; omega) HXS.out (val_int (byte_last x (by omega)))
        simpa using this)
      rw [var_last l x (by omega), HL.out, ← HSTR.out] at conv
      have hsl := fun wx => sl37 wx ⟨w.heap.size, 0, none⟩ l.length (by omega)
      clear HO hown hbel
      go_wp2
      go_ret
      exact ⟨rfl, HB.out⟩

set_option maxHeartbeats 400000 in
set_option maxRecDepth 100000 in
theorem implPut_neg (n : Int) (w : World) (h0 : n < 0) (h1 : -9223372036854775808 ≤ n) :
    Calls Tryd.prog 12 #[.int .i64 n] w fun e w' => e = .returned (.string ⟨(Lib.uvarint (Lib.zigzag n)).toArray⟩) ∧ Below w.heap.size w w' := by
  have hx0 : Lib.zigzag n < lim64 := zz_lt n (by omega) (by omega)
  have HZ := Lib.hid (zz_neg n h0 h1)
  obtain ⟨str, hstr⟩ : ∃ str : ByteArray, str = ⟨(Lib.uvarint (Lib.zigzag n)).toArray⟩ := ⟨_, rfl⟩
  rw [← hstr]
  have HSTR := Lib.hid hstr
  clear hstr
  generalize Lib.zigzag n = x0 at *
  go_enter Tryd.func12, Tryd.ntmps12
  go_wp2_with fail
  go_loopw [3, 5] (fun u c wr => ImplRel w x0 u c wr) (fun u _ _ => (intOf u).toNat)
  case atStart => exact ⟨x0, [], _, hx0, val_int HZ.out, rfl, World.ownsRow_lit w _ 10 (Nat.le_refl _) (by decide) rfl, rfl, (Below.refl _ _).alloc (Nat.le_refl _) _, rfl⟩
  case round =>
    clear HZ
    obtain ⟨x, l, xs, hx, rfl, rfl, hown, hxs, hbel, hl⟩ := hrel
    have hlen := var_len l x x0 hx0 hl
    have hc := hown.cellAt l.length (by omega)
    have hf := hown.frozenAt l.length
    have hxl : xs.length = 10 := hown.1
    rw [List.getElem?_eq_getElem (by omega)] at hc
    generalize xs[l.length] = v0 at hc
    have HL := Lib.hid hl
    have HX := Lib.hid hx
    have HX0 := Lib.hid hx0
    have HXS := Lib.hid hxs
    have HXL := Lib.hid hxl
    clear hl hx hxs hxl hx0
    by_cases h128 : 128 ≤ x
    · have HO := Lib.hid (hown.stored l.length (.int .u8 (bits BinOp.or IntKind.u8 ((x : Int) % 256) 128))).1
      have HB := Lib.hid (hbel.setCell (p := ⟨w.heap.size, l.length, none⟩) (Nat.le_refl _) (.int .u8 (bits BinOp.or IntKind.u8 ((x : Int) % 256) 128)))
      clear hown hbel
      go_wp2
      go_roundw
      case rel => exact ⟨x / 128, l ++ [moreB x], _, div_lt x HX.out, by go_num, by simp, HO.out, take_set_more xs l _ _ (by rw [HXL.out]; omega) HXS.out (val_int (byte_more2 x)), HB.out, by rw [var_more l x h128]; exact HL.out⟩
      case measure => simp [intOf]; omega
    · have HO := (hown.stored l.length (.int .u8 (x : Int))).1
      have HB := Lib.hid (hbel.setCell (p := ⟨w.heap.size, l.length, none⟩) (Nat.le_refl _) (.int .u8 (x : Int)))
      have conv := conv_row (c := 10) HO (l ++ [lastB x]) (l.length + 1) (by simp) (by omega) (by
        have := take_set_more xs l (lastB x) (.int .u8 (x : Int)) (by rw [HXL.out]; omega) HXS.out (val_int (byte_last x (by omega)))
        simpa using this)
      rw [var_last l x (by omega), HL.out, ← HSTR.out] at conv
      have hsl := fun wx => sl37 wx ⟨w.heap.size, 0, none⟩ l.length (by omega)
      clear HO hown hbel
      go_wp2
      go_ret
      exact ⟨rfl, HB.out⟩

theorem implPut_any (n : Int) (w : World) (h0 : -9223372036854775808 ≤ n) (h1 : n ≤ 9223372036854775807) :
    Calls Tryd.prog 12 #[.int .i64 n] w fun e w' => e = .returned (.string ⟨(Lib.uvarint (Lib.zigzag n)).toArray⟩) ∧ Below w.heap.size w w' := by
  by_cases h : 0 ≤ n
  · exact implPut_pos n w h h1
  · exact implPut_neg n w (by omega) h0

/-- The bytes of an integer, behind a name. -/
def putS (n : Int) : ByteArray := ⟨(Lib.uvarint (Lib.zigzag n)).toArray⟩
theorem putS_size (n : Int) (h0 : -9223372036854775808 ≤ n) (h1 : n ≤ 9223372036854775807) : (putS n).size ≤ 10 := by
  have := Lib.uvarint_length64 (Lib.zigzag_lt h0 h1)
  simpa [putS, ByteArray.size] using this
theorem specPut (n : Int) (w : World) (h0 : -9223372036854775808 ≤ n) (h1 : n ≤ 9223372036854775807) :
    Calls Tryd.prog 13 #[.int .i64 n] w fun e w' => e = .returned (.string (putS n)) ∧ Below w.heap.size w w' := by
  unfold putS; exact specPut_any n w h0 h1
theorem implPut (n : Int) (w : World) (h0 : -9223372036854775808 ≤ n) (h1 : n ≤ 9223372036854775807) :
    Calls Tryd.prog 12 #[.int .i64 n] w fun e w' => e = .returned (.string (putS n)) ∧ Below w.heap.size w w' := by
  unfold putS; exact implPut_any n w h0 h1

end Go.Proofs.YthkbllkhomjmbaaDoor

namespace Go.Proofs.YthkbllkhomjmbaaDoor
open Go.RowKit

def cat : List ByteArray → ByteArray
  | [] => ⟨#[]⟩
  | x :: l => x ++ cat l
theorem cat_cons (x : ByteArray) (l : List ByteArray) : cat (x :: l) = x ++ cat l := rfl
theorem cat_one (x : ByteArray) : cat [x] = x := by
  apply ByteArray.ext; simp [cat]
theorem cat_append (a b : List ByteArray) : cat (a ++ b) = cat a ++ cat b := by
  induction a with
  | nil => apply ByteArray.ext; simp [cat]
  | cons x l ih => rw [List.cons_append, cat_cons, cat_cons, ih, ByteArray.append_assoc]
theorem cat_succ (l : List ByteArray) (k : Nat) (h : k < l.length) : cat (l.take (k + 1)) = cat (l.take k) ++ l[k] := by
  rw [List.take_succ_eq_append_getElem h, cat_append, cat_one]
theorem cat_size_take (l : List ByteArray) (k : Nat) : (cat (l.take k)).size ≤ (cat l).size := by
  have h : cat l = cat (l.take k) ++ cat (l.drop k) := by rw [← cat_append, List.take_append_drop]
  rw [h, ByteArray.size_append]; omega
theorem cat_size_succ (l : List ByteArray) (k : Nat) (h : k < l.length) : (cat (l.take (k + 1))).size = (cat (l.take k)).size + l[k].size := by
  rw [cat_succ l k h, ByteArray.size_append]
theorem cat_two (a b : ByteArray) : cat [a, b] = a ++ b := by rw [cat_cons, cat_one]
end Go.Proofs.YthkbllkhomjmbaaDoor

namespace Go.Proofs.YthkbllkhomjmbaaDoor
open Go.RowKit

/-- copy of a string into a row that the call owns; the place is given by the prover. -/
theorem wpList_copy_str {P : Program} {w : World} {ops : Array Oper} {rest : List Oper} {o : Oper} {a : Act} {Q : Exit → Act → World → Prop} (hgd : o.guard = none) (d s : Operand) (dT sT : TypeId)
    (ho : o.op = .call { callee := .builtin .copy, args := #[d, s], argTypes := #[dT, sT] }) (elem : TypeId) (hu : P.underlying dT = some (.slice elem)) (hsz : (P.info? elem).map (·.size) = some 1)
    (dp : Option Addr) (dLen dCap : Nat) (str : ByteArray) (hd : a.eval d = .slice dp dLen dCap) (hs : a.eval s = .string str)
    (g off : Nat) (cur : List Value) (t : TypeId) (hg : w.heap[g]? = some (.cells cur.toArray t (0, 0))) (hle : str.size ≤ dLen)
    (hpos : 0 < str.size → dp = some ⟨g, off, none⟩) (hfit : off + str.size ≤ cur.length) (B : Nat) (w0 : World) (hb : Below B w0 w) (hBg : B ≤ g)
    (h : ∀ w', Hid (w'.heap[g]? = some (.cells (splice cur off (Lib.byteCells str.data.toList)).toArray t (0, 0))) → Below B w0 w' → wpList P ops Q rest (a.put o.dst (goInt str.size)) w') :
    wpList P ops Q (o :: rest) a w := by
  have hlen : (Lib.byteCells str.data.toList).length = str.size := by rw [Lib.byteCells_length, ← Lib.size_eq]
  refine wpList_plain hgd fun K hK => ?_
  by_cases h0 : str.size = 0
  · have hrun := Lib.run_copy_empty_string (P := P) w dT sT o.type elem dp dLen dCap str hu (by simp [hsz]) h0
    have hnil : Lib.byteCells str.data.toList = [] := List.eq_nil_of_length_eq_zero (by rw [hlen, h0])
    unfold Oper.wp
    simp [execOp, ho, resolve, invoke, builtin, hd, hs, hrun, Result.andThen]
    refine hK _ _ ?_
    have := h w (show _ = _ by rw [hnil]; simpa [splice] using hg) hb
    rw [h0] at this
    exact this
  · obtain rfl := hpos (by omega)
    have hrun := Lib.run_copy_row_string (P := P) w dT sT o.type elem g off dLen dCap str cur.toArray t hu hsz hg hle (by simpa using hfit)
    unfold Oper.wp
    simp [execOp, ho, resolve, invoke, builtin, hd, hs, hrun, Result.andThen]
    refine hK _ _ (h _ (show _ = _ by simpa [splice, hlen] using setRow_heap w g _ _ t _ hg) (below_setRow hb hBg _))

theorem Tryd.size5 : (Tryd.prog.info? 5).map (·.size) = some 1 := by kernel_rfl

theorem cells_B (s : ByteArray) : Lib.byteCells s.data.toList = s.data.toList.map B := rfl
theorem str_app (a b : ByteArray) : (⟨(a.data.toList ++ b.data.toList).toArray⟩ : ByteArray) = a ++ b := by
  apply ByteArray.ext; simp
theorem splice_two (Z X Y : List Value) (hZ : Z.length = X.length + Y.length) : splice (splice Z 0 X) X.length Y = X ++ Y := by
  unfold splice; simp; omega

theorem splice_at (Z Y : List Value) (k : Nat) (X : List Value) (hX : Z.take k = X) (hk : X.length = k) : (splice Z k Y).take (k + Y.length) = X ++ Y := by
  unfold splice
  rw [hX, ← hk, ← List.append_assoc, List.take_append_of_le_length (by simp), List.take_of_length_le (by simp)]
def JoinRel1 (l : List ByteArray) (x i : Value) : Prop := ∃ k : Nat, k ≤ l.length ∧ i = .int .i64 k ∧ x = .int .i64 ((cat (l.take k)).size : Int)
def JoinRel2 (l : List ByteArray) (w : World) (x i : Value) (wr : World) : Prop :=
  ∃ (k : Nat) (Z : List Value), k ≤ l.length ∧ i = .int .i64 k ∧ x = .int .i64 ((cat (l.take k)).size : Int) ∧ wr.heap[w.heap.size]? = some (.cells Z.toArray 5 (0, 0)) ∧ Z.length = (cat l).size ∧ Z.take (cat (l.take k)).size = (cat (l.take k)).data.toList.map B ∧ Below w.heap.size w wr
theorem cat_list (x : ByteArray) : x.data.toList.length = x.size := (Lib.size_eq x).symm
theorem cat_next (l : List ByteArray) (k : Nat) (h : k < l.length) : (cat (l.take (k + 1))).data.toList.map B = (cat (l.take k)).data.toList.map B ++ Lib.byteCells l[k].data.toList := by
  rw [cat_succ l k h, cells_B]; simp
set_option maxRecDepth 100000 in
set_option maxHeartbeats 1000000 in
theorem joined_cat (v : Value) (l : List ByteArray) (w : World) (h : Rd w v l.length 1 (strs l)) (hn : l.length ≤ 1048576) (hz : (cat l).size ≤ 100000) :
    Calls Tryd.prog 66 #[v] w fun e w' => e = .returned (.string (cat l)) ∧ Below w.heap.size w w' := by
  obtain ⟨i0, hi, hz0, hz1, hz2⟩ := info_parts Tryd.info5
  obtain ⟨a, c, rfl, -⟩ := id h.2
  have HV := Lib.hid h
  clear h
  go_enter Tryd.func66, Tryd.ntmps66
  go_wp2_with fail
  go_loop [3, 12] (fun x i => JoinRel1 l x i) (fun _ i => l.length - (intOf i).toNat)
  case atStart => exact ⟨0, by omega, rfl, rfl⟩
  case round =>
    obtain ⟨k, hk, rfl, rfl⟩ := hrel
    by_cases hlt : k < l.length
    · obtain ⟨b, off, rfl, hbl, hcell⟩ := HV.out.get (by omega)
      have r0 : w.cell? ⟨b, off + k, none⟩ = some (.string l[k]) := by rw [hcell k (by omega), strs_at l k hlt]
      have z0 := cat_size_take l (k + 1)
      have z1 := cat_size_succ l k hlt
      have HZ := Lib.hid z1
      have m1 : IntKind.i64.wrap ((((cat (l.take k)).size : Nat) : Int) + ((l[k].size : Nat) : Int)) = ((cat (l.take k)).size : Int) + (l[k].size : Int) := IntWalk.i64_in _ (by omega)
      have m2 : wrap64 ((((cat (l.take k)).size : Nat) : Int) + ((l[k].size : Nat) : Int)) = ((cat (l.take k)).size : Int) + (l[k].size : Int) := IntWalk.wrap64_in _ (by omega)
      clear hcell z0 z1
      generalize l[k] = s at *
      go_wp2_with fail
      go_round
      case rel => exact ⟨k + 1, by omega, by go_num, by rw [HZ.out]; simp⟩
      case measure => simp [intOf]; omega
    · obtain rfl : k = l.length := by omega
      rw [List.take_length]
      go_wp2_with (at_make; refine wpList_make_full _ rfl _ _ 22 rfl w.heap.size 5 i0 (.int .u8 0) 1 Tryd.underlying22 hi hz0 hz1 .i64 .i64 _ _ (cat l).size rfl rfl (by omega) (by omega) (by rw [hz2]; omega) (by unfold maxLen; omega) (Nat.le_refl _) ?_)
      intro w1 hown1 hgrow1
      have hb1 : Below w.heap.size w w1 := (Below.refl _ w).grown hgrow1 (Nat.le_refl _) (by simp)
      obtain ⟨Z, hg1, hl1⟩ : ∃ Z : List Value, w1.heap[w.heap.size]? = some (.cells Z.toArray 5 (0, 0)) ∧ Z.length = (cat l).size := ⟨_, own_block hown1, by simpa using hown1.1⟩
      have HG1 := Lib.hid hg1
      have HB1 := Lib.hid hb1
      clear hown1 hgrow1 hg1 hi hz0 hz1 hz2 hb1
      go_wp2_with fail
      go_loopw [7, 25] (fun x i wr => JoinRel2 l w x i wr) (fun _ i _ => l.length - (intOf i).toNat)
      case atStart => exact ⟨0, Z, by omega, rfl, rfl, HG1.out, by omega, by simp only [List.take_zero]; rfl, HB1.out⟩
      case round =>
        clear HG1 HB1
        obtain ⟨k, Z2, hk, rfl, rfl, hg, hl2, hpre, hbel⟩ := hrel
        have HG := Lib.hid hg
        have HP := Lib.hid hpre
        have HBL := Lib.hid hbel
        have hsz := hbel.size
        clear hg hpre hl1
        by_cases hlt : k < l.length
        · obtain ⟨b, off, rfl, hbl, hcell⟩ := HV.out.get (by omega)
          have r0 : wr.cell? ⟨b, off + k, none⟩ = some (.string l[k]) := by rw [hbel.cell (p := ⟨b, off + k, none⟩) hbl, hcell k (by omega), strs_at l k hlt]
          have z0 := cat_size_take l (k + 1)
          have z1 := cat_size_succ l k hlt
          have HX := Lib.hid (cat_next l k hlt)
          have m1 : IntKind.i64.wrap ((((cat (l.take k)).size : Nat) : Int) + ((l[k].size : Nat) : Int)) = ((cat (l.take k)).size : Int) + (l[k].size : Int) := IntWalk.i64_in _ (by omega)
          have m2 : wrap64 ((((cat (l.take k)).size : Nat) : Int) + ((l[k].size : Nat) : Int)) = ((cat (l.take k)).size : Int) + (l[k].size : Int) := IntWalk.wrap64_in _ (by omega)
          have hlen : (Lib.byteCells l[k].data.toList).length = l[k].size := by rw [Lib.byteCells_length, ← Lib.size_eq]
          obtain ⟨E, hE⟩ : ∃ E, E = (cat (l.take k)).size := ⟨_, rfl⟩
          have HE := Lib.hid hE
          have HZ1 := Lib.hid z1
          have HL := Lib.hid hlen
          rw [← hE] at z1 m1 m2
          rw [← hE]
          clear hcell hlen hE
          obtain ⟨s, hs⟩ : ∃ s, s = l[k] := ⟨_, rfl⟩
          rw [← hs] at r0 z1 m1 m2 HX HZ1 HL
          clear hs
          have e0 : (E : Int) ≤ ((cat l).size : Int) := by omega
          have e1 : (0 : Int) ≤ (E : Int) := by omega
          have e2 : E ≤ (cat l).size := by omega
          by_cases hEC : E < (cat l).size
          · go_wp2_with ((with_reducible show wpList _ _ _ (⟨some 34, _, _, _, _, _⟩ :: _) _ _); refine wpList_copy_str rfl (.tmp 32) (.tmp 33) 22 9 rfl 5 Tryd.underlying22 Tryd.size5 (some ⟨w.heap.size, E, none⟩) ((cat l).size - E) ((cat l).size - E) s rfl rfl w.heap.size E Z2 5 HG.out (by omega) (fun _ => rfl) (by omega) w.heap.size w HBL.out (Nat.le_refl _) ?_)
            intro w2 HG2 hb2
            have HB2 := Lib.hid hb2
            clear hb2
            go_wp2_with fail
            go_roundw
            case rel =>
              refine ⟨k + 1, _, by omega, by go_num, by rw [HZ1.out, ← HE.out]; simp, HG2.out, ?_, ?_, HB2.out⟩
              · rw [length_splice _ _ _ (by rw [HL.out]; omega)]; exact hl2
              · rw [HX.out, HZ1.out, ← HE.out]
                have := splice_at Z2 (Lib.byteCells s.data.toList) E ((cat (l.take k)).data.toList.map B) (by have := HP.out; rw [← HE.out] at this; exact this) (by rw [List.length_map, cat_list, ← HE.out])
                rw [HL.out] at this
                exact this
            case measure => simp [intOf]; omega
          · have hs0 : s.size = 0 := by omega
            obtain rfl : E = (cat l).size := by omega
            go_wp2_with ((with_reducible show wpList _ _ _ (⟨some 34, _, _, _, _, _⟩ :: _) _ _); refine wpList_copy_str rfl (.tmp 32) (.tmp 33) 22 9 rfl 5 Tryd.underlying22 Tryd.size5 (some ⟨w.heap.size, 0, none⟩) 0 0 s rfl rfl w.heap.size 0 Z2 5 HG.out (by omega) (fun _ => rfl) (by omega) w.heap.size w HBL.out (Nat.le_refl _) ?_)
            intro w2 HG2 hb2
            have HB2 := Lib.hid hb2
            clear hb2
            go_wp2_with fail
            go_roundw
            case rel =>
              have hnil : Lib.byteCells s.data.toList = [] := List.eq_nil_of_length_eq_zero (by rw [HL.out, hs0])
              refine ⟨k + 1, Z2, by omega, by go_num, by rw [HZ1.out, ← HE.out]; simp [hs0], ?_, hl2, ?_, HB2.out⟩
              · have := HG2.out
                rw [hnil] at this
                simpa [splice] using this
              · rw [HX.out, HZ1.out, ← HE.out, hs0, Nat.add_zero, hnil, List.append_nil]
                have := HP.out
                rw [← HE.out] at this
                exact this
            case measure => simp [intOf]; omega
        · obtain rfl : k = l.length := by omega
          have conv := conv_block (c := (cat l).size) HG.out (cat l).data.toList (cat l).size (by rw [cat_list]) (by
            have := HP.out
            rw [List.take_length, List.take_of_length_le (by omega)] at this
            exact this)
          rw [show (⟨(cat l).data.toList.toArray⟩ : ByteArray) = cat l by apply ByteArray.ext; simp] at conv
          go_wp2_with fail
          go_ret
          exact ⟨rfl, HBL.out⟩
theorem rd_new (w : World) (T : TypeId) (l : List ByteArray) (c : Nat) : Rd (w.alloc (.cells (strs l).toArray T)) (.slice (some ⟨w.heap.size, 0, none⟩) l.length c) l.length 1 (strs l) := by
  refine ⟨by rw [strs_length]; omega, _, _, rfl, fun h0 => ⟨_, _, rfl, by simp, fun j hj => ?_⟩⟩
  rw [Nat.zero_add, cell_of_row _ w.heap.size j _ T (0, 0) (heap_alloc_new w _)]
  simp
theorem below_new (w : World) (o : Obj) {w' : World} (h : Below (w.alloc o).heap.size (w.alloc o) w') : Below w.heap.size w w' :=
  ((Below.refl _ w).alloc (Nat.le_refl _) o).trans (h.mono (by simp))
theorem joined_four (a b c d : ByteArray) (w : World) (h : a.size + b.size + c.size + d.size ≤ 10000) :
    Calls Tryd.prog 66 #[.slice (some ⟨w.heap.size, 0, none⟩) 4 4] (w.alloc (.cells #[.string a, .string b, .string c, .string d] 9)) fun e w' => e = .returned (.string (a ++ b ++ c ++ d)) ∧ Below (w.alloc (.cells #[.string a, .string b, .string c, .string d] 9)).heap.size (w.alloc (.cells #[.string a, .string b, .string c, .string d] 9)) w' := by
  have e : cat [a, b, c, d] = a ++ b ++ c ++ d := by rw [cat_cons, cat_cons, cat_two, ByteArray.append_assoc, ByteArray.append_assoc]
  have := joined_cat _ [a, b, c, d] _ (rd_new w 9 [a, b, c, d] 4) (by simp) (by rw [e]; simp only [ByteArray.size_append]; omega)
  rw [e] at this
  exact this
theorem joined_two (a b : ByteArray) (w : World) (h : a.size + b.size ≤ 10000) :
    Calls Tryd.prog 66 #[.slice (some ⟨w.heap.size, 0, none⟩) 2 2] (w.alloc (.cells #[.string a, .string b] 9)) fun e w' => e = .returned (.string (a ++ b)) ∧ Below w.heap.size w w' := by
  have := joined_cat _ [a, b] _ (rd_new w 9 [a, b] 2) (by simp) (by rw [cat_two, ByteArray.size_append]; omega)
  rw [cat_two] at this
  exact this.mono fun e w' h => ⟨h.1, below_new w _ h.2⟩
end Go.Proofs.YthkbllkhomjmbaaDoor

namespace Go.Proofs.YthkbllkhomjmbaaDoor
open Go.RowKit

set_option maxHeartbeats 400000 in
theorem specText_any (t : ByteArray) (w : World) (ht : t.size ≤ 8000) :
    Calls Tryd.prog 17 #[.string t] w fun e w' => e = .returned (.string (putS t.size ++ t)) ∧ Below w.heap.size w w' := by
  have hp := putS_size t.size (by omega) (by omega)
  go_enter Tryd.func17, Tryd.ntmps17
  go_wp2_with fail
  refine (specPut t.size _ (by omega) (by omega)).mono ?_
  rintro e w1 ⟨rfl, hb1⟩
  go_wp2_with fail
  go_ret
  exact ⟨rfl, hb1⟩

set_option maxHeartbeats 400000 in
theorem implText_any (t : ByteArray) (w : World) (ht : t.size ≤ 8000) :
    Calls Tryd.prog 16 #[.string t] w fun e w' => e = .returned (.string (putS t.size ++ t)) ∧ Below w.heap.size w w' := by
  have hp := putS_size t.size (by omega) (by omega)
  go_enter Tryd.func16, Tryd.ntmps16
  go_wp2_with fail
  refine (implPut t.size _ (by omega) (by omega)).mono ?_
  rintro e w1 ⟨rfl, hb1⟩
  go_wp2_with fail
  refine (joined_two (putS t.size) t _ (by omega)).mono ?_
  rintro e w2 ⟨rfl, hb2⟩
  have hb := hb1.trans (hb2.mono hb1.size)
  clear hb1 hb2
  go_wp2_with fail
  go_ret
  exact ⟨rfl, hb⟩

set_option maxHeartbeats 400000 in
theorem specText_long (t : ByteArray) (w : World) (hs : t.size ≤ maxLen) (ht : 8000 < t.size) :
    Calls Tryd.prog 17 #[.string t] w fun e w' => e = .returned (.string ⟨#[]⟩) ∧ w = w' := by
  unfold maxLen at hs
  go_enter Tryd.func17, Tryd.ntmps17
  go_wp2_with fail
  go_ret
  exact ⟨rfl, rfl⟩
set_option maxHeartbeats 400000 in
theorem implText_long (t : ByteArray) (w : World) (hs : t.size ≤ maxLen) (ht : 8000 < t.size) :
    Calls Tryd.prog 16 #[.string t] w fun e w' => e = .returned (.string ⟨#[]⟩) ∧ w = w' := by
  unfold maxLen at hs
  go_enter Tryd.func16, Tryd.ntmps16
  go_wp2_with fail
  go_ret
  exact ⟨rfl, rfl⟩

end Go.Proofs.YthkbllkhomjmbaaDoor

namespace Go.Proofs.YthkbllkhomjmbaaDoor
open Go.RowKit

def stepS (k t f : Int) (d : ByteArray) : ByteArray := putS k ++ putS t ++ putS f ++ (putS d.size ++ d)
def stepBs (k t f : Int) (d : ByteArray) : ByteArray := if stepB 8 k t f d then stepS k t f d else ⟨#[]⟩
theorem ok_bounds {k t f : Int} {d : ByteArray} (h : stepB 8 k t f d = true) : 1 ≤ k ∧ k ≤ 5 ∧ 0 ≤ t ∧ t ≤ 7 ∧ 0 ≤ f ∧ f ≤ 1000000 ∧ d.size ≤ 8 := by
  obtain ⟨-, h⟩ := (stepB_iff ..).1 h
  rcases h with ⟨rfl, h1, rfl, h2⟩ | ⟨rfl, h1, rfl, h2⟩ | ⟨rfl, h1, h3, h2⟩ | ⟨rfl, h1, h3, h2⟩ | ⟨rfl, rfl, h3, h2⟩
  · have := (inB_iff _ _).1 h1; omega
  · have := (inB_iff _ _).1 h1; omega
  · have := (inB_iff _ _).1 h1; have := (inB_iff _ _).1 h3; omega
  · have := (inB_iff _ _).1 h1; have := (inB_iff _ _).1 h3; omega
  · have := (isT_iff _).1 h3; omega
theorem keepQ {W W' : World} {n : Nat} {T : TypeId} {a b c d : Value} (X : Bx W n T #[a, b, c, d]) (h : Below W.heap.size W W') :
    W'.cell? ⟨n, 0, none⟩ = some a ∧ W'.cell? ⟨n, 1, none⟩ = some b ∧ W'.cell? ⟨n, 2, none⟩ = some c ∧ W'.cell? ⟨n, 3, none⟩ = some d ∧ Below W.heap.size W W' :=
  have h' := X.next h
  ⟨h'.q0, h'.q1, h'.q2, h'.q3, h⟩
theorem below_more {W a b : World} (h : Below W.heap.size W a) (k : Below a.heap.size a b) : Below W.heap.size W b := h.trans (k.mono h.size)


set_option maxRecDepth 100000 in
set_option maxHeartbeats 2000000 in
theorem specL06 (k t f : Int) (d : ByteArray) (w : World) (h : stepB 8 k t f d = true) :
    Calls Tryd.prog 82 #[.agg #[.int .i64 k, .int .i64 t, .int .i64 f, .string d]] w fun e w' => e = .returned (.string (stepS k t f d)) ∧ Below w.heap.size w w' := by
  obtain ⟨k0, k1, t0, t1, f0, f1, d1⟩ := ok_bounds h
  have p0 := putS_size k (by omega) (by omega)
  have p1 := putS_size t (by omega) (by omega)
  have p2 := putS_size f (by omega) (by omega)
  have p3 := putS_size d.size (by omega) (by omega)
  have a1 : ¬ (9223372036854775807 < (putS k).size + (putS t).size) := by omega
  have a2 : ¬ (9223372036854775807 < (putS k).size + (putS t).size + (putS f).size) := by omega
  have a3 : ¬ (9223372036854775807 < (putS k).size + (putS t).size + (putS f).size + ((putS d.size).size + d.size)) := by omega
  clear h
  have HB := Lib.hid (below_alloc1 w (.cells #[.int .i64 k, .int .i64 t, .int .i64 f, .string d] 41))
  have hx := bx_new w 41 #[.int .i64 k, .int .i64 t, .int .i64 f, .string d]
  go_enter Tryd.func82, Tryd.ntmps82
  go_wp2_with fail
  generalize w.alloc (.cells #[.int .i64 k, .int .i64 t, .int .i64 f, .string d] 41) = w1 at *
  have c0 := hx.q0
  have c1 := hx.q1
  have c2 := hx.q2
  have c3 := hx.q3
  have HX := Lib.hid hx
  clear hx
  go_region_held3 (fun w' => w'.cell? ⟨w.heap.size, 0, none⟩ = some (.int .i64 k) ∧ w'.cell? ⟨w.heap.size, 1, none⟩ = some (.int .i64 t) ∧ w'.cell? ⟨w.heap.size, 2, none⟩ = some (.int .i64 f) ∧ w'.cell? ⟨w.heap.size, 3, none⟩ = some (.string d) ∧ Below w1.heap.size w1 w')
    (first | (exact keepQ HX.out (Below.refl _ _).drew) | (go_split_ands; exact keepQ HX.out (below_more (by assumption) hbn)))
    ((first | (go_at_call 13; go_split_ands; refine (specPut _ _ ?_ ?_).mono ?_; omega; omega; rintro e wn ⟨rfl, hbn⟩) | (go_at_call 17; go_split_ands; refine (specText_any d _ ?_).mono ?_; omega; rintro e wn ⟨rfl, hbn⟩)))
  all_goals go_split_ands
  all_goals have HB2 := Lib.hid (HB.out.trans (Below.mono (B := w1.heap.size) (by assumption) HB.out.size))
  all_goals (go_wp2_with fail; go_ret; exact ⟨rfl, HB2.out⟩)

set_option maxRecDepth 100000 in
set_option maxHeartbeats 2000000 in
theorem specStepBs (k t f : Int) (d : ByteArray) (w : World) :
    Calls Tryd.prog 35 #[.agg #[.int .i64 k, .int .i64 t, .int .i64 f, .string d]] w fun e w' => e = .returned (.string (stepBs k t f d)) ∧ Below w.heap.size w w' := by
  obtain ⟨R, hR⟩ : ∃ R, R = stepBs k t f d := ⟨_, rfl⟩
  rw [← hR]
  unfold stepBs at hR
  have HR := Lib.hid hR
  clear hR
  have HB := Lib.hid (below_alloc1 w (.cells #[.int .i64 k, .int .i64 t, .int .i64 f, .string d] 41))
  have HX := Lib.hid (bx_new w 41 #[.int .i64 k, .int .i64 t, .int .i64 f, .string d])
  cases hs : stepB 8 k t f d with
  | false =>
    have hr : R = ⟨#[]⟩ := by rw [HR.out, hs]; rfl
    clear HR
    subst hr
    have HS := Lib.hid hs
    clear hs
    go_enter Tryd.func35, Tryd.ntmps35
    go_wp2_with fail
    refine (specRightS k t f 8 d _).mono ?_
    rintro e w1 ⟨rfl, hb⟩
    have HB2 := Lib.hid (below_more HB.out hb)
    clear hb
    rw [HS.out]
    go_wp2_with fail
    go_ret
    exact ⟨rfl, HB2.out⟩
  | true =>
    have hr : R = stepS k t f d := by rw [HR.out, hs]; rfl
    clear HR
    rw [hr]
    clear hr
    have HS := Lib.hid hs
    clear hs
    go_enter Tryd.func35, Tryd.ntmps35
    go_wp2_with fail
    refine (specRightS k t f 8 d _).mono ?_
    rintro e w1 ⟨rfl, hb⟩
    have hx := HX.out.next hb
    have c0 := hx.q0
    have c1 := hx.q1
    have c2 := hx.q2
    have c3 := hx.q3
    have HB2 := Lib.hid (below_more HB.out hb)
    clear hb hx
    rw [HS.out]
    go_wp2_with fail
    refine (specL06 k t f d _ HS.out).mono ?_
    rintro e w2 ⟨rfl, hb⟩
    have HB3 := Lib.hid (below_more HB2.out hb)
    clear hb c0 c1 c2 c3
    go_wp2_with fail
    go_ret
    exact ⟨rfl, HB3.out⟩

set_option maxRecDepth 100000 in
set_option maxHeartbeats 2000000 in
theorem implStepBs (k t f : Int) (d : ByteArray) (w : World) :
    Calls Tryd.prog 29 #[.agg #[.int .i64 k, .int .i64 t, .int .i64 f, .string d]] w fun e w' => e = .returned (.string (stepBs k t f d)) ∧ Below w.heap.size w w' := by
  obtain ⟨R, hR⟩ : ∃ R, R = stepBs k t f d := ⟨_, rfl⟩
  rw [← hR]
  unfold stepBs at hR
  have HR := Lib.hid hR
  clear hR
  have HB := Lib.hid (below_alloc1 w (.cells #[.int .i64 k, .int .i64 t, .int .i64 f, .string d] 41))
  have HX := Lib.hid (bx_new w 41 #[.int .i64 k, .int .i64 t, .int .i64 f, .string d])
  cases hs : stepB 8 k t f d with
  | false =>
    have hr : R = ⟨#[]⟩ := by rw [HR.out, hs]; rfl
    clear HR
    subst hr
    have HS := Lib.hid hs
    clear hs
    go_enter Tryd.func29, Tryd.ntmps29
    go_wp2_with fail
    refine (implRight k t f 8 d _).mono ?_
    rintro e w1 ⟨rfl, hb⟩
    have HB2 := Lib.hid (below_more HB.out hb)
    clear hb
    rw [HS.out]
    go_wp2_with fail
    go_ret
    exact ⟨rfl, HB2.out⟩
  | true =>
    have hr : R = stepS k t f d := by rw [HR.out, hs]; rfl
    clear HR
    rw [hr]
    clear hr
    have h := hs
    have HS := Lib.hid hs
    clear hs
    obtain ⟨k0, k1, t0, t1, f0, f1, d1⟩ := ok_bounds h
    have p0 := putS_size k (by omega) (by omega)
    have p1 := putS_size t (by omega) (by omega)
    have p2 := putS_size f (by omega) (by omega)
    have p3 := putS_size d.size (by omega) (by omega)
    have a1 : ¬ (9223372036854775807 < (putS k).size + (putS t).size) := by omega
    have a2 : ¬ (9223372036854775807 < (putS k).size + (putS t).size + (putS f).size) := by omega
    have a3 : ¬ (9223372036854775807 < (putS k).size + (putS t).size + (putS f).size + ((putS d.size).size + d.size)) := by omega
    clear h
    go_enter Tryd.func29, Tryd.ntmps29
    go_wp2_with fail
    refine (implRight k t f 8 d _).mono ?_
    rintro e w1 ⟨rfl, hb⟩
    have hx := HX.out.next hb
    have c0 := hx.q0
    have c1 := hx.q1
    have c2 := hx.q2
    have c3 := hx.q3
    replace HB := Lib.hid (below_more HB.out hb)
    replace HX := Lib.hid hx
    clear hb hx
    rw [HS.out]
    go_wp2_with fail
    go_region_held3 (fun w' => w'.cell? ⟨w.heap.size, 0, none⟩ = some (.int .i64 k) ∧ w'.cell? ⟨w.heap.size, 1, none⟩ = some (.int .i64 t) ∧ w'.cell? ⟨w.heap.size, 2, none⟩ = some (.int .i64 f) ∧ w'.cell? ⟨w.heap.size, 3, none⟩ = some (.string d) ∧ Below w1.heap.size w1 w')
      (first | (exact keepQ HX.out (Below.refl _ _).drew) | (go_split_ands; exact keepQ HX.out (below_more (by assumption) hbn)) | (go_split_ands; exact keepQ HX.out (below_more (by assumption) (below_alloc1 _ _))))
      ((first | (go_at_call 12; go_split_ands; refine (implPut _ _ ?_ ?_).mono ?_; omega; omega; rintro e wn ⟨rfl, hbn⟩) | (go_at_call 16; go_split_ands; refine (implText_any d _ ?_).mono ?_; omega; rintro e wn ⟨rfl, hbn⟩) | (go_at_call 66; refine (joined_four (putS k) (putS t) (putS f) (putS d.size ++ d) _ (by rw [ByteArray.size_append]; omega)).mono ?_; rintro e wn ⟨rfl, hbn⟩)))
    all_goals go_split_ands
    all_goals have HB2 := Lib.hid (HB.out.trans (Below.mono (B := w1.heap.size) (by assumption) HB.out.size))
    all_goals (go_wp2_with fail; go_ret; exact ⟨rfl, HB2.out⟩)
end Go.Proofs.YthkbllkhomjmbaaDoor
