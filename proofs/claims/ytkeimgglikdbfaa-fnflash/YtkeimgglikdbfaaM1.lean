/- The ground texts of this claim, in one. -/
import Derived.Test.YtkeimgglikdbfaaRows
import Derived.WalkKit
import Derived.WalkSpells
import Derived.WalkLawsBesides
import Derived.Lib.Hide
import Derived.Below
import Derived.Laws.Rows
import Derived.Laws.CopyOwn
import Derived.Maps.Range
import Derived.Deep.QuietTactic
import Derived.BigQuiet
import Derived.BigRegion
import Derived.Deep.RegionHeld3
import Derived.StillTailTactics
import Derived.ArgAppend
import Derived.Deep.AppendLies
import Derived.Maps.AppendAt
namespace Go.Proofs.Ytkeimgglikdbfaa
open Go.RowKit

theorem ret_bool {a b : Bool} (h : a = b) : Ending.returned (.bool a) = .returned (.bool b) := by rw [h]
def bt (s : ByteArray) (j : Nat) : Int := (s.data.getD j 0).toNat
theorem bt_at (s : ByteArray) (k : Nat) (h : k < s.size) : (s[k].toNat : Int) = bt s k := by
  unfold bt
  have : s.data.getD k 0 = s[k] := by
    have h' : k < s.data.size := h
    simp [Array.getD, h]; rfl
  rw [this]

theorem ret_int {k : IntKind} {a b : Int} (h : a = b) : Ending.returned (.int k a) = .returned (.int k b) := by rw [h]
theorem val_int {k : IntKind} {a b : Int} (h : a = b) : Value.int k a = .int k b := by rw [h]

theorem Try.info5 : (Try.prog.info? 5).map (fun i => (i.zero, i.size, i.bytes)) = some (some (.int .u8 0), 1, 1) := by kernel_rfl
def B (u : UInt8) : Value := .int .u8 (u.toNat : Int)


theorem conv_row {w : World} {base e g n cap c : Nat} {xs : List Value} (h : w.ownsRow base e 1 (.slice (some ⟨g, 0, none⟩) n cap) n xs) (l : List UInt8) (m : Nat) (hm : m = l.length) (hn : m ≤ n) (hx : xs.take m = l.map B) :
    (convert 22 9 (.slice (some ⟨g, 0, none⟩) m c)).run Try.prog w = .ok (.string ⟨l.toArray⟩) w := by
  subst hm
  refine run_convert_bytes_back w 22 9 5 ⟨g, 0, none⟩ c l Try.underlying22 Try.underlying5 Try.underlying9 fun j hj => ?_
  have e1 : ((⟨g, 0, none⟩ : Addr).add j) = ⟨g, j, none⟩ := by simp [Addr.add]; omega
  rw [e1, h.cellAt j (by omega)]
  have e2 : (xs.take l.length)[j]? = xs[j]? := by rw [List.getElem?_take, if_pos hj]
  rw [← e2, hx, List.getElem?_map, List.getElem?_eq_getElem hj]
  rfl

theorem one_cell (wr : World) (a b : Value) (h : a = b) : ∀ j u, [b][j]? = some u → (wr.alloc (.cells #[a] 5)).cell? ((⟨wr.heap.size, 0, none⟩ : Addr).add j) = some u := by
  intro j u hj
  match j, hj with
  | 0, hj => simp at hj; subst hj; subst h; simp [Addr.add]
theorem owned_below {w wr : World} {v : Value} {n : Nat} {xs : List Value} (h : wr.ownsRow w.heap.size 5 1 v n xs) : ∀ k, v.ownBlock = some k → w.heap.size ≤ k := fun k hk => (h.lt k hk).1
theorem owned_shape {w wr : World} {e : TypeId} {v : Value} {n : Nat} {xs : List Value} (h : wr.ownsRow w.heap.size e 1 v n xs) (hn : 0 < n) : ∃ g cap, v = .slice (some ⟨g, 0, none⟩) n cap := by
  rcases h.2 with ⟨_, h0⟩ | ⟨g, cap, cur, h', _⟩
  · omega
  · exact ⟨g, cap, h'⟩

theorem own_block {w : World} {base e g n : Nat} {xs : List Value} (h : w.ownsRow base e 1 (.slice (some ⟨g, 0, none⟩) n n) n xs) : w.heap[g]? = some (.cells xs.toArray e (0, 0)) := by
  rcases h.2 with ⟨h', _⟩ | ⟨g', cap', cur, h', _, hg, _, _, hs, htake⟩
  · simp at h'
  · simp only [Value.slice.injEq, Option.some.injEq, Addr.mk.injEq, and_true, true_and] at h'
    obtain ⟨rfl, rfl⟩ := h'
    rw [hg, ← htake, List.take_of_length_le (by simp [hs])]

theorem conv_block {w : World} {e g c : Nat} {xs : List Value} (h : w.heap[g]? = some (.cells xs.toArray e (0, 0))) (l : List UInt8) (m : Nat) (hm : m = l.length) (hx : xs = l.map B) :
    (convert 22 9 (.slice (some ⟨g, 0, none⟩) m c)).run Try.prog w = .ok (.string ⟨l.toArray⟩) w := by
  subst hm
  refine run_convert_bytes_back w 22 9 5 ⟨g, 0, none⟩ c l Try.underlying22 Try.underlying5 Try.underlying9 fun j hj => ?_
  have e1 : ((⟨g, 0, none⟩ : Addr).add j) = ⟨g, j, none⟩ := by simp [Addr.add]; omega
  rw [e1, cell_of_row w g j _ e (0, 0) h, hx]
  simp [hj, B]
theorem res_cells {K : Nat} {w w' : World} {a b c : Value} {T : TypeId} (hb : Below K (w.alloc (.cells #[a, b, c] T)).drew w') (hK : w.heap.size < K) :
    w'.cell? ⟨w.heap.size, 0, none⟩ = some a ∧ w'.cell? ⟨w.heap.size, 1, none⟩ = some b ∧ w'.cell? ⟨w.heap.size, 2, none⟩ = some c ∧
    w'.frozen? ⟨w.heap.size, 0, none⟩ = false ∧ w'.frozen? ⟨w.heap.size, 1, none⟩ = false ∧ w'.frozen? ⟨w.heap.size, 2, none⟩ = false := by
  have hc : ∀ j, w'.cell? ⟨w.heap.size, j, none⟩ = (#[a, b, c] : Array Value)[j]? := fun j =>
    (hb.cell (p := ⟨w.heap.size, j, none⟩) hK).trans (World.cell?_alloc_new (w := w) #[a, b, c] T j)
  have hf : ∀ j, w'.frozen? ⟨w.heap.size, j, none⟩ = false := fun j =>
    (hb.frozen (p := ⟨w.heap.size, j, none⟩) hK).trans (World.frozen?_alloc_at #[a, b, c] T w.heap.size j rfl)
  exact ⟨hc 0, hc 1, hc 2, hf 0, hf 1, hf 2⟩

theorem laid_cells {K : Nat} {w w' : World} {a b c : Value} {T : TypeId} (hb : Below K (w.alloc (.cells #[a, b, c] T)) w') (hK : w.heap.size < K) :
    w'.cell? ⟨w.heap.size, 0, none⟩ = some a ∧ w'.cell? ⟨w.heap.size, 1, none⟩ = some b ∧ w'.cell? ⟨w.heap.size, 2, none⟩ = some c := by
  have hc : ∀ j, w'.cell? ⟨w.heap.size, j, none⟩ = (#[a, b, c] : Array Value)[j]? := fun j =>
    (hb.cell (p := ⟨w.heap.size, j, none⟩) hK).trans (World.cell?_alloc_new (w := w) #[a, b, c] T j)
  exact ⟨hc 0, hc 1, hc 2⟩
theorem laid_size (w : World) (o : Obj) : w.heap.size < (w.alloc o).heap.size := by
  show _ < (w.heap.push _).size; simp
theorem res_below {K : Nat} {w w' : World} {o : Obj} (hb : Below K (w.alloc o).drew w') (hK : w.heap.size < K) (a b c : Value) :
    Below w.heap.size w (((w'.setCell ⟨w.heap.size, 0, none⟩ a).setCell ⟨w.heap.size, 1, none⟩ b).setCell ⟨w.heap.size, 2, none⟩ c) :=
  (((((Below.refl _ w).alloc (Nat.le_refl _) o).drew.trans (hb.mono (Nat.le_of_lt hK))).setCell (p := ⟨w.heap.size, 0, none⟩) (Nat.le_refl _) a).setCell (p := ⟨w.heap.size, 1, none⟩) (Nat.le_refl _) b).setCell (p := ⟨w.heap.size, 2, none⟩) (Nat.le_refl _) c
theorem res_size (w : World) (o : Obj) : w.heap.size < (w.alloc o).drew.heap.size := by
  show _ < (w.heap.push _).size; simp
theorem res_below0 (w : World) (o : Obj) (a b c : Value) :
    Below w.heap.size w ((((w.alloc o).setCell ⟨w.heap.size, 0, none⟩ a).setCell ⟨w.heap.size, 1, none⟩ b).setCell ⟨w.heap.size, 2, none⟩ c) :=
  ((((Below.refl _ w).alloc (Nat.le_refl _) o).setCell (p := ⟨w.heap.size, 0, none⟩) (Nat.le_refl _) a).setCell (p := ⟨w.heap.size, 1, none⟩) (Nat.le_refl _) b).setCell (p := ⟨w.heap.size, 2, none⟩) (Nat.le_refl _) c

/-- A decoded string as the model and the program lay it. -/
def textV (s : ByteArray) (at' code : Int) : Value := .agg #[.string s, .int .i64 at', .int .i64 code]

end Go.Proofs.Ytkeimgglikdbfaa

namespace Go.Proofs.Ytkeimgglikdbfaa
open Go.RowKit

/-- What is left of a write. -/
def torn (old fresh : ByteArray) (fate : Int) : ByteArray :=
  if 8000 < old.size ∨ 8000 < fresh.size then ByteArray.empty
  else if fate < 1 then old
  else if fate = 1 then fresh
  else if (fresh.size : Int) < fate - 2 then fresh
  else fresh.extract 0 (fate - 2).toNat

set_option maxHeartbeats 1000000 in
set_option maxRecDepth 100000 in
theorem specTorn (old fresh : ByteArray) (fate : Int) (w : World) (h0 : old.size ≤ maxLen) (h1 : fresh.size ≤ maxLen) (hl : -9223372036854775808 ≤ fate) (hh : fate ≤ 9223372036854775807) :
    Calls Try.prog 22 #[.string old, .string fresh, .int .i64 fate] w fun e w' => e = .returned (.string (torn old fresh fate)) ∧ w' = w := by
  unfold maxLen at h0 h1
  obtain ⟨T, hT⟩ : ∃ T, T = torn old fresh fate := ⟨_, rfl⟩
  rw [← hT]
  unfold torn at hT
  have HT := Lib.hid hT
  clear hT
  by_cases ho : 8000 < old.size
  · have e : T = ByteArray.empty := by rw [HT.out, if_pos (.inl ho)]
    clear HT
    rw [e]
    clear e
    have d0 : decide ((8000 : Int) < (old.size : Int)) = true := decide_eq_true (by omega)
    go_enter Try.func22, Try.ntmps22
    go_wp2
    go_ret
    exact ⟨rfl, rfl⟩
  have d0 : decide ((8000 : Int) < (old.size : Int)) = false := decide_eq_false (by omega)
  by_cases hf : 8000 < fresh.size
  · have e : T = ByteArray.empty := by rw [HT.out, if_pos (.inr hf)]
    clear HT
    rw [e]
    clear e
    have d1 : decide ((8000 : Int) < (fresh.size : Int)) = true := decide_eq_true (by omega)
    go_enter Try.func22, Try.ntmps22
    go_wp2
    go_ret
    exact ⟨rfl, rfl⟩
  have d1 : decide ((8000 : Int) < (fresh.size : Int)) = false := decide_eq_false (by omega)
  have HT2 := Lib.hid (HT.out.trans (if_neg (by omega)))
  clear HT
  by_cases h2 : fate < 1
  · have e : T = old := by rw [HT2.out, if_pos h2]
    clear HT2
    rw [e]
    clear e
    go_enter Try.func22, Try.ntmps22
    go_wp2
    go_ret
    exact ⟨rfl, rfl⟩
  have d2 : decide (fate < 1) = false := decide_eq_false h2
  have HT3 := Lib.hid (HT2.out.trans (if_neg h2))
  clear HT2
  by_cases h3 : fate = 1
  · have e : T = fresh := by rw [HT3.out, if_pos h3]
    clear HT3
    rw [e]
    clear e
    subst h3
    go_enter Try.func22, Try.ntmps22
    go_wp2
    go_ret
    exact ⟨rfl, rfl⟩
  have HT4 := Lib.hid (HT3.out.trans (if_neg h3))
  clear HT3
  have m0 : IntKind.i64.wrap (fate - 2) = fate - 2 := IntWalk.i64_in _ (by omega)
  by_cases h4 : (fresh.size : Int) < fate - 2
  · have e : T = fresh := by rw [HT4.out, if_pos h4]
    clear HT4
    rw [e]
    clear e
    have d4 : decide ((fresh.size : Int) < fate - 2) = true := decide_eq_true h4
    go_enter Try.func22, Try.ntmps22
    go_wp2
    go_ret
    exact ⟨by simp, rfl⟩
  have d4 : decide ((fresh.size : Int) < fate - 2) = false := decide_eq_false h4
  have e : T = fresh.extract 0 (fate - 2).toNat := by rw [HT4.out, if_neg h4]
  clear HT4
  rw [e]
  clear e
  have g0 : 0 ≤ fate - 2 := by omega
  have g1 : fate - 2 ≤ (fresh.size : Int) := by omega
  clear hl hh h0 h1
  go_enter Try.func22, Try.ntmps22
  go_wp2
  go_ret
  exact ⟨by simp, rfl⟩
end Go.Proofs.Ytkeimgglikdbfaa

namespace Go.Proofs.Ytkeimgglikdbfaa
open Go.RowKit

/-- v 0 .. v (n - 1) as cells. -/
def cellsV (n : Nat) (v : Nat → Value) : Array Value := ((List.range n).map v).toArray
theorem cellsV_size (n : Nat) (v : Nat → Value) : (cellsV n v).size = n := by simp [cellsV]
theorem cellsV_at (n : Nat) (v : Nat → Value) (j : Nat) (h : j < n) : (cellsV n v)[j]? = some (v j) := by simp [cellsV, h]
theorem cellsV_list (n : Nat) (v : Nat → Value) : (cellsV n v).toList = (List.range n).map v := by simp [cellsV]
/-- Block g holds v 0 .. v (n - 1), laid as cells of the type T. -/
def CellsAt (wr : World) (g : Nat) (T : TypeId) (n : Nat) (v : Nat → Value) : Prop := wr.heap[g]? = some (.cells (cellsV n v) T (0, 0))
theorem CellsAt.cell {wr : World} {g n : Nat} {T : TypeId} {v : Nat → Value} (h : CellsAt wr g T n v) (j : Nat) (hj : j < n) : wr.cell? ⟨g, j, none⟩ = some (v j) := by
  rw [cell_of_row wr g j _ T (0, 0) h, cellsV_at n v j hj]
theorem CellsAt.frozen {wr : World} {g n : Nat} {T : TypeId} {v : Nat → Value} (h : CellsAt wr g T n v) (j : Nat) : wr.frozen? ⟨g, j, none⟩ = false := frozen_of_row wr g j _ T h
theorem CellsAt.lt {wr : World} {g n : Nat} {T : TypeId} {v : Nat → Value} (h : CellsAt wr g T n v) : g < wr.heap.size := (Array.getElem?_eq_some_iff.1 h).1
theorem CellsAt.set {wr : World} {g n : Nat} {T : TypeId} {v v' : Nat → Value} (h : CellsAt wr g T n v) (j : Nat) (x : Value) (hx : v' j = x) (hf : ∀ i, i ≠ j → v' i = v i) : CellsAt (wr.setCell ⟨g, j, none⟩ x) g T n v' := by
  unfold CellsAt
  rw [heap_setCell_same wr g j _ T x h]
  congr 2
  apply Array.ext_getElem?
  intro i
  unfold cellsV
  simp only [List.setIfInBounds_toArray, List.getElem?_toArray, List.getElem?_set, List.length_map, List.length_range]
  by_cases hi : j = i
  · subst hi; by_cases hj : j < n <;> simp [hj, hx]
  · rw [if_neg hi]; by_cases hn : i < n
    · simp [hn, hf i (fun e => hi e.symm)]
    · simp [hn]
theorem cellsV_congr {n : Nat} {v v' : Nat → Value} (hf : ∀ i, i < n → v' i = v i) : cellsV n v' = cellsV n v := by
  unfold cellsV; congr 1
  apply List.map_congr_left; intro i hi; rw [hf i (by simpa using hi)]
theorem CellsAt.congr {wr : World} {g n : Nat} {T : TypeId} {v v' : Nat → Value} (h : CellsAt wr g T n v) (hf : ∀ i, i < n → v' i = v i) : CellsAt wr g T n v' := by
  unfold CellsAt at *; rw [h, cellsV_congr hf]
theorem CellsAt.below {wr wr' : World} {g n B : Nat} {T : TypeId} {v : Nat → Value} (h : CellsAt wr g T n v) (hb : Below B wr wr') (hg : g < B) : CellsAt wr' g T n v := (hb.block g hg).trans h
theorem CellsAt.drew {wr : World} {g n : Nat} {T : TypeId} {v : Nat → Value} (h : CellsAt wr g T n v) : CellsAt wr.drew g T n v := h
theorem CellsAt.drewN {wr : World} {g n m : Nat} {T : TypeId} {v : Nat → Value} (h : CellsAt wr g T n v) : CellsAt (wr.drewN m) g T n v := h
theorem cellsAt_new (W : World) (g n : Nat) (T : TypeId) (v : Nat → Value) (hg : W.heap.size = g) {cs : Array Value} (hc : cs = cellsV n v) : CellsAt (W.alloc (.cells cs T)) g T n v := by
  subst hg; subst hc; exact heap_alloc_new W _
/-- A list known whole as such a block. -/
theorem cellsAt_list {wr : World} {g : Nat} {T : TypeId} {xs : List Value} (h : wr.heap[g]? = some (.cells xs.toArray T (0, 0))) (n : Nat) (v : Nat → Value) (hn : xs.length = n) (hv : ∀ j, j < n → xs[j]? = some (v j)) : CellsAt wr g T n v := by
  unfold CellsAt; rw [h]; congr 2
  apply Array.ext_getElem?
  intro j
  by_cases hj : j < n
  · rw [cellsV_at n v j hj]; simpa using hv j hj
  · rw [Array.getElem?_eq_none (by simp; omega), Array.getElem?_eq_none (by rw [cellsV_size]; omega)]
end Go.Proofs.Ytkeimgglikdbfaa

namespace Go.Proofs.Ytkeimgglikdbfaa
open Go.RowKit

/-- v is a slice of n elements of sz cells, which read as xs. -/
def Rd (w : World) (v : Value) (n sz : Nat) (xs : List Value) : Prop :=
  xs.length = n * sz ∧ ∃ a c, v = .slice a n c ∧ (0 < n → ∃ b off, a = some ⟨b, off, none⟩ ∧ b < w.heap.size ∧ ∀ j, j < n * sz → w.cell? ⟨b, off + j, none⟩ = xs[j]?)
/-- The same, its block made since the heap had lo blocks, and free to be written. -/
def Own (w : World) (lo : Nat) (v : Value) (n sz : Nat) (xs : List Value) : Prop :=
  xs.length = n * sz ∧ ∃ a c, v = .slice a n c ∧ (0 < n → ∃ b off, a = some ⟨b, off, none⟩ ∧ lo ≤ b ∧ b < w.heap.size ∧ (∀ j, j < n * sz → w.cell? ⟨b, off + j, none⟩ = xs[j]?) ∧ ∀ j, j < n * sz → w.frozen? ⟨b, off + j, none⟩ = false)
theorem Own.rd {w : World} {lo n sz : Nat} {v : Value} {xs : List Value} (h : Own w lo v n sz xs) : Rd w v n sz xs := by
  obtain ⟨h1, a, c, rfl, h2⟩ := h
  exact ⟨h1, a, c, rfl, fun h0 => by obtain ⟨b, off, e, _, hb, hc, _⟩ := h2 h0; exact ⟨b, off, e, hb, hc⟩⟩
/-- w' is w, but for blocks from B on and but for what was drawn. -/
theorem Rd.below {w w' : World} {n sz B : Nat} {v : Value} {xs : List Value} (h : Rd w v n sz xs) (hb : Below B w w') (hB : w.heap.size ≤ B) : Rd w' v n sz xs := by
  obtain ⟨h1, a, c, rfl, h2⟩ := h
  exact ⟨h1, a, c, rfl, fun h0 => by
    obtain ⟨b, off, e, hl, hc⟩ := h2 h0
    exact ⟨b, off, e, Nat.lt_of_lt_of_le hl hb.size, fun j hj => (hb.cell (p := ⟨b, off + j, none⟩) (by simp; omega)).trans (hc j hj)⟩⟩
theorem Own.below {w w' : World} {lo n sz B : Nat} {v : Value} {xs : List Value} (h : Own w lo v n sz xs) (hb : Below B w w') (hB : w.heap.size ≤ B) : Own w' lo v n sz xs := by
  obtain ⟨h1, a, c, rfl, h2⟩ := h
  exact ⟨h1, a, c, rfl, fun h0 => by
    obtain ⟨b, off, e, hlo, hl, hc, hf⟩ := h2 h0
    exact ⟨b, off, e, hlo, Nat.lt_of_lt_of_le hl hb.size, fun j hj => (hb.cell (p := ⟨b, off + j, none⟩) (by simp; omega)).trans (hc j hj), fun j hj => (hb.frozen (p := ⟨b, off + j, none⟩) (by simp; omega)).trans (hf j hj)⟩⟩
theorem Own.lower {w : World} {lo lo' n sz : Nat} {v : Value} {xs : List Value} (h : Own w lo v n sz xs) (hl : lo' ≤ lo) : Own w lo' v n sz xs := by
  obtain ⟨h1, a, c, rfl, h2⟩ := h
  exact ⟨h1, a, c, rfl, fun h0 => by obtain ⟨b, off, e, hlo, r⟩ := h2 h0; exact ⟨b, off, e, Nat.le_trans hl hlo, r⟩⟩
/-- Nothing but one block, and new ones, has turned; the slice lies elsewhere. -/
theorem Rd.grown {w w' : World} {n sz : Nat} {v : Value} {xs : List Value} {row : Option Nat} (h : Rd w v n sz xs) (hg : w.grownBy w' row) (hne : 0 < n → v.ownBlock ≠ row) : Rd w' v n sz xs := by
  obtain ⟨h1, a, c, rfl, h2⟩ := h
  exact ⟨h1, a, c, rfl, fun h0 => by
    obtain ⟨b, off, rfl, hl, hc⟩ := h2 h0
    exact ⟨b, off, rfl, Nat.lt_of_lt_of_le hl hg.size, fun j hj => (World.cell?_of_block (w := w) (a := ⟨b, off + j, none⟩) (hg.block b hl (hne h0))).trans (hc j hj)⟩⟩
theorem Own.grown {w w' : World} {lo n sz : Nat} {v : Value} {xs : List Value} {row : Option Nat} (h : Own w lo v n sz xs) (hg : w.grownBy w' row) (hne : 0 < n → v.ownBlock ≠ row) : Own w' lo v n sz xs := by
  obtain ⟨h1, a, c, rfl, h2⟩ := h
  exact ⟨h1, a, c, rfl, fun h0 => by
    obtain ⟨b, off, rfl, hlo, hl, hc, hf⟩ := h2 h0
    exact ⟨b, off, rfl, hlo, Nat.lt_of_lt_of_le hl hg.size, fun j hj => (World.cell?_of_block (w := w) (a := ⟨b, off + j, none⟩) (hg.block b hl (hne h0))).trans (hc j hj), fun j hj => (World.frozen?_of_block (w := w) (a := ⟨b, off + j, none⟩) (hg.block b hl (hne h0))).trans (hf j hj)⟩⟩
theorem Rd.drewN {w : World} {n sz m : Nat} {v : Value} {xs : List Value} (h : Rd w v n sz xs) : Rd (w.drewN m) v n sz xs := h
theorem Own.drewN {w : World} {lo n sz m : Nat} {v : Value} {xs : List Value} (h : Own w lo v n sz xs) : Own (w.drewN m) lo v n sz xs := h
theorem Rd.get {w : World} {n sz c : Nat} {a : Option Addr} {xs : List Value} (h : Rd w (.slice a n c) n sz xs) (h0 : 0 < n) : ∃ b off, a = some ⟨b, off, none⟩ ∧ b < w.heap.size ∧ ∀ j, j < n * sz → w.cell? ⟨b, off + j, none⟩ = xs[j]? := by
  obtain ⟨_, a', c', e, h2⟩ := h
  simp only [Value.slice.injEq, true_and] at e
  obtain ⟨rfl, rfl⟩ := e
  exact h2 h0
theorem Own.get {w : World} {lo n sz c : Nat} {a : Option Addr} {xs : List Value} (h : Own w lo (.slice a n c) n sz xs) (h0 : 0 < n) : ∃ b off, a = some ⟨b, off, none⟩ ∧ lo ≤ b ∧ b < w.heap.size ∧ (∀ j, j < n * sz → w.cell? ⟨b, off + j, none⟩ = xs[j]?) ∧ ∀ j, j < n * sz → w.frozen? ⟨b, off + j, none⟩ = false := by
  obtain ⟨_, a', c', e, h2⟩ := h
  simp only [Value.slice.injEq, true_and] at e
  obtain ⟨rfl, rfl⟩ := e
  exact h2 h0
/-- One cell of it written. -/
theorem Own.set {w : World} {lo n sz c b off : Nat} {xs : List Value} (h : Own w lo (.slice (some ⟨b, off, none⟩) n c) n sz xs) (j : Nat) (x : Value) (hj : j < n * sz) (hc : ∃ v, w.cell? ⟨b, off + j, none⟩ = some v) :
    Own (w.setCell ⟨b, off + j, none⟩ x) lo (.slice (some ⟨b, off, none⟩) n c) n sz (xs.set j x) := by
  obtain ⟨h1, _⟩ := id h
  refine ⟨by simpa using h1, _, _, rfl, fun h0 => ?_⟩
  obtain ⟨b', off', e, hlo, hl, hcell, hf⟩ := h.get h0
  simp only [Option.some.injEq, Addr.mk.injEq, and_true] at e
  obtain ⟨rfl, rfl⟩ := e
  refine ⟨b, off, rfl, hlo, by simpa using hl, fun i hi => ?_, fun i hi => by rw [World.frozen?_setCell]; exact hf i hi⟩
  by_cases hij : i = j
  · subst hij
    obtain ⟨v, hv⟩ := hc
    rw [World.cell?_setCell_same (w := w) (h := hv), List.getElem?_set_self (by omega)]
  · rw [World.cell?_setCell_other (h := fun e => hij (by have := (Addr.mk.inj e).2.1; omega)), hcell i hi, List.getElem?_set_ne (by omega)]
theorem grown_set {w w1 : World} {b i : Nat} {x : Value} (h : w.grownBy w1 (some b)) : w.grownBy (w1.setCell ⟨b, i, none⟩ x) (some b) :=
  h.andThen (c := w1.setCell ⟨b, i, none⟩ x) (row' := some b) ⟨rfl, rfl, rfl, by simp, fun k _ hk => Below.heap_setCell w1 ⟨b, i, none⟩ x k (fun e => hk (by rw [e]))⟩ (fun _ e => .inr e)
theorem below_grown {w w' : World} (h : Below w.heap.size w w') : w.grownBy w' none := ⟨h.os, h.tape, h.output, h.size, fun k hk _ => h.block k hk⟩
theorem own_of_row {w : World} {base e n sz : Nat} {v : Value} {xs : List Value} (h : w.ownsRow base e sz v n xs) : Own w base v n sz xs := by
  refine ⟨h.1, ?_⟩
  rcases h.2 with ⟨rfl, rfl⟩ | ⟨g, cap, cur, rfl, h1, h2, h3, h4, h5, h6⟩
  · exact ⟨none, 0, rfl, fun h => absurd h (Nat.lt_irrefl 0)⟩
  · refine ⟨_, _, rfl, fun _ => ⟨g, 0, rfl, h1, (Array.getElem?_eq_some_iff.1 h2).1, fun j hj => ?_, fun j _ => ?_⟩⟩
    · rw [Nat.zero_add]; exact h.cellAt j hj
    · rw [Nat.zero_add]; exact frozen_of_row w g j _ e h2
theorem own_of_cells {w : World} {lo g T n sz N cap : Nat} {f : Nat → Value} {xs : List Value} (h : CellsAt w g T N f) (hlo : lo ≤ g) (hN : n * sz ≤ N) (hl : xs.length = n * sz) (hx : ∀ j, j < n * sz → xs[j]? = some (f j)) :
    Own w lo (.slice (some ⟨g, 0, none⟩) n cap) n sz xs :=
  ⟨hl, _, _, rfl, fun _ => ⟨g, 0, rfl, hlo, h.lt, fun j hj => by rw [Nat.zero_add, h.cell j (by omega), hx j hj], fun j _ => by rw [Nat.zero_add]; exact h.frozen j⟩⟩
/-- What a call gives that makes a slice. -/
def MadeRow (w : World) (n sz : Nat) (xs : List Value) (e : Ending) (w' : World) : Prop := ∃ v, e = .returned v ∧ Own w' w.heap.size v n sz xs ∧ Below w.heap.size w w'
/-- Nothing but what was drawn. -/
def Still (w w' : World) : Prop := ∃ m, w' = w.drewN m
theorem Still.refl (w : World) : Still w w := ⟨0, rfl⟩
theorem Still.trans {a b c : World} (h : Still a b) (k : Still b c) : Still a c := by
  obtain ⟨m, rfl⟩ := h; obtain ⟨n, rfl⟩ := k; exact ⟨m + n, by simp⟩
theorem Still.below {w w' : World} (h : Still w w') (B : Nat) : Below B w w' := by obtain ⟨m, rfl⟩ := h; exact below_drewN (Below.refl _ _) m
theorem Still.rd {w w' : World} {n sz : Nat} {v : Value} {xs : List Value} (h : Still w w') (k : Rd w v n sz xs) : Rd w' v n sz xs := by obtain ⟨m, rfl⟩ := h; exact k
theorem Still.own {w w' : World} {lo n sz : Nat} {v : Value} {xs : List Value} (h : Still w w') (k : Own w lo v n sz xs) : Own w' lo v n sz xs := by obtain ⟨m, rfl⟩ := h; exact k
/-- The block of a slice of n elements, if it has one that matters. -/
def blk (v : Value) (n : Nat) : Option Nat := if n = 0 then none else v.ownBlock
theorem blk_pos {b off n c : Nat} (h : 0 < n) : blk (.slice (some ⟨b, off, none⟩) n c) n = some b := by unfold blk; rw [if_neg (by omega)]; rfl
theorem Own.blk {w : World} {lo n sz : Nat} {v : Value} {xs : List Value} (h : Own w lo v n sz xs) : ∀ k, blk v n = some k → lo ≤ k ∧ k < w.heap.size := by
  intro k hk
  obtain ⟨_, a, c, rfl, h2⟩ := h
  by_cases h0 : 0 < n
  · obtain ⟨b, off, rfl, hlo, hl, _⟩ := h2 h0
    rw [blk_pos h0] at hk
    cases hk; exact ⟨hlo, hl⟩
  · obtain rfl : n = 0 := by omega
    simp [Proofs.Ytkeimgglikdbfaa.blk] at hk
theorem Rd.blk {w : World} {n sz : Nat} {v : Value} {xs : List Value} (h : Rd w v n sz xs) : ∀ k, blk v n = some k → k < w.heap.size := by
  intro k hk
  obtain ⟨_, a, c, rfl, h2⟩ := h
  by_cases h0 : 0 < n
  · obtain ⟨b, off, rfl, hl, _⟩ := h2 h0
    rw [blk_pos h0] at hk
    cases hk; exact hl
  · obtain rfl : n = 0 := by omega
    simp [Proofs.Ytkeimgglikdbfaa.blk] at hk
/-- Nothing but the blocks s and d, and new ones, has turned. -/
structure Two (s d : Option Nat) (w w' : World) : Prop where
  os : w'.os = w.os
  tape : w'.tape = w.tape
  output : w'.output = w.output
  size : w.heap.size ≤ w'.heap.size
  block : ∀ k, k < w.heap.size → some k ≠ s → some k ≠ d → w'.heap[k]? = w.heap[k]?
theorem Two.below {s d : Option Nat} {w w' : World} (h : Two s d w w') {lo : Nat} (hs : ∀ k, s = some k → lo ≤ k) (hd : ∀ k, d = some k → lo ≤ k) (hw : lo ≤ w.heap.size) : Below lo w w' :=
  ⟨h.os, h.tape, h.output, h.size, fun k hk => h.block k (by omega) (fun e => by have := hs k e.symm; omega) (fun e => by have := hd k e.symm; omega)⟩
theorem Two.refl (s d : Option Nat) (w : World) : Two s d w w := ⟨rfl, rfl, rfl, Nat.le_refl _, fun _ _ _ _ => rfl⟩
theorem Two.trans {s d : Option Nat} {a b c : World} (h : Two s d a b) (k : Two s d b c) : Two s d a c :=
  ⟨k.os.trans h.os, k.tape.trans h.tape, k.output.trans h.output, Nat.le_trans h.size k.size, fun i hi h1 h2 => (k.block i (Nat.lt_of_lt_of_le hi h.size) h1 h2).trans (h.block i hi h1 h2)⟩
theorem two_left {s d : Option Nat} {w w' : World} (h : w.grownBy w' s) : Two s d w w' := ⟨h.os, h.tape, h.output, h.size, fun k hk h1 _ => h.block k hk h1⟩
theorem two_right {s d : Option Nat} {w w' : World} (h : w.grownBy w' d) : Two s d w w' := ⟨h.os, h.tape, h.output, h.size, fun k hk _ h2 => h.block k hk h2⟩
theorem two_below {s d : Option Nat} {w w' : World} (h : Below w.heap.size w w') : Two s d w w' := ⟨h.os, h.tape, h.output, h.size, fun k hk _ _ => h.block k hk⟩
theorem Rd.two {w w' : World} {n sz : Nat} {v : Value} {xs : List Value} {s d : Option Nat} (h : Rd w v n sz xs) (ht : Two s d w w') (hne : ∀ k, Proofs.Ytkeimgglikdbfaa.blk v n = some k → some k ≠ s ∧ some k ≠ d) : Rd w' v n sz xs := by
  obtain ⟨h1, a, c, rfl, h2⟩ := h
  exact ⟨h1, a, c, rfl, fun h0 => by
    obtain ⟨b, off, rfl, hl, hc⟩ := h2 h0
    have hb := ht.block b hl (hne b (blk_pos h0)).1 (hne b (blk_pos h0)).2
    exact ⟨b, off, rfl, Nat.lt_of_lt_of_le hl ht.size, fun j hj => (World.cell?_of_block (w := w) (a := ⟨b, off + j, none⟩) hb).trans (hc j hj)⟩⟩
theorem Own.two {w w' : World} {lo n sz : Nat} {v : Value} {xs : List Value} {s d : Option Nat} (h : Own w lo v n sz xs) (ht : Two s d w w') (hne : ∀ k, Proofs.Ytkeimgglikdbfaa.blk v n = some k → some k ≠ s ∧ some k ≠ d) : Own w' lo v n sz xs := by
  obtain ⟨h1, a, c, rfl, h2⟩ := h
  exact ⟨h1, a, c, rfl, fun h0 => by
    obtain ⟨b, off, rfl, hlo, hl, hc, hf⟩ := h2 h0
    have hb := ht.block b hl (hne b (blk_pos h0)).1 (hne b (blk_pos h0)).2
    exact ⟨b, off, rfl, hlo, Nat.lt_of_lt_of_le hl ht.size, fun j hj => (World.cell?_of_block (w := w) (a := ⟨b, off + j, none⟩) hb).trans (hc j hj), fun j hj => (World.frozen?_of_block (w := w) (a := ⟨b, off + j, none⟩) hb).trans (hf j hj)⟩⟩
theorem Own.other {w : World} {lo n sz : Nat} {v : Value} {xs : List Value} (h : Own w lo v n sz xs) (p : Addr) (x : Value) (hp : ∀ k, Proofs.Ytkeimgglikdbfaa.blk v n = some k → k ≠ p.block) : Own (w.setCell p x) lo v n sz xs := by
  obtain ⟨h1, a, c, rfl, h2⟩ := h
  exact ⟨h1, a, c, rfl, fun h0 => by
    obtain ⟨b, off, rfl, hlo, hl, hc, hf⟩ := h2 h0
    have hb := Below.heap_setCell w p x b (hp b (blk_pos h0))
    exact ⟨b, off, rfl, hlo, by simpa using hl, fun j hj => (World.cell?_of_block (w := w) (a := ⟨b, off + j, none⟩) hb).trans (hc j hj), fun j hj => (World.frozen?_of_block (w := w) (a := ⟨b, off + j, none⟩) hb).trans (hf j hj)⟩⟩
end Go.Proofs.Ytkeimgglikdbfaa

namespace Go.Proofs.Ytkeimgglikdbfaa
open Go.RowKit

theorem Try.info9 : (Try.prog.info? 9).map (fun i => (i.zero, i.size, i.bytes)) = some (some (.string ByteArray.empty), 1, 16) := by kernel_rfl
def strs (l : List ByteArray) : List Value := l.map Value.string
theorem strs_length (l : List ByteArray) : (strs l).length = l.length := by simp [strs]
theorem strs_at (l : List ByteArray) (j : Nat) (h : j < l.length) : (strs l)[j]? = some (.string l[j]) := by simp [strs, h]

def CopyRel (w : World) (l : List ByteArray) (i : Value) (wr : World) : Prop :=
  ∃ k : Nat, k ≤ l.length ∧ i = .int .i64 k ∧ CellsAt wr w.heap.size 9 l.length (fun j => .string (if j < k then l.getD j ByteArray.empty else ByteArray.empty)) ∧ Below w.heap.size w wr
theorem made_strs {w1 : World} {g n : Nat} (h : w1.heap[g]? = some (.cells (List.replicate n (Value.string ByteArray.empty)).toArray 9 (0, 0))) : CellsAt w1 g 9 n (fun _ => .string ByteArray.empty) :=
  cellsAt_list h n _ (by simp) (fun j hj => by simp [hj])

/-- What is left of a measure: less than nothing, or all was within it. -/
def Left (P : Prop) (w : World) (e : Ending) (w' : World) : Prop := ∃ r : Int, e = .returned (.int .i64 r) ∧ w = w' ∧ (r = -1 ∨ 0 ≤ r ∧ P)
def LeftIn (left : Int) (P : Prop) (w : World) (e : Ending) (w' : World) : Prop := ∃ r : Int, e = .returned (.int .i64 r) ∧ w = w' ∧ (r = -1 ∨ 0 ≤ r ∧ r ≤ left ∧ P)
def SizeRel (l : List ByteArray) (left : Int) (x i : Value) : Prop :=
  ∃ (k : Nat) (r : Int), k ≤ l.length ∧ i = .int .i64 k ∧ x = .int .i64 r ∧ 0 ≤ r ∧ r ≤ left ∧ ∀ j (h : j < l.length), j < k → (l[j].size : Int) ≤ left
def EqRel (w : World) (n : Nat) (i : Value) (wr : World) : Prop := ∃ k : Nat, k ≤ n ∧ i = .int .i64 k ∧ Still w wr
end Go.Proofs.Ytkeimgglikdbfaa

namespace Go.Proofs.Ytkeimgglikdbfaa
open Go.RowKit

def dig (k : Nat) : UInt8 := UInt8.ofNat (48 + k % 10)
theorem dig_val (n : Nat) : (48 + (n : Int) % 10) = ((dig n).toNat : Int) := by
  unfold dig; rw [UInt8.toNat_ofNat']; omega
def digs (k : Nat) (acc : List UInt8) : List UInt8 := if _h : k = 0 then acc else digs (k / 10) (dig k :: acc)
termination_by k
decreasing_by omega
theorem digs_zero (acc : List UInt8) : digs 0 acc = acc := by rw [digs, dif_pos rfl]
theorem digs_more (k : Nat) (acc : List UInt8) (h : 0 < k) : digs k acc = digs (k / 10) (dig k :: acc) := by rw [digs, dif_neg (by omega)]
/-- A list of bytes as a string. -/
def accS (l : List UInt8) : ByteArray := ⟨l.toArray⟩
theorem accS_size (l : List UInt8) : (accS l).size = l.length := by show l.toArray.size = _; simp
theorem accS_cons (x : UInt8) (l : List UInt8) : accS [x] ++ accS l = accS (x :: l) := by
  apply ByteArray.ext; simp [accS]
/-- The text of the number k. -/
def markS (k : Nat) : ByteArray := accS (109 :: digs k [])
def MarkRel (k0 : Nat) (w : World) (n t : Value) (wr : World) : Prop :=
  ∃ (k : Nat) (acc : List UInt8), n = .int .i64 k ∧ t = .string (accS acc) ∧ acc.length ≤ 11 ∧ digs k acc = digs k0 [] ∧ k * 10 ^ acc.length ≤ k0 ∧ Below w.heap.size w wr
theorem len_bound (k k0 n : Nat) (h : 0 < k) (hb : k * 10 ^ n ≤ k0) (h0 : k0 ≤ 10000000000) : n ≤ 10 := by
  have h1 : 10 ^ n ≤ k0 := Nat.le_trans (Nat.le_mul_of_pos_left _ h) hb
  have h2 : 10 ^ n ≤ 10 ^ 10 := Nat.le_trans h1 h0
  exact (Nat.pow_le_pow_iff_right (by decide)).1 h2
theorem next_bound (k k0 n : Nat) (hb : k * 10 ^ n ≤ k0) : k / 10 * 10 ^ (n + 1) ≤ k0 := by
  have : k / 10 * 10 ^ (n + 1) ≤ k * 10 ^ n := by
    rw [Nat.pow_succ, Nat.mul_comm (10 ^ n) 10, ← Nat.mul_assoc]
    exact Nat.mul_le_mul_right _ (by omega)
  omega

def marks (k n : Nat) : List Value := (List.range n).map fun j => .string (markS (k + j))
theorem marks_length (k n : Nat) : (marks k n).length = n := by simp [marks]
/-- The first i marked, the others as they were. -/
def marked (k i : Nat) (xs : List Value) : List Value := (List.range xs.length).map fun j => if j < i then .string (markS (k + j)) else xs.getD j undef
theorem marked_length (k i : Nat) (xs : List Value) : (marked k i xs).length = xs.length := by simp [marked]
theorem marked_zero (k : Nat) (xs : List Value) : marked k 0 xs = xs := by
  apply List.ext_getElem
  · simp [marked]
  · intro j h1 h2; simp [marked, h2]
theorem marked_all (k : Nat) (xs : List Value) : marked k xs.length xs = marks k xs.length := by
  apply List.ext_getElem
  · simp [marked, marks]
  · intro j h1 h2; simp [marked] at h1; simp [marked, marks, h1]
theorem marked_set (k i : Nat) (xs : List Value) (_h : i < xs.length) : (marked k i xs).set i (.string (markS (k + i))) = marked k (i + 1) xs := by
  apply List.ext_getElem
  · simp [marked]
  · intro j h1 h2
    rw [List.getElem_set]
    by_cases hj : i = j
    · subst hj; simp [marked]
    · rw [if_neg hj]; simp only [marked, List.getElem_map, List.getElem_range]
      by_cases hji : j < i
      · rw [if_pos hji, if_pos (by omega)]
      · rw [if_neg hji, if_neg (by omega)]

/-- What marking a slice does: its cells turn, and nothing else that was there. -/
def Marked (lo : Nat) (v : Value) (n sz : Nat) (xs : List Value) (r : Int) (w : World) (e : Ending) (w' : World) : Prop :=
  e = .returned (.int .i64 r) ∧ Own w' lo v n sz xs ∧ w.grownBy w' (blk v n)
def MarkSRel (lo : Nat) (v : Value) (k n : Nat) (xs : List Value) (w : World) (q i : Value) (wr : World) : Prop :=
  ∃ j : Nat, j ≤ n ∧ q = .int .i64 ((k + j : Nat) : Int) ∧ i = .int .i64 j ∧ Own wr lo v n 1 (marked k j xs) ∧ w.grownBy wr (blk v n)
/-- What looking at a marked slice gives. -/
def Held (r : Int) (w : World) (e : Ending) (w' : World) : Prop := e = .returned (.int .i64 r) ∧ Below w.heap.size w w'
def HeldRel (k n : Nat) (w : World) (q i : Value) (wr : World) : Prop :=
  ∃ j : Nat, j ≤ n ∧ q = .int .i64 ((k + j : Nat) : Int) ∧ i = .int .i64 j ∧ Below w.heap.size w wr
theorem marks_at (k n j : Nat) (h : j < n) : (marks k n)[j]? = some (.string (markS (k + j))) := by simp [marks, h]
end Go.Proofs.Ytkeimgglikdbfaa

namespace Go.Proofs.Ytkeimgglikdbfaa
open Go.RowKit

abbrev D := Int × ByteArray
def dV (d : D) : Value := .agg #[.int .i64 d.1, .string d.2]
def dirs : List D → List Value
  | [] => []
  | d :: l => .int .i64 d.1 :: .string d.2 :: dirs l
theorem dirs_length : ∀ l : List D, (dirs l).length = l.length * 2
  | [] => rfl
  | d :: l => by simp [dirs, dirs_length l]; omega
theorem dirs_even : ∀ (l : List D) (j : Nat) (h : j < l.length), (dirs l)[j * 2]? = some (.int .i64 l[j].1)
  | d :: l, 0, _ => rfl
  | d :: l, j + 1, h => by
    rw [show (j + 1) * 2 = j * 2 + 1 + 1 by omega]
    simpa [dirs] using dirs_even l j (by simpa using h)
theorem dirs_odd : ∀ (l : List D) (j : Nat) (h : j < l.length), (dirs l)[j * 2 + 1]? = some (.string l[j].2)
  | d :: l, 0, _ => rfl
  | d :: l, j + 1, h => by
    rw [show (j + 1) * 2 + 1 = j * 2 + 1 + 1 + 1 by omega]
    simpa [dirs] using dirs_odd l j (by simpa using h)

/-- As LeftIn, memory having been made. -/
def LeftB (left : Int) (P : Prop) (w : World) (e : Ending) (w' : World) : Prop := ∃ r : Int, e = .returned (.int .i64 r) ∧ Below w.heap.size w w' ∧ (r = -1 ∨ 0 ≤ r ∧ r ≤ left ∧ P)
theorem Try.infoD : (Try.prog.info? 63).map (fun i => (i.zero, i.size, i.bytes)) = some (some (.agg #[.int .i64 0, .string ByteArray.empty]), 2, 24) := by kernel_rfl
theorem own_block' {w : World} {base e g n sz : Nat} {xs : List Value} (h : w.ownsRow base e sz (.slice (some ⟨g, 0, none⟩) n n) n xs) : w.heap[g]? = some (.cells xs.toArray e (0, 0)) := by
  rcases h.2 with ⟨h', _⟩ | ⟨g', cap', cur, h', _, hg, _, _, hs, htake⟩
  · simp at h'
  · simp only [Value.slice.injEq, Option.some.injEq, Addr.mk.injEq, and_true, true_and] at h'
    obtain ⟨rfl, rfl⟩ := h'
    rw [hg, ← htake, List.take_of_length_le (by simp [hs])]
/-- The first k of l laid, the others at zero. -/
def dPart (l : List D) (k j : Nat) : Value := if j < k * 2 then (dirs l).getD j undef else if j % 2 = 0 then .int .i64 0 else .string ByteArray.empty
def DCopyRel (w : World) (l : List D) (i : Value) (wr : World) : Prop :=
  ∃ k : Nat, k ≤ l.length ∧ i = .int .i64 k ∧ CellsAt wr w.heap.size 63 (l.length * 2) (dPart l k) ∧ Below w.heap.size w wr
theorem made_dirs {w1 : World} {g n : Nat} {l : List D} (h : w1.heap[g]? = some (.cells (madeCells #[Value.int .i64 0, Value.string ByteArray.empty] (n * 2)).toList.toArray 63 (0, 0))) : CellsAt w1 g 63 (n * 2) (dPart l 0) := by
  refine cellsAt_list h (n * 2) _ (by simp [madeCells]) (fun j hj => ?_)
  have h2 : j % 2 = 0 ∨ j % 2 = 1 := by omega
  rcases h2 with h2 | h2 <;> simp [madeCells, hj, dPart, h2]

theorem d_laid {w2 : World} {g n k : Nat} {T : TypeId} {l : List D} (h : CellsAt w2 g T n (dPart l k)) (hk : k < l.length) :
    CellsAt ((w2.setCell ⟨g, k * 2, none⟩ (.int .i64 l[k].1)).setCell ⟨g, k * 2 + 1, none⟩ (.string l[k].2)) g T n (dPart l (k + 1)) := by
  refine ((h.set (v' := fun j => if j = k * 2 then .int .i64 l[k].1 else dPart l k j) (k * 2) _ (if_pos rfl) (fun i hi => if_neg hi)).set (v' := fun j => if j = k * 2 + 1 then .string l[k].2 else if j = k * 2 then .int .i64 l[k].1 else dPart l k j) (k * 2 + 1) _ (if_pos rfl) (fun i hi => if_neg hi)).congr fun j _ => ?_
  have e1 := dirs_even l k hk
  have e2 := dirs_odd l k hk
  by_cases h1 : j = k * 2 + 1
  · subst h1; simp [dPart, e2]; try omega
  · by_cases h2 : j = k * 2
    · subst h2; simp [dPart, e1]; try omega
    · simp only [h1, h2, if_false, dPart]
      by_cases h3 : j < k * 2
      · rw [if_pos h3, if_pos (by omega)]
      · rw [if_neg h3, if_neg (by omega)]

def DSizeRel (l : List D) (left : Int) (w : World) (x i : Value) (wr : World) : Prop :=
  ∃ (k : Nat) (r : Int), k ≤ l.length ∧ i = .int .i64 k ∧ x = .int .i64 r ∧ 0 ≤ r ∧ r ≤ left ∧ (∀ j (h : j < l.length), j < k → (l[j].2.size : Int) ≤ left) ∧ Below w.heap.size w wr
def DEqRel (w : World) (n : Nat) (i : Value) (wr : World) : Prop := ∃ k : Nat, k ≤ n ∧ i = .int .i64 k ∧ Below w.heap.size w wr
/-- The mark of cell j: a number where j is even, a text where it is odd. -/
def markCell (k j : Nat) : Value := if j % 2 = 0 then .int .i64 ((k + j : Nat) : Int) else .string (markS (k + j))
def marksD (k n : Nat) : List Value := (List.range (n * 2)).map (markCell k)
def markedD (k i : Nat) (xs : List Value) : List Value := (List.range xs.length).map fun j => if j < i then markCell k j else xs.getD j undef
theorem markedD_length (k i : Nat) (xs : List Value) : (markedD k i xs).length = xs.length := by simp [markedD]
theorem markedD_zero (k : Nat) (xs : List Value) : markedD k 0 xs = xs := by
  apply List.ext_getElem
  · simp [markedD]
  · intro j h1 h2; simp [markedD, h2]
theorem markedD_all (k n : Nat) (xs : List Value) (h : xs.length = n * 2) : markedD k (n * 2) xs = marksD k n := by
  apply List.ext_getElem
  · simp [markedD, marksD, h]
  · intro j h1 h2; simp [markedD, h] at h1; simp [markedD, marksD, h1]
theorem markedD_set (k i : Nat) (xs : List Value) : (markedD k i xs).set i (markCell k i) = markedD k (i + 1) xs := by
  apply List.ext_getElem
  · simp [markedD]
  · intro j h1 h2
    rw [List.getElem_set]
    by_cases hj : i = j
    · subst hj; simp [markedD]
    · rw [if_neg hj]; simp only [markedD, List.getElem_map, List.getElem_range]
      by_cases hji : j < i
      · rw [if_pos hji, if_pos (by omega)]
      · rw [if_neg hji, if_neg (by omega)]
theorem markCell_even (k j : Nat) : markCell k (j * 2) = .int .i64 ((k + j * 2 : Nat) : Int) := by unfold markCell; rw [if_pos (by omega)]
theorem markCell_odd (k j : Nat) : markCell k (j * 2 + 1) = .string (markS (k + j * 2 + 1)) := by unfold markCell; rw [if_neg (by omega)]; rfl
theorem marksD_at (k n j : Nat) (h : j < n * 2) : (marksD k n)[j]? = some (markCell k j) := by simp [marksD, h]

def MarkDRel (lo : Nat) (v : Value) (k n : Nat) (xs : List Value) (w : World) (q i : Value) (wr : World) : Prop :=
  ∃ j : Nat, j ≤ n ∧ q = .int .i64 ((k + j * 2 : Nat) : Int) ∧ i = .int .i64 j ∧ Own wr lo v n 2 (markedD k (j * 2) xs) ∧ w.grownBy wr (blk v n)
theorem Own.cellEx {w : World} {lo n sz c b off : Nat} {xs : List Value} (h : Own w lo (.slice (some ⟨b, off, none⟩) n c) n sz xs) (j : Nat) (hj : j < n * sz) : (∃ v, w.cell? ⟨b, off + j, none⟩ = some v) ∧ w.frozen? ⟨b, off + j, none⟩ = false := by
  have hn : 0 < n := by
    rcases Nat.eq_zero_or_pos n with h0 | h0
    · subst h0; simp at hj
    · exact h0
  obtain ⟨b', off', e, _, _, hc, hf⟩ := h.get hn
  simp only [Option.some.injEq, Addr.mk.injEq, and_true] at e
  obtain ⟨rfl, rfl⟩ := e
  refine ⟨⟨xs[j]'(by rw [h.1]; exact hj), ?_⟩, hf j hj⟩
  rw [hc j hj, List.getElem?_eq_getElem (by rw [h.1]; exact hj)]

def HeldDRel (k n : Nat) (w : World) (q i : Value) (wr : World) : Prop :=
  ∃ j : Nat, j ≤ n ∧ q = .int .i64 ((k + j * 2 : Nat) : Int) ∧ i = .int .i64 j ∧ Below w.heap.size w wr
end Go.Proofs.Ytkeimgglikdbfaa

namespace Go.Proofs.Ytkeimgglikdbfaa
open Go.RowKit

/-- A flash as the mathematics has it. -/
structure FM where
  sec : List ByteArray
  dir : List D
def FRd (w : World) (sv dv : Value) (F : FM) : Prop := Rd w sv F.sec.length 1 (strs F.sec) ∧ Rd w dv F.dir.length 2 (dirs F.dir)
/-- A flash of the call's own; its two slices lie apart. -/
def FOwn (w : World) (lo : Nat) (sv dv : Value) (F : FM) : Prop :=
  Own w lo sv F.sec.length 1 (strs F.sec) ∧ Own w lo dv F.dir.length 2 (dirs F.dir) ∧ ∀ k, blk sv F.sec.length = some k → blk dv F.dir.length ≠ some k
def FMade (w : World) (F : FM) (e : Ending) (w' : World) : Prop := ∃ sv dv, e = .returned (.agg #[sv, dv]) ∧ FOwn w' w.heap.size sv dv F ∧ Below w.heap.size w w'
/-- What a flash may take, and how great its parts are. -/
def FFits (F : FM) : Prop := F.sec.length ≤ 1048576 ∧ F.dir.length ≤ 1048576
def FReach (F : FM) : Prop := F.sec.length ≤ maxLen ∧ F.dir.length ≤ maxLen ∧ (∀ s ∈ F.sec, s.size ≤ maxLen) ∧ ∀ d ∈ F.dir, d.2.size ≤ maxLen
theorem FRd.below {w w' : World} {sv dv : Value} {F : FM} {B : Nat} (h : FRd w sv dv F) (hb : Below B w w') (hB : w.heap.size ≤ B) : FRd w' sv dv F := ⟨h.1.below hb hB, h.2.below hb hB⟩
theorem FOwn.below {w w' : World} {lo : Nat} {sv dv : Value} {F : FM} {B : Nat} (h : FOwn w lo sv dv F) (hb : Below B w w') (hB : w.heap.size ≤ B) : FOwn w' lo sv dv F := ⟨h.1.below hb hB, h.2.1.below hb hB, h.2.2⟩
theorem FOwn.rd {w : World} {lo : Nat} {sv dv : Value} {F : FM} (h : FOwn w lo sv dv F) : FRd w sv dv F := ⟨h.1.rd, h.2.1.rd⟩
theorem FOwn.lower {w : World} {lo lo' : Nat} {sv dv : Value} {F : FM} (h : FOwn w lo sv dv F) (hl : lo' ≤ lo) : FOwn w lo' sv dv F := ⟨h.1.lower hl, h.2.1.lower hl, h.2.2⟩
theorem two_cells {w w1 : World} {K : Nat} {T : TypeId} {a b : Value} (hb : Below K (w.alloc (.cells #[a, b] T)) w1) (hK : w.heap.size < K) : w1.cell? ⟨w.heap.size, 0, none⟩ = some a ∧ w1.cell? ⟨w.heap.size, 1, none⟩ = some b := by
  have hc : ∀ j, w1.cell? ⟨w.heap.size, j, none⟩ = (#[a, b] : Array Value)[j]? := fun j =>
    (hb.cell (p := ⟨w.heap.size, j, none⟩) hK).trans (World.cell?_alloc_new (w := w) #[a, b] T j)
  exact ⟨hc 0, hc 1⟩

/-- A flash all of whose cells are marked from k on. -/
def FMarked (w : World) (lo : Nat) (sv dv : Value) (n m k : Nat) : Prop :=
  Own w lo sv n 1 (marks k n) ∧ Own w lo dv m 2 (marksD (k + n) m) ∧ ∀ j, blk sv n = some j → blk dv m ≠ some j
end Go.Proofs.Ytkeimgglikdbfaa

namespace Go.Proofs.Ytkeimgglikdbfaa
open Go.RowKit

/-- A valid flash. -/
structure Right (F : FM) : Prop where
  least : 1 ≤ F.sec.length
  most : F.sec.length ≤ 40
  dirty : F.dir.length ≤ F.sec.length
  fits : ∀ j (h : j < F.sec.length), F.sec[j].size ≤ 96
  at0 : ∀ j (h : j < F.dir.length), 0 ≤ F.dir[j].1
  at1 : ∀ j (h : j < F.dir.length), F.dir[j].1 ≤ (F.sec.length : Int) - 1
  data : ∀ j (h : j < F.dir.length), F.dir[j].2.size ≤ 96
  once : ∀ i j (h : j < F.dir.length) (hi : i < j), F.dir[i].1 ≠ F.dir[j].1
def RightPost (F : FM) (w : World) (e : Ending) (w' : World) : Prop := ∃ b : Bool, e = .returned (.bool b) ∧ (b = true ↔ Right F) ∧ Below w.heap.size w w'

set_option maxRecDepth 100000 in
set_option maxHeartbeats 400000 in
theorem is_yes (n lo hi : Int) (w : World) (h0 : lo ≤ n) (h1 : n ≤ hi) :
    Calls Try.prog 41 #[.int .i64 n, .int .i64 lo, .int .i64 hi] w fun e w' => e = .returned (.bool true) ∧ w' = w := by
  go_enter Try.func41, Try.ntmps41
  go_wp2
  go_ret
  exact ⟨rfl, rfl⟩
set_option maxRecDepth 100000 in
set_option maxHeartbeats 400000 in
theorem is_no (n lo hi : Int) (w : World) (h : n < lo ∨ lo ≤ n ∧ hi < n) :
    Calls Try.prog 41 #[.int .i64 n, .int .i64 lo, .int .i64 hi] w fun e w' => e = .returned (.bool false) ∧ w' = w := by
  rcases h with h | ⟨h0, h⟩
  · have d0 : decide (lo ≤ n) = false := decide_eq_false (by omega)
    go_enter Try.func41, Try.ntmps41
    go_wp2
    go_ret
    exact ⟨rfl, rfl⟩
  · have d0 : decide (n ≤ hi) = false := decide_eq_false (by omega)
    go_enter Try.func41, Try.ntmps41
    go_wp2
    go_ret
    exact ⟨rfl, rfl⟩

def SecRel (F : FM) (i : Value) : Prop := ∃ k : Nat, k ≤ F.sec.length ∧ i = .int .i64 k ∧ ∀ j (h : j < F.sec.length), j < k → F.sec[j].size ≤ 96
/-- What has been seen of the first k elements of Dirty. -/
structure Seen (F : FM) (k : Nat) : Prop where
  at0 : ∀ j (h : j < F.dir.length), j < k → 0 ≤ F.dir[j].1
  at1 : ∀ j (h : j < F.dir.length), j < k → F.dir[j].1 ≤ (F.sec.length : Int) - 1
  data : ∀ j (h : j < F.dir.length), j < k → F.dir[j].2.size ≤ 96
  once : ∀ i j (h : j < F.dir.length) (hi : i < j), j < k → F.dir[i].1 ≠ F.dir[j].1
def DirRel (F : FM) (W : World) (i : Value) (wr : World) : Prop := ∃ k : Nat, k ≤ F.dir.length ∧ i = .int .i64 k ∧ Seen F k ∧ Still W wr
def OnceRel (F : FM) (k : Nat) (h : k < F.dir.length) (W : World) (i : Value) (wr : World) : Prop := ∃ m : Nat, m ≤ k ∧ i = .int .i64 m ∧ (∀ j (hj : j < k), j < m → F.dir[j].1 ≠ F.dir[k].1) ∧ Still W wr

set_option maxHeartbeats 2000000 in
set_option maxRecDepth 100000 in
theorem specRight (sv dv : Value) (F : FM) (w : World) (h : FRd w sv dv F) (hf : FFits F) (hs : ∀ s ∈ F.sec, s.size ≤ 1048576) (hd : ∀ d ∈ F.dir, d.2.size ≤ 1048576) :
    Calls Try.prog 24 #[.agg #[sv, dv]] w (RightPost F w) := by
  obtain ⟨f1, f2⟩ := hf
  have hb := (Below.refl w.heap.size w).alloc (Nat.le_refl _) (.cells #[sv, dv] 26)
  have H := Lib.hid (h.below hb (Nat.le_refl _))
  obtain ⟨⟨-, a, c, rfl, h1⟩, ⟨-, a', c', rfl, h2⟩⟩ := h
  have HB := Lib.hid hb
  have HS := Lib.hid hs
  have HD := Lib.hid hd
  clear h1 h2 hb hs hd
  by_cases hA : 1 ≤ F.sec.length ∧ F.sec.length ≤ 40 ∧ F.dir.length ≤ F.sec.length
  · obtain ⟨g1, g2, g3⟩ := hA
    have d1 : decide ((F.sec.length : Int) < 1) = false := decide_eq_false (by omega)
    have d2 : decide ((40 : Int) < (F.sec.length : Int)) = false := decide_eq_false (by omega)
    have d3 : decide (F.sec.length < F.dir.length) = false := decide_eq_false (by omega)
    go_enter Try.func24, Try.ntmps24
    go_wp2_with fail
    have c0 : (w.alloc (.cells #[.slice a F.sec.length c, .slice a' F.dir.length c'] 26)).cell? ⟨w.heap.size, 0, none⟩ = some (.slice a F.sec.length c) := by rw [World.cell?_alloc_new]; rfl
    have c1 : (w.alloc (.cells #[.slice a F.sec.length c, .slice a' F.dir.length c'] 26)).cell? ⟨w.heap.size, 1, none⟩ = some (.slice a' F.dir.length c') := by rw [World.cell?_alloc_new]; rfl
    have hzW : w.heap.size < (w.alloc (.cells #[.slice a F.sec.length c, .slice a' F.dir.length c'] 26)).heap.size := by simp
    generalize w.alloc (.cells #[.slice a F.sec.length c, .slice a' F.dir.length c'] 26) = W at *
    go_loop [3] (fun i => SecRel F i) (fun i => F.sec.length - (intOf i).toNat)
    case atStart => exact ⟨0, by omega, rfl, fun j _ hj => absurd hj (by omega)⟩
    case round =>
      obtain ⟨k, hk, rfl, hseen⟩ := hrel
      have SEEN := Lib.hid hseen
      clear hseen
      by_cases hlt : k < F.sec.length
      · obtain ⟨b, off, rfl, hbl, hc⟩ := H.out.1.get (by omega)
        have hcell : W.cell? ⟨b, off + k, none⟩ = some (.string F.sec[k]) := by rw [hc k (by omega), strs_at _ k hlt]
        have hsk := HS.out F.sec[k] (List.getElem_mem hlt)
        clear hc
        by_cases hbig : 96 < F.sec[k].size
        · go_wp2_with fail
          go_ret
          exact ⟨false, rfl, ⟨(fun e => by cases e), fun r => absurd (r.fits k hlt) (by omega)⟩, HB.out⟩
        · go_wp2_with fail
          go_round
          case rel =>
            refine ⟨k + 1, by omega, by go_num, fun j h hj => ?_⟩
            by_cases hjk : j = k
            · subst hjk; omega
            · exact SEEN.out j h (by omega)
          case measure => simp [intOf]; omega
      · obtain rfl : k = F.sec.length := by omega
        have FITS := Lib.hid (show ∀ j (h : j < F.sec.length), F.sec[j].size ≤ 96 from fun j h => SEEN.out j h h)
        clear SEEN hlt hk
        go_wp2_with fail
        go_loopw [4] (fun i wr => DirRel F W i wr) (fun i _ => F.dir.length - (intOf i).toNat)
        case atStart => exact ⟨0, by omega, rfl, ⟨fun j _ hj => absurd hj (by omega), fun j _ hj => absurd hj (by omega), fun j _ hj => absurd hj (by omega), fun i j _ _ hj => absurd hj (by omega)⟩, Still.refl W⟩
        case round =>
          obtain ⟨k, hk, rfl, hseen, hst⟩ := hrel
          have SEEN := Lib.hid hseen
          have c0' : wr.cell? ⟨w.heap.size, 0, none⟩ = _ := ((hst.below W.heap.size).cell (p := ⟨w.heap.size, 0, none⟩) hzW).trans c0
          have c1' : wr.cell? ⟨w.heap.size, 1, none⟩ = _ := ((hst.below W.heap.size).cell (p := ⟨w.heap.size, 1, none⟩) hzW).trans c1
          clear hseen
          by_cases hlt : k < F.dir.length
          · obtain ⟨b, off, rfl, hbl, hc⟩ := H.out.2.get (by omega)
            have hcW0 : W.cell? ⟨b, off + k * 2, none⟩ = some (.int .i64 F.dir[k].1) := by rw [hc (k * 2) (by omega), dirs_even _ k hlt]
            have hcW1 : W.cell? ⟨b, off + k * 2 + 1, none⟩ = some (.string F.dir[k].2) := by rw [Nat.add_assoc, hc (k * 2 + 1) (by omega), dirs_odd _ k hlt]
            have hc0 := ((hst.below W.heap.size).cell (p := ⟨b, off + k * 2, none⟩) hbl).trans hcW0
            have hc1 := ((hst.below W.heap.size).cell (p := ⟨b, off + k * 2 + 1, none⟩) hbl).trans hcW1
            have hsk := HD.out F.dir[k] (List.getElem_mem hlt)
            have HC := Lib.hid hc
            have HST := Lib.hid hst
            clear hc hst hcW0 hcW1
            have e0 : (k : Int) < (F.dir.length : Int) := by omega
            have e1 : (0 : Int) ≤ (k : Int) := by omega
            have m0 : IntKind.i64.wrap ((F.sec.length : Int) - 1) = (F.sec.length : Int) - 1 := IntWalk.i64_in _ (by omega)
            by_cases hin : 0 ≤ F.dir[k].1 ∧ F.dir[k].1 ≤ (F.sec.length : Int) - 1
            · obtain ⟨i0, i1⟩ := hin
              by_cases hbig : 96 < F.dir[k].2.size
              · go_wp2_with fail
                go_quiet ((go_at_call 41; exact Calls.quiet_of_same (is_yes _ _ _ _ i0 i1)))
                go_wp2_with fail
                go_ret
                exact ⟨false, rfl, ⟨(fun e => by cases e), fun r => absurd (r.data k hlt) (by omega)⟩, HB.out.trans ((below_drewN (HST.out.below _) _).mono (Nat.le_of_lt hzW))⟩
              · go_wp2_with fail
                go_quiet ((go_at_call 41; exact Calls.quiet_of_same (is_yes _ _ _ _ i0 i1)))
                have HST2 := Lib.hid (show Still W (wr.drewN nq) from HST.out.trans ⟨nq, rfl⟩)
                clear c0' c1' hc0 hc1 m0 HST
                go_wp2_with fail
                go_loopw [5] (fun i wr => OnceRel F k hlt W i wr) (fun i _ => k - (intOf i).toNat)
                case atStart => exact ⟨0, by omega, rfl, fun j _ hj => absurd hj (by omega), HST2.out⟩
                case round =>
                  clear HST2
                  obtain ⟨m, hm, rfl, honce, hst⟩ := hrel
                  have ONCE := Lib.hid honce
                  clear honce
                  have c0' : wr.cell? ⟨w.heap.size, 0, none⟩ = _ := ((hst.below W.heap.size).cell (p := ⟨w.heap.size, 0, none⟩) hzW).trans c0
                  have c1' : wr.cell? ⟨w.heap.size, 1, none⟩ = _ := ((hst.below W.heap.size).cell (p := ⟨w.heap.size, 1, none⟩) hzW).trans c1
                  by_cases hmk : m < k
                  · have hcm : wr.cell? ⟨b, off + m * 2, none⟩ = some (.int .i64 F.dir[m].1) := by
                      rw [(hst.below W.heap.size).cell (p := ⟨b, off + m * 2, none⟩) hbl, HC.out (m * 2) (by omega), dirs_even _ m (by omega)]
                    have hck : wr.cell? ⟨b, off + k * 2, none⟩ = some (.int .i64 F.dir[k].1) := by
                      rw [(hst.below W.heap.size).cell (p := ⟨b, off + k * 2, none⟩) hbl, HC.out (k * 2) (by omega), dirs_even _ k hlt]
                    have HST := Lib.hid hst
                    clear hst
                    have e2 : (m : Int) < (F.dir.length : Int) := by omega
                    have e3 : (0 : Int) ≤ (m : Int) := by omega
                    by_cases heq : F.dir[m].1 = F.dir[k].1
                    · have d4 : (F.dir[m].1 == F.dir[k].1) = true := by simpa using heq
                      have HEQ := Lib.hid heq
                      clear heq
                      go_wp2_with fail
                      go_quiet (fail)
                      go_wp2_with fail
                      go_ret
                      exact ⟨false, rfl, ⟨(fun e => by cases e), fun r => absurd HEQ.out (r.once m k hlt hmk)⟩, HB.out.trans ((below_drewN (HST.out.below _) _).mono (Nat.le_of_lt hzW))⟩
                    · have d4 : (F.dir[m].1 == F.dir[k].1) = false := by simpa using heq
                      have HEQ := Lib.hid heq
                      clear heq
                      go_wp2_with fail
                      go_quiet (fail)
                      go_wp2_with fail
                      go_roundw
                      case rel =>
                        have fin : OnceRel F k hlt W (.int .i64 ((m : Int) + 1)) (wr.drewN nq) := by
                          refine ⟨m + 1, by omega, by go_num, fun j hj hjm => ?_, HST.out.trans ⟨_, rfl⟩⟩
                          by_cases hjm' : j = m
                          · subst hjm'; exact HEQ.out
                          · exact ONCE.out j hj (by omega)
                        first | exact fin | ((repeat apply Exists.intro); exact ⟨fin, rfl⟩)
                      case measure => simp [intOf]; omega
                  · obtain rfl : m = k := by omega
                    have HST := Lib.hid hst
                    clear hst c0' c1'
                    go_wp2_with fail
                    go_roundw
                    case rel =>
                      have fin : DirRel F W (.int .i64 ((m : Int) + 1)) wr := by
                        refine ⟨m + 1, by omega, by go_num, ?_, HST.out⟩
                        have S := SEEN.out
                        refine ⟨fun j h hj => ?_, fun j h hj => ?_, fun j h hj => ?_, fun i j h hi hj => ?_⟩ <;> (by_cases hjk : j = m)
                        · subst hjk; exact i0
                        · exact S.at0 j h (by omega)
                        · subst hjk; exact i1
                        · exact S.at1 j h (by omega)
                        · subst hjk; omega
                        · exact S.data j h (by omega)
                        · subst hjk; exact ONCE.out i hi hi
                        · exact S.once i j h hi (by omega)
                      first | exact fin | ((repeat apply Exists.intro); exact ⟨fin, rfl⟩)
                    case measure => simp [intOf]; omega
            · have hout : F.dir[k].1 < 0 ∨ 0 ≤ F.dir[k].1 ∧ (F.sec.length : Int) - 1 < F.dir[k].1 := by omega
              have HOUT := Lib.hid hout
              have HIN := Lib.hid hin
              clear hout hin
              go_wp2_with fail
              go_quiet ((go_at_call 41; exact Calls.quiet_of_same (is_no _ _ _ _ HOUT.out)))
              go_wp2_with fail
              go_ret
              exact ⟨false, rfl, ⟨(fun e => by cases e), fun r => absurd ⟨r.at0 k hlt, r.at1 k hlt⟩ HIN.out⟩, HB.out.trans ((below_drewN (HST.out.below _) _).mono (Nat.le_of_lt hzW))⟩
          · obtain rfl : k = F.dir.length := by omega
            have HST := Lib.hid hst
            clear hst
            go_wp2_with fail
            go_ret
            have S := SEEN.out
            exact ⟨true, rfl, ⟨fun _ => ⟨g1, g2, g3, FITS.out, fun j h => S.at0 j h h, fun j h => S.at1 j h h, fun j h => S.data j h h, fun i j h hi => S.once i j h hi h⟩, fun _ => rfl⟩, HB.out.trans ((HST.out.below _).mono (Nat.le_of_lt hzW))⟩
  · have HA := Lib.hid hA
    have nope : ∀ r : Right F, False := fun r => HA.out ⟨r.least, r.most, r.dirty⟩
    have NO := Lib.hid nope
    clear nope
    by_cases h1 : F.sec.length < 1
    · clear hA HA
      go_enter Try.func24, Try.ntmps24
      go_wp2_with fail
      go_ret
      exact ⟨false, rfl, ⟨(fun e => by cases e), fun r => (NO.out r).elim⟩, HB.out⟩
    · by_cases h2 : 40 < F.sec.length
      · clear hA HA
        have d1 : decide ((F.sec.length : Int) < 1) = false := decide_eq_false (by omega)
        go_enter Try.func24, Try.ntmps24
        go_wp2_with fail
        go_ret
        exact ⟨false, rfl, ⟨(fun e => by cases e), fun r => (NO.out r).elim⟩, HB.out⟩
      · have h3 : F.sec.length < F.dir.length := by omega
        have d1 : decide ((F.sec.length : Int) < 1) = false := decide_eq_false (by omega)
        have d2 : decide ((40 : Int) < (F.sec.length : Int)) = false := decide_eq_false (by omega)
        clear hA HA
        go_enter Try.func24, Try.ntmps24
        go_wp2_with fail
        go_ret
        exact ⟨false, rfl, ⟨(fun e => by cases e), fun r => (NO.out r).elim⟩, HB.out⟩
end Go.Proofs.Ytkeimgglikdbfaa

namespace Go.Proofs.Ytkeimgglikdbfaa
open Go.RowKit

/-- Its run, the source read as xs. -/
theorem run_append_copy {P : Program} (w : World) (t ty e : TypeId) (i : TypeInfo) (z : Value) (sz bytes : Nat) (ht : P.underlying t = some (.slice e)) (hi : P.info? e = some i) (hz : i.zero = some z) (hsize : i.size = sz) (hby : i.bytes = bytes) (hzs : z.cells.size = sz) (hsz : 0 < sz)
    (g : Addr) (src : Value) (n : Nat) (xs : List Value) (hr : Rd w src n sz xs) (h63 : n ≤ maxLen) (hbytes : n * bytes ≤ 140737488355328) :
    ∃ v' w', (Builtin.append_ #[t, t] ty #[.slice (some g) 0 0, src]).run P w = .ok v' w' ∧ Own w' w.heap.size v' n sz xs ∧ w.grownBy w' none := by
  obtain ⟨hl, a, c, rfl, hc⟩ := hr
  by_cases h0 : 0 < n
  · obtain ⟨b, off, rfl, hbl, hcell⟩ := hc h0
    obtain ⟨v', w', h1, h2, h3⟩ := run_append_arg_grows (P := P) w t ty e i z sz bytes ht hi hz hsize hby hzs hsz g 0 0 [] (by simp) (by simp) ⟨b, off, none⟩ n c xs hl (fun j u hj => by
      have hj' : j < n * sz := by have := (List.getElem?_eq_some_iff.1 hj).1; omega
      rw [Addr.add_lit, hcell j hj', hj]) (by omega) (by omega) (by rw [Nat.zero_add]; exact hbytes)
    refine ⟨v', w', h1, ?_, h3⟩
    have := own_of_row h2
    simpa using this
  · obtain rfl : n = 0 := by omega
    have hx : xs = [] := List.eq_nil_of_length_eq_zero (by omega)
    subst hx
    refine ⟨.slice (some g) 0 0, w, ?_, ⟨by simp, _, _, rfl, fun h => absurd h (Nat.lt_irrefl 0)⟩, World.grownBy.refl w none⟩
    cases hsize
    have hfc : (Builtin.firstCells i.size 0 (.slice a 0 c)).run P w = .ok #[] w := by
      cases a with
      | none => exact run_firstCells_none w i.size 0 0 c
      | some a => exact run_firstCells_some w i.size 0 a 0 c [] (by simp) (by simp)
    simp [Builtin.append_, run_underlying ht, sizeOf, typeInfo, hi, Builtin.lenOf, Result.andThen, hfc, storeCells]
/-- For a region that draws. -/
theorem step_append_copy {P : Program} {w : World} {ops : Array Oper} {o : Oper} {a : Act} {K : Act → World → Prop} {Q : Exit → Act → World → Prop} {E : Prop} (hgd : o.guard = none) (s x : Operand) (t : TypeId)
    (ho : o.op = .call { callee := .builtin .append, args := #[s, x], argTypes := #[t, t] })
    (e : TypeId) (i : TypeInfo) (z : Value) (sz bytes : Nat) (ht : P.underlying t = some (.slice e)) (hi : P.info? e = some i) (hz : i.zero = some z) (hsize : i.size = sz) (hby : i.bytes = bytes) (hzs : z.cells.size = sz) (hsz : 0 < sz)
    (g : Addr) (hs : a.eval s = .slice (some g) 0 0) (src : Value) (hx : a.eval x = src) (n : Nat) (xs : List Value) (hr : Rd w src n sz xs) (h63 : n ≤ maxLen) (hbytes : n * bytes ≤ 140737488355328)
    (h : ∀ ad cap w', Own w' w.heap.size (.slice ad n cap) n sz xs → Below w.heap.size w w' → K (a.put o.dst (.slice ad n cap)) w') :
    if Region.wanted o (yielded ops a.tmps) = true then Oper.wp P o a w K Q else E := by
  have hw : Region.wanted o (yielded ops a.tmps) = true := by simp [Region.wanted, hgd]
  rw [if_pos hw]
  obtain ⟨v', w', hrun, h1, h2⟩ := run_append_copy (P := P) w t o.type e i z sz bytes ht hi hz hsize hby hzs hsz g src n xs hr h63 hbytes
  obtain ⟨ad, cap, rfl, _⟩ := id h1.2
  unfold Oper.wp
  simp [execOp, ho, resolve, invoke, builtin, hs, hx, hrun, Result.andThen]
  exact h ad cap w' h1 ⟨h2.os, h2.tape, h2.output, h2.size, fun k hk => h2.block k hk (by simp)⟩

theorem keep_alloc {W w1 : World} (hb : Below W.heap.size W w1) (o : Obj) : Below W.heap.size W (w1.alloc o) := hb.alloc hb.size o
theorem keep_next {W w1 w2 : World} (hb : Below W.heap.size W w1) (hn : Below w1.heap.size w1 w2) : Below W.heap.size W w2 := hb.trans (hn.mono hb.size)
theorem keepN {W w1 w2 : World} {n : Nat} {sv dv : Value} (hz : n + 2 ≤ W.heap.size) (hn : Below w1.heap.size w1 w2) (h : w1.cell? ⟨n, 0, none⟩ = some sv ∧ w1.cell? ⟨n, 1, none⟩ = some dv ∧ (w1.cell? ⟨n + 1, 0, none⟩).isSome = true ∧ (w1.cell? ⟨n + 1, 1, none⟩).isSome = true ∧ w1.frozen? ⟨n + 1, 0, none⟩ = false ∧ w1.frozen? ⟨n + 1, 1, none⟩ = false ∧ Below (n + 1) W w1) :
    w2.cell? ⟨n, 0, none⟩ = some sv ∧ w2.cell? ⟨n, 1, none⟩ = some dv ∧ (w2.cell? ⟨n + 1, 0, none⟩).isSome = true ∧ (w2.cell? ⟨n + 1, 1, none⟩).isSome = true ∧ w2.frozen? ⟨n + 1, 0, none⟩ = false ∧ w2.frozen? ⟨n + 1, 1, none⟩ = false ∧ Below (n + 1) W w2 := by
  obtain ⟨h0, h1, h2, h3, h4, h5, h6⟩ := h
  have hs := h6.size
  exact ⟨(hn.cell (p := ⟨n, 0, none⟩) (by simp; omega)).trans h0, (hn.cell (p := ⟨n, 1, none⟩) (by simp; omega)).trans h1, (hn.cell (p := ⟨n + 1, 0, none⟩) (by simp; omega)).symm ▸ h2, (hn.cell (p := ⟨n + 1, 1, none⟩) (by simp; omega)).symm ▸ h3, (hn.frozen (p := ⟨n + 1, 0, none⟩) (by simp; omega)).trans h4, (hn.frozen (p := ⟨n + 1, 1, none⟩) (by simp; omega)).trans h5, h6.trans (hn.mono (by omega))⟩
theorem alloc_below (w : World) (o : Obj) : Below w.heap.size w (w.alloc o) := (Below.refl _ w).alloc (Nat.le_refl _) o
theorem drew_below (w : World) : Below w.heap.size w w.drew := (Below.refl _ w).drew
theorem keepSet {W w1 : World} {n : Nat} {sv dv x y : Value} (h : w1.cell? ⟨n, 0, none⟩ = some sv ∧ w1.cell? ⟨n, 1, none⟩ = some dv ∧ (w1.cell? ⟨n + 1, 0, none⟩).isSome = true ∧ (w1.cell? ⟨n + 1, 1, none⟩).isSome = true ∧ w1.frozen? ⟨n + 1, 0, none⟩ = false ∧ w1.frozen? ⟨n + 1, 1, none⟩ = false ∧ Below (n + 1) W w1) :
    ((w1.setCell ⟨n + 1, 0, none⟩ x).setCell ⟨n + 1, 1, none⟩ y).cell? ⟨n, 0, none⟩ = some sv ∧ ((w1.setCell ⟨n + 1, 0, none⟩ x).setCell ⟨n + 1, 1, none⟩ y).cell? ⟨n, 1, none⟩ = some dv ∧ (((w1.setCell ⟨n + 1, 0, none⟩ x).setCell ⟨n + 1, 1, none⟩ y).cell? ⟨n + 1, 0, none⟩).isSome = true ∧ (((w1.setCell ⟨n + 1, 0, none⟩ x).setCell ⟨n + 1, 1, none⟩ y).cell? ⟨n + 1, 1, none⟩).isSome = true ∧ ((w1.setCell ⟨n + 1, 0, none⟩ x).setCell ⟨n + 1, 1, none⟩ y).frozen? ⟨n + 1, 0, none⟩ = false ∧ ((w1.setCell ⟨n + 1, 0, none⟩ x).setCell ⟨n + 1, 1, none⟩ y).frozen? ⟨n + 1, 1, none⟩ = false ∧ Below (n + 1) W ((w1.setCell ⟨n + 1, 0, none⟩ x).setCell ⟨n + 1, 1, none⟩ y) := by
  obtain ⟨h0, h1, h2, h3, h4, h5, h6⟩ := h
  refine ⟨?_, ?_, ?_, ?_, by simpa using h4, by simpa using h5, (h6.setCell (p := ⟨n + 1, 0, none⟩) (Nat.le_refl _) x).setCell (p := ⟨n + 1, 1, none⟩) (Nat.le_refl _) y⟩
  · rw [World.cell?_setCell_other (h := by simp), World.cell?_setCell_other (h := by simp)]; exact h0
  · rw [World.cell?_setCell_other (h := by simp), World.cell?_setCell_other (h := by simp)]; exact h1
  · rw [World.cell?_setCell_other (h := by simp), World.cell?_setCell_same' w1 _ x h2]; rfl
  · rw [World.cell?_setCell_same' _ _ y (by rw [World.cell?_setCell_other (h := by simp)]; exact h3)]; rfl

set_option maxHeartbeats 2000000 in
set_option maxRecDepth 100000 in
theorem specCopy (sv dv : Value) (F : FM) (w : World) (h : FRd w sv dv F) (hf : FFits F) :
    Calls Try.prog 44 #[.agg #[sv, dv]] w (FMade w F) := by
  obtain ⟨i0, hi, hz0, hz1, hz2⟩ := info_parts Try.info9
  obtain ⟨j0, hj, hy0, hy1, hy2⟩ := info_parts Try.infoD
  obtain ⟨f1, f2⟩ := hf
  have HR := Lib.hid h
  clear h
  go_enter Try.func44, Try.ntmps44
  go_wp2_with fail
  have hb2 : Below w.heap.size w ((w.alloc (.cells #[sv, dv] 26)).alloc (.cells #[.slice none 0 0, .slice none 0 0] 26)) := ((Below.refl _ w).alloc (Nat.le_refl _) _).alloc (by simp) _
  have c0 : ((w.alloc (.cells #[sv, dv] 26)).alloc (.cells #[.slice none 0 0, .slice none 0 0] 26)).cell? ⟨w.heap.size, 0, none⟩ = some sv := by rw [cell_of_row _ _ _ _ _ _ (heap_alloc2_old w _ _)]; rfl
  have c1 : ((w.alloc (.cells #[sv, dv] 26)).alloc (.cells #[.slice none 0 0, .slice none 0 0] 26)).cell? ⟨w.heap.size, 1, none⟩ = some dv := by rw [cell_of_row _ _ _ _ _ _ (heap_alloc2_old w _ _)]; rfl
  have r0 : ((w.alloc (.cells #[sv, dv] 26)).alloc (.cells #[.slice none 0 0, .slice none 0 0] 26)).cell? ⟨w.heap.size + 1, 0, none⟩ = some (.slice none 0 0) := by rw [cell_of_row _ _ _ _ _ _ (heap_alloc2_new w _ _)]; rfl
  have r1 : ((w.alloc (.cells #[sv, dv] 26)).alloc (.cells #[.slice none 0 0, .slice none 0 0] 26)).cell? ⟨w.heap.size + 1, 1, none⟩ = some (.slice none 0 0) := by rw [cell_of_row _ _ _ _ _ _ (heap_alloc2_new w _ _)]; rfl
  have s0 := frozen_of_row _ (w.heap.size + 1) 0 _ _ (heap_alloc2_new w (.cells #[sv, dv] 26) (.cells #[.slice none 0 0, .slice none 0 0] 26))
  have s1 := frozen_of_row _ (w.heap.size + 1) 1 _ _ (heap_alloc2_new w (.cells #[sv, dv] 26) (.cells #[.slice none 0 0, .slice none 0 0] 26))
  have hzW : w.heap.size + 2 ≤ ((w.alloc (.cells #[sv, dv] 26)).alloc (.cells #[.slice none 0 0, .slice none 0 0] 26)).heap.size := by simp
  generalize ((w.alloc (.cells #[sv, dv] 26)).alloc (.cells #[.slice none 0 0, .slice none 0 0] 26)) = W at *
  have HB2 := Lib.hid hb2
  clear hb2
  go_region_held3 (fun w' => w'.cell? ⟨w.heap.size, 0, none⟩ = some sv ∧ w'.cell? ⟨w.heap.size, 1, none⟩ = some dv ∧ (w'.cell? ⟨w.heap.size + 1, 0, none⟩).isSome = true ∧ (w'.cell? ⟨w.heap.size + 1, 1, none⟩).isSome = true ∧ w'.frozen? ⟨w.heap.size + 1, 0, none⟩ = false ∧ w'.frozen? ⟨w.heap.size + 1, 1, none⟩ = false ∧ Below (w.heap.size + 1) W w')
    (first | (exact keepN hzW (drew_below W) ⟨c0, c1, by rw [r0]; rfl, by rw [r1]; rfl, s0, s1, Below.refl _ _⟩) | (go_split_ands; first | (exact keepN hzW hbm ⟨by assumption, by assumption, by assumption, by assumption, by assumption, by assumption, by assumption⟩) | (exact keepN hzW hbn ⟨by assumption, by assumption, by assumption, by assumption, by assumption, by assumption, by assumption⟩) | (exact keepN hzW (alloc_below _ _) ⟨by assumption, by assumption, by assumption, by assumption, by assumption, by assumption, by assumption⟩) | (exact keepSet ⟨by assumption, by assumption, by assumption, by assumption, by assumption, by assumption, by assumption⟩)))
    (first | (go_split_ands; refine step_append_copy (by rfl) (.tmp 3) (.tmp 5) _ (by rfl) 9 i0 _ 1 16 Try.underlying23 hi hz0 hz1 hz2 rfl (by decide) _ (by rfl) sv (by rfl) F.sec.length (strs F.sec) (HR.out.1.below (HB2.out.trans (Below.mono (B := w.heap.size + 1) (by assumption) (Nat.le_succ _))) (Nat.le_refl _)) (by unfold maxLen; omega) (by omega) ?_; intro ad1 cap1 w1 ho1' hbn; have ho1 := ho1'.lower (show w.heap.size + 2 ≤ _ from Nat.le_trans hzW (Below.size (B := w.heap.size + 1) (by assumption))); clear ho1') | (go_split_ands; refine step_append_copy (by rfl) (.tmp 7) (.tmp 9) _ (by rfl) 63 j0 _ 2 24 Try.underlying24 hj hy0 hy1 hy2 rfl (by decide) _ (by rfl) dv (by rfl) F.dir.length (dirs F.dir) (HR.out.2.below (HB2.out.trans (Below.mono (B := w.heap.size + 1) (by assumption) (Nat.le_succ _))) (Nat.le_refl _)) (by unfold maxLen; omega) (by omega) ?_; intro ad2 cap2 w2 ho2' hbm; have ho2 := ho2'.lower (show w.heap.size + 2 ≤ _ from Nat.le_trans hzW (Below.size (B := w.heap.size + 1) (by assumption))); obtain ⟨-, -, q0, q1, -, -, -⟩ := keepN hzW hbm ⟨by assumption, by assumption, by assumption, by assumption, by assumption, by assumption, by assumption⟩; obtain ⟨x0, hx0⟩ := Option.isSome_iff_exists.1 q0; obtain ⟨x1, hx1⟩ := Option.isSome_iff_exists.1 q1; have hne : ∀ k, blk (.slice ad1 F.sec.length cap1) F.sec.length = some k → blk (.slice ad2 F.dir.length cap2) F.dir.length ≠ some k := (fun k h1 h2 => by (have e1 := (ho1.blk k h1).2; have e2 := (ho2'.blk k h2).1; first | omega | (simp at e2; omega))); have ho1w : Own w2 (w.heap.size + 2) (.slice ad1 F.sec.length cap1) F.sec.length 1 (strs F.sec) := (by first | exact ho1.below hbm (Nat.le_refl _) | exact (ho1.below (alloc_below _ _) (Nat.le_refl _)).below hbm (Nat.le_refl _)); have HNE := Lib.hid hne; have HO1 := Lib.hid ho1w; have HO2 := Lib.hid ho2; clear hne ho1w ho2 ho2' q0 q1))
  all_goals (
    go_split_ands
    have HBF := Lib.hid (show Below w.heap.size w ((w2.setCell ⟨w.heap.size + 1, 0, none⟩ (.slice ad1 F.sec.length cap1)).setCell ⟨w.heap.size + 1, 1, none⟩ (.slice ad2 F.dir.length cap2)) from HB2.out.trans (Below.mono (B := w.heap.size + 1) (by assumption) (Nat.le_succ _)))
    go_wp2_with fail
    refine bodyPost_ret (v := .agg #[.slice ad1 F.sec.length cap1, .slice ad2 F.dir.length cap2]) (by simp [results, Try.results44, go_sem, hx0, hx1]) rfl ⟨_, _, rfl, ⟨?_, ?_, HNE.out⟩, HBF.out⟩
    · refine Own.other (Own.other (HO1.out.lower (by omega)) _ _ (fun k hk => ?_)) _ _ (fun k hk => ?_) <;> (have := (HO1.out.blk k hk).1; simp; omega)
    · refine Own.other (Own.other (HO2.out.lower (by omega)) _ _ (fun k hk => ?_)) _ _ (fun k hk => ?_) <;> (have := (HO2.out.blk k hk).1; simp; omega))
end Go.Proofs.Ytkeimgglikdbfaa

namespace Go.Proofs.Ytkeimgglikdbfaa
open Go.RowKit

/-- An answer over a flash. -/
structure OM where
  fl : FM
  data : ByteArray
  code : Int
def OMade (w : World) (O : OM) (e : Ending) (w' : World) : Prop := ∃ sv dv, e = .returned (.agg #[sv, dv, .string O.data, .int .i64 O.code]) ∧ FOwn w' w.heap.size sv dv O.fl ∧ Below w.heap.size w w'
def noFlash : FM := ⟨[], []⟩
def illOf (code : Int) : OM := ⟨noFlash, ByteArray.empty, code⟩
theorem own_nil (w : World) (lo sz : Nat) (a : Option Addr) (c : Nat) : Own w lo (.slice a 0 c) 0 sz [] := ⟨by simp, _, _, rfl, fun h => absurd h (Nat.lt_irrefl 0)⟩
theorem noFlash_own (w : World) (lo : Nat) : FOwn w lo (.slice none 0 0) (.slice none 0 0) noFlash := ⟨own_nil w lo 1 none 0, own_nil w lo 2 none 0, fun k hk => by simp [blk, noFlash] at hk⟩

set_option maxRecDepth 100000 in
set_option maxHeartbeats 1000000 in
theorem specIll (code : Int) (w : World) : Calls Try.prog 40 #[.int .i64 code] w (OMade w (illOf code)) := by
  go_enter Try.func40, Try.ntmps40
  go_wp2_with fail
  refine bodyPost_ret (v := .agg #[.slice none 0 0, .slice none 0 0, .string { data := #[] }, .int .i64 code]) (by simp [results, Try.results40, go_sem]) rfl ⟨_, _, rfl, noFlash_own _ _, (Below.refl _ w).alloc (Nat.le_refl _) _⟩
def freshOf (n : Int) : FM := if 1 ≤ n ∧ n ≤ 40 then ⟨List.replicate n.toNat ByteArray.empty, []⟩ else noFlash
set_option maxHeartbeats 1000000 in
set_option maxRecDepth 100000 in
theorem specNew (n : Int) (w : World) : Calls Try.prog 20 #[.int .i64 n] w (FMade w (freshOf n)) := by
  obtain ⟨i0, hi, hz0, hz1, hz2⟩ := info_parts Try.info9
  by_cases h : 1 ≤ n ∧ n ≤ 40
  · have e : freshOf n = ⟨List.replicate n.toNat ByteArray.empty, []⟩ := if_pos h
    rw [e]
    obtain ⟨h0, h1⟩ := h
    obtain ⟨m, rfl⟩ : ∃ m : Nat, n = m := ⟨n.toNat, by omega⟩
    clear e
    go_enter Try.func20, Try.ntmps20
    go_wp2_with fail
    refine (is_yes m 1 40 _ h0 h1).mono ?_
    rintro e w1 ⟨rfl, rfl⟩
    go_wp2_with (at_make; refine wpList_make_full _ rfl _ _ 23 rfl (w.heap.size + 1) 9 i0 (.string ByteArray.empty) 1 Try.underlying23 hi hz0 hz1 .i64 .i64 _ _ m rfl rfl rfl rfl (by rw [hz2]; omega) (by unfold maxLen; omega) (by simp) ?_)
    intro w1 hown1 hgrow1
    have hb1 : Below (w.heap.size + 1) (w.alloc (.cells #[.slice none 0 0, .slice none 0 0] 26)) w1 := (Below.refl _ _).grown hgrow1 (by simp) (by simp)
    obtain ⟨k0, k1⟩ := two_cells hb1 (Nat.lt_succ_self _)
    have z0 : w1.frozen? ⟨w.heap.size, 0, none⟩ = false := (hb1.frozen (p := ⟨w.heap.size, 0, none⟩) (Nat.lt_succ_self _)).trans (frozen_of_row _ w.heap.size 0 _ _ (heap_alloc_new w _))
    have z1 : w1.frozen? ⟨w.heap.size, 1, none⟩ = false := (hb1.frozen (p := ⟨w.heap.size, 1, none⟩) (Nat.lt_succ_self _)).trans (frozen_of_row _ w.heap.size 1 _ _ (heap_alloc_new w _))
    have ho := own_of_row hown1
    rw [toList_madeCells_one] at ho
    have HO := Lib.hid ho
    have HB := Lib.hid (((Below.refl w.heap.size w).alloc (Nat.le_refl _) (.cells #[.slice none 0 0, .slice none 0 0] 26)).trans (hb1.mono (Nat.le_succ _)))
    have en : (w.alloc (.cells #[.slice none 0 0, .slice none 0 0] 26)).heap.size = w.heap.size + 1 := by simp
    clear hown1 hgrow1 hb1 ho hi hz0 hz1 hz2
    go_wp2_with fail
    refine bodyPost_ret (v := .agg #[.slice (some ⟨w.heap.size + 1, 0, none⟩) m m, .slice none 0 0]) (by simp [results, Try.results20, go_sem, k0, k1]) rfl ⟨_, _, rfl, ⟨?_, own_nil _ _ 2 none 0, ?_⟩, (HB.out.setCell (p := ⟨w.heap.size, 0, none⟩) (Nat.le_refl _) _).setCell (p := ⟨w.heap.size, 1, none⟩) (Nat.le_refl _) _⟩
    · have ho := HO.out
      simp only [Int.toNat_natCast, List.length_replicate, strs, List.map_replicate]
      refine Own.other (Own.other (ho.lower (Nat.le_succ _)) _ _ (fun k hk => ?_)) _ _ (fun k hk => ?_) <;> (have := (ho.blk k hk).1; simp; omega)
    · intro k hk; simp [blk]
  · have e : freshOf n = noFlash := if_neg h
    rw [e]
    clear e
    have h' : n < 1 ∨ 1 ≤ n ∧ 40 < n := by omega
    have H := Lib.hid h'
    clear h h'
    go_enter Try.func20, Try.ntmps20
    go_wp2_with fail
    refine (is_no n 1 40 _ H.out).mono ?_
    rintro e w1 ⟨rfl, rfl⟩
    go_wp2_with fail
    refine bodyPost_ret (v := .agg #[.slice none 0 0, .slice none 0 0]) (by simp [results, Try.results20, go_sem]) rfl ⟨_, _, rfl, noFlash_own _ _, (Below.refl _ w).alloc (Nat.le_refl _) _⟩

/-- What is read of a sector that is there. -/
def getOf (F : FM) (at_ : Int) : ByteArray := match F.dir.find? (fun d => d.1 == at_) with
  | some d => d.2
  | none => F.sec.getD at_.toNat ByteArray.empty
theorem get_hit {F : FM} {at_ : Int} {k : Nat} (h : k < F.dir.length) (hb : ∀ j (hj : j < F.dir.length), j < k → F.dir[j].1 ≠ at_) (he : F.dir[k].1 = at_) : getOf F at_ = F.dir[k].2 := by
  have e : F.dir.find? (fun d => d.1 == at_) = some F.dir[k] := List.find?_eq_some_iff_getElem.2 ⟨by simpa using he, k, h, rfl, fun j hj => by simpa using hb j (by omega) hj⟩
  unfold getOf
  rw [e]
theorem get_miss {F : FM} {at_ : Int} (hb : ∀ j (hj : j < F.dir.length), F.dir[j].1 ≠ at_) (h0 : at_.toNat < F.sec.length) : getOf F at_ = F.sec[at_.toNat] := by
  have e : F.dir.find? (fun d => d.1 == at_) = none := List.find?_eq_none.2 fun d hd => by
    obtain ⟨j, hj, rfl⟩ := List.getElem_of_mem hd
    simpa using hb j hj
  unfold getOf
  rw [e]
  simp [h0]
def GetRel (F : FM) (at_ : Int) (W : World) (i : Value) (wr : World) : Prop := ∃ k : Nat, k ≤ F.dir.length ∧ i = .int .i64 k ∧ (∀ j (hj : j < F.dir.length), j < k → F.dir[j].1 ≠ at_) ∧ Still W wr

set_option maxHeartbeats 2000000 in
set_option maxRecDepth 100000 in
theorem specGet (sv dv : Value) (F : FM) (at_ : Int) (w : World) (h : FRd w sv dv F) (hf : FFits F) (h0 : 0 ≤ at_) (h1 : at_ < F.sec.length) :
    Calls Try.prog 47 #[.agg #[sv, dv], .int .i64 at_] w fun e w' => e = .returned (.string (getOf F at_)) ∧ Below w.heap.size w w' := by
  obtain ⟨f1, f2⟩ := hf
  have hb := (Below.refl w.heap.size w).alloc (Nat.le_refl _) (.cells #[sv, dv] 26)
  have H := Lib.hid (h.below hb (Nat.le_refl _))
  obtain ⟨⟨-, a, c, rfl, g1⟩, ⟨-, a', c', rfl, g2⟩⟩ := h
  have HB := Lib.hid hb
  clear g1 g2 hb
  obtain ⟨T, hT⟩ : ∃ T, T = getOf F at_ := ⟨_, rfl⟩
  rw [← hT]
  have HT := Lib.hid hT
  clear hT
  go_enter Try.func47, Try.ntmps47
  go_wp2_with fail
  have c0 : (w.alloc (.cells #[.slice a F.sec.length c, .slice a' F.dir.length c'] 26)).cell? ⟨w.heap.size, 0, none⟩ = some (.slice a F.sec.length c) := by rw [World.cell?_alloc_new]; rfl
  have c1 : (w.alloc (.cells #[.slice a F.sec.length c, .slice a' F.dir.length c'] 26)).cell? ⟨w.heap.size, 1, none⟩ = some (.slice a' F.dir.length c') := by rw [World.cell?_alloc_new]; rfl
  have hzW : w.heap.size < (w.alloc (.cells #[.slice a F.sec.length c, .slice a' F.dir.length c'] 26)).heap.size := by simp
  generalize w.alloc (.cells #[.slice a F.sec.length c, .slice a' F.dir.length c'] 26) = W at *
  go_loopw [5] (fun i wr => GetRel F at_ W i wr) (fun i _ => F.dir.length - (intOf i).toNat)
  case atStart => exact ⟨0, by omega, rfl, fun j _ hj => absurd hj (by omega), Still.refl W⟩
  case round =>
    obtain ⟨k, hk, rfl, hseen, hst⟩ := hrel
    have SEEN := Lib.hid hseen
    have c0' : wr.cell? ⟨w.heap.size, 0, none⟩ = _ := ((hst.below W.heap.size).cell (p := ⟨w.heap.size, 0, none⟩) hzW).trans c0
    have c1' : wr.cell? ⟨w.heap.size, 1, none⟩ = _ := ((hst.below W.heap.size).cell (p := ⟨w.heap.size, 1, none⟩) hzW).trans c1
    have HST := Lib.hid hst
    clear hseen
    by_cases hlt : k < F.dir.length
    · obtain ⟨b, off, rfl, hbl, hc⟩ := H.out.2.get (by omega)
      have hcW0 : W.cell? ⟨b, off + k * 2, none⟩ = some (.int .i64 F.dir[k].1) := by rw [hc (k * 2) (by omega), dirs_even _ k hlt]
      have hcW1 : W.cell? ⟨b, off + k * 2 + 1, none⟩ = some (.string F.dir[k].2) := by rw [Nat.add_assoc, hc (k * 2 + 1) (by omega), dirs_odd _ k hlt]
      have hc0 := ((hst.below W.heap.size).cell (p := ⟨b, off + k * 2, none⟩) hbl).trans hcW0
      have hc1 := ((hst.below W.heap.size).cell (p := ⟨b, off + k * 2 + 1, none⟩) hbl).trans hcW1
      clear hc hst hcW0 hcW1
      have e0 : (k : Int) < (F.dir.length : Int) := by omega
      have e1 : (0 : Int) ≤ (k : Int) := by omega
      by_cases he : F.dir[k].1 = at_
      · go_wp2_with fail
        go_ret
        exact ⟨congrArg (fun x => Ending.returned (Value.string x)) (HT.out.trans (get_hit hlt SEEN.out he)).symm, HB.out.trans (HST.out.below _)⟩
      · go_wp2_with fail
        go_roundw
        case rel =>
          refine ⟨k + 1, by omega, by go_num, fun j hj hjk => ?_, HST.out⟩
          by_cases hjk' : j = k
          · subst hjk'; exact he
          · exact SEEN.out j hj (by omega)
        case measure => simp [intOf]; omega
    · obtain rfl : k = F.dir.length := by omega
      obtain ⟨b, off, rfl, hbl, hc⟩ := H.out.1.get (by omega)
      have hcW : W.cell? ⟨b, off + at_.toNat, none⟩ = some (.string (F.sec[at_.toNat]'(by omega))) := by rw [hc at_.toNat (by omega), strs_at _ _ (by omega)]
      have hc0 := ((hst.below W.heap.size).cell (p := ⟨b, off + at_.toNat, none⟩) hbl).trans hcW
      clear hc hst hcW
      go_wp2_with fail
      go_ret
      exact ⟨congrArg (fun x => Ending.returned (Value.string x)) (HT.out.trans (get_miss (fun j hj => SEEN.out j hj hj) (by omega))).symm, HB.out.trans (HST.out.below _)⟩
end Go.Proofs.Ytkeimgglikdbfaa

namespace Go.Proofs.Ytkeimgglikdbfaa
open Go.RowKit

open Classical in
noncomputable def readOf (F : FM) (at_ : Int) : OM :=
  if Right F then (if 0 ≤ at_ ∧ at_ < F.sec.length then ⟨F, getOf F at_, 0⟩ else illOf 8) else illOf 1

theorem FOwn.other {w : World} {lo : Nat} {sv dv : Value} {F : FM} (h : FOwn w lo sv dv F) (p : Addr) (x : Value) (hp : p.block < lo) : FOwn (w.setCell p x) lo sv dv F :=
  ⟨h.1.other p x (fun k hk => by have := (h.1.blk k hk).1; omega), h.2.1.other p x (fun k hk => by have := (h.2.1.blk k hk).1; omega), h.2.2⟩
/-- The four cells of an answer's block. -/
theorem out_cells {K : Nat} {W w' : World} {T : TypeId} {a b c d : Value} (hb : Below K (W.alloc (.cells #[a, b, c, d] T)) w') (hK : W.heap.size < K) :
    (w'.cell? ⟨W.heap.size, 0, none⟩ = some a ∧ w'.cell? ⟨W.heap.size, 1, none⟩ = some b ∧ w'.cell? ⟨W.heap.size, 2, none⟩ = some c ∧ w'.cell? ⟨W.heap.size, 3, none⟩ = some d) ∧
    w'.frozen? ⟨W.heap.size, 0, none⟩ = false ∧ w'.frozen? ⟨W.heap.size, 1, none⟩ = false ∧ w'.frozen? ⟨W.heap.size, 2, none⟩ = false ∧ w'.frozen? ⟨W.heap.size, 3, none⟩ = false := by
  have hc : ∀ j, w'.cell? ⟨W.heap.size, j, none⟩ = (#[a, b, c, d] : Array Value)[j]? := fun j => (hb.cell (p := ⟨W.heap.size, j, none⟩) hK).trans (World.cell?_alloc_new (w := W) #[a, b, c, d] T j)
  have hf : ∀ j, w'.frozen? ⟨W.heap.size, j, none⟩ = false := fun j => (hb.frozen (p := ⟨W.heap.size, j, none⟩) hK).trans (frozen_of_row _ W.heap.size j _ _ (heap_alloc_new W _))
  exact ⟨⟨hc 0, hc 1, hc 2, hc 3⟩, hf 0, hf 1, hf 2, hf 3⟩

/-- A boxed flash at n, an answer's block behind it. -/
def BoxOut (n : Nat) (sv dv : Value) (w : World) : Prop := w.cell? ⟨n, 0, none⟩ = some sv ∧ w.cell? ⟨n, 1, none⟩ = some dv ∧ (w.cell? ⟨n + 1, 0, none⟩).isSome = true ∧ (w.cell? ⟨n + 1, 1, none⟩).isSome = true ∧ (w.cell? ⟨n + 1, 2, none⟩).isSome = true ∧ (w.cell? ⟨n + 1, 3, none⟩).isSome = true ∧ w.frozen? ⟨n + 1, 0, none⟩ = false ∧ w.frozen? ⟨n + 1, 1, none⟩ = false ∧ w.frozen? ⟨n + 1, 2, none⟩ = false ∧ w.frozen? ⟨n + 1, 3, none⟩ = false
theorem boxOut_new (w : World) (sv dv a b c d : Value) (T U : TypeId) : BoxOut w.heap.size sv dv ((w.alloc (.cells #[sv, dv] T)).alloc (.cells #[a, b, c, d] U)) := by
  have e : (w.alloc (.cells #[sv, dv] T)).heap.size = w.heap.size + 1 := by simp
  obtain ⟨⟨c0, c1, c2, c3⟩, f0, f1, f2, f3⟩ := out_cells (Below.refl ((w.alloc (.cells #[sv, dv] T)).heap.size + 1) ((w.alloc (.cells #[sv, dv] T)).alloc (.cells #[a, b, c, d] U))) (Nat.lt_succ_self _)
  rw [e] at c0 c1 c2 c3 f0 f1 f2 f3
  obtain ⟨k0, k1⟩ := two_cells ((Below.refl (w.heap.size + 1) (w.alloc (.cells #[sv, dv] T))).alloc (by simp) (.cells #[a, b, c, d] U)) (Nat.lt_succ_self _)
  exact ⟨k0, k1, by rw [c0]; rfl, by rw [c1]; rfl, by rw [c2]; rfl, by rw [c3]; rfl, f0, f1, f2, f3⟩
theorem BoxOut.next {n : Nat} {sv dv : Value} {w1 w2 : World} (h : BoxOut n sv dv w1) (hz : n + 2 ≤ w1.heap.size) (hn : Below w1.heap.size w1 w2) : BoxOut n sv dv w2 := by
  obtain ⟨h0, h1, h2, h3, h4, h5, h6, h7, h8, h9⟩ := h
  have c : ∀ k j, k < n + 2 → w2.cell? ⟨k, j, none⟩ = w1.cell? ⟨k, j, none⟩ := fun k j hk => hn.cell (p := ⟨k, j, none⟩) (by simp; omega)
  have f : ∀ k j, k < n + 2 → w2.frozen? ⟨k, j, none⟩ = w1.frozen? ⟨k, j, none⟩ := fun k j hk => hn.frozen (p := ⟨k, j, none⟩) (by simp; omega)
  refine ⟨(c _ _ (by omega)).trans h0, (c _ _ (by omega)).trans h1, ?_, ?_, ?_, ?_, (f _ _ (by omega)).trans h6, (f _ _ (by omega)).trans h7, (f _ _ (by omega)).trans h8, (f _ _ (by omega)).trans h9⟩
  · rw [c _ _ (by omega)]; exact h2
  · rw [c _ _ (by omega)]; exact h3
  · rw [c _ _ (by omega)]; exact h4
  · rw [c _ _ (by omega)]; exact h5
theorem BoxOut.set {n j : Nat} {sv dv x : Value} {w : World} (h : BoxOut n sv dv w) : BoxOut n sv dv (w.setCell ⟨n + 1, j, none⟩ x) := by
  obtain ⟨h0, h1, h2, h3, h4, h5, h6, h7, h8, h9⟩ := h
  have c : ∀ i, (w.cell? ⟨n + 1, i, none⟩).isSome = true → ((w.setCell ⟨n + 1, j, none⟩ x).cell? ⟨n + 1, i, none⟩).isSome = true := fun i hi => by
    by_cases e : i = j
    · subst e; rw [World.cell?_setCell_same' w _ x hi]; rfl
    · rw [World.cell?_setCell_other (h := by simp [e])]; exact hi
  exact ⟨by rw [World.cell?_setCell_other (h := by simp)]; exact h0, by rw [World.cell?_setCell_other (h := by simp)]; exact h1, c 0 h2, c 1 h3, c 2 h4, c 3 h5, by simpa using h6, by simpa using h7, by simpa using h8, by simpa using h9⟩

/-- The same, for a drawn region. -/
def BoxIn (n : Nat) (sv dv : Value) (w0 w : World) : Prop := w.cell? ⟨n, 0, none⟩ = some sv ∧ w.cell? ⟨n, 1, none⟩ = some dv ∧ (w.cell? ⟨n + 1, 0, none⟩).isSome = true ∧ (w.cell? ⟨n + 1, 1, none⟩).isSome = true ∧ (w.cell? ⟨n + 1, 2, none⟩).isSome = true ∧ (w.cell? ⟨n + 1, 3, none⟩).isSome = true ∧ w.frozen? ⟨n + 1, 0, none⟩ = false ∧ w.frozen? ⟨n + 1, 1, none⟩ = false ∧ w.frozen? ⟨n + 1, 2, none⟩ = false ∧ w.frozen? ⟨n + 1, 3, none⟩ = false ∧ Below n w0 w ∧ n + 2 ≤ w.heap.size
theorem BoxIn.box {n : Nat} {sv dv : Value} {w0 w : World} (h : BoxIn n sv dv w0 w) : BoxOut n sv dv w := by
  obtain ⟨h0, h1, h2, h3, h4, h5, h6, h7, h8, h9, -, -⟩ := h
  exact ⟨h0, h1, h2, h3, h4, h5, h6, h7, h8, h9⟩
theorem BoxOut.inn {n : Nat} {sv dv : Value} {w0 w : World} (h : BoxOut n sv dv w) (hb : Below n w0 w) (hz : n + 2 ≤ w.heap.size) : BoxIn n sv dv w0 w := by
  obtain ⟨h0, h1, h2, h3, h4, h5, h6, h7, h8, h9⟩ := h
  exact ⟨h0, h1, h2, h3, h4, h5, h6, h7, h8, h9, hb, hz⟩
theorem BoxIn.below {n : Nat} {sv dv : Value} {w0 w : World} (h : BoxIn n sv dv w0 w) : Below n w0 w := h.2.2.2.2.2.2.2.2.2.2.1
theorem BoxIn.size {n : Nat} {sv dv : Value} {w0 w : World} (h : BoxIn n sv dv w0 w) : n + 2 ≤ w.heap.size := h.2.2.2.2.2.2.2.2.2.2.2
theorem BoxIn.next {n : Nat} {sv dv : Value} {w0 w1 w2 : World} (hn : Below w1.heap.size w1 w2) (h : BoxIn n sv dv w0 w1) : BoxIn n sv dv w0 w2 :=
  (h.box.next h.size hn).inn (h.below.trans (hn.mono (by have := h.size; omega))) (Nat.le_trans h.size hn.size)
theorem BoxIn.set {n j : Nat} {sv dv x : Value} {w0 w : World} (h : BoxIn n sv dv w0 w) : BoxIn n sv dv w0 (w.setCell ⟨n + 1, j, none⟩ x) :=
  h.box.set.inn (h.below.setCell (p := ⟨n + 1, j, none⟩) (by simp) x) (by simpa using h.size)

set_option maxHeartbeats 2000000 in
set_option maxRecDepth 100000 in
theorem specRead (sv dv : Value) (F : FM) (at_ : Int) (w : World) (h : FRd w sv dv F) (hf : FFits F) (hs : ∀ s ∈ F.sec, s.size ≤ 1048576) (hd : ∀ d ∈ F.dir, d.2.size ≤ 1048576) :
    Calls Try.prog 18 #[.agg #[sv, dv], .int .i64 at_] w (OMade w (readOf F at_)) := by
  obtain ⟨a, c, rfl, -⟩ := id h.1.2
  obtain ⟨a', c', rfl, -⟩ := id h.2.2
  have HF := Lib.hid hf
  have HS := Lib.hid hs
  have HD := Lib.hid hd
  have HR := Lib.hid h
  obtain ⟨O, hO⟩ : ∃ O, O = readOf F at_ := ⟨_, rfl⟩
  rw [← hO]
  unfold readOf at hO
  have H0 := Lib.hid hO
  clear h hf hs hd hO
  go_enter Try.func18, Try.ntmps18
  go_wp2_with fail
  have e1 : (w.alloc (.cells #[.slice a F.sec.length c, .slice a' F.dir.length c'] 26)).heap.size = w.heap.size + 1 := by simp
  have hb2 : Below w.heap.size w ((w.alloc (.cells #[.slice a F.sec.length c, .slice a' F.dir.length c'] 26)).alloc (.cells #[.slice none 0 0, .slice none 0 0, .string { data := #[] }, .int .i64 0] 30)) := ((Below.refl _ w).alloc (Nat.le_refl _) _).alloc (by simp) _
  have kz : ((w.alloc (.cells #[.slice a F.sec.length c, .slice a' F.dir.length c'] 26)).alloc (.cells #[.slice none 0 0, .slice none 0 0, .string { data := #[] }, .int .i64 0] 30)).heap.size = w.heap.size + 2 := by simp
  have hbo := boxOut_new w (.slice a F.sec.length c) (.slice a' F.dir.length c') (.slice none 0 0) (.slice none 0 0) (.string { data := #[] }) (.int .i64 0) 26 30
  generalize (w.alloc (.cells #[.slice a F.sec.length c, .slice a' F.dir.length c'] 26)).alloc (.cells #[.slice none 0 0, .slice none 0 0, .string { data := #[] }, .int .i64 0] 30) = W at *
  refine (specRight _ _ F W (HR.out.below hb2 (Nat.le_refl _)) HF.out HS.out HD.out).mono ?_
  rintro e w1 ⟨b, rfl, hiff, hb1⟩
  have hbo1 := hbo.next (by omega) hb1
  have hbw : Below w.heap.size w w1 := hb2.trans (hb1.mono (by omega))
  have hz1 : w.heap.size + 2 ≤ w1.heap.size := by have := hb1.size; omega
  clear e1 hb2 kz hbo hb1
  clear W
  cases b with
  | false =>
    have hn : ¬ Right F := fun r => by simpa using hiff.2 r
    have hO : O = illOf 1 := by rw [H0.out, if_neg hn]
    clear H0 hiff hn
    subst hO
    have HBO := Lib.hid hbo1
    have HBW := Lib.hid hbw
    clear hbo1 hbw
    go_wp2_with fail
    refine (specIll 1 w1).mono ?_
    rintro e w2 ⟨sv', dv', rfl, ho, hb2⟩
    obtain ⟨a1, n1, rfl, -⟩ := id ho.1.2
    obtain ⟨a2, n2, rfl, -⟩ := id ho.2.1.2
    obtain ⟨-, -, c0, c1, c2, c3, f0, f1, f2, f3⟩ := HBO.out.next hz1 hb2
    obtain ⟨x0, hx0⟩ := Option.isSome_iff_exists.1 c0
    obtain ⟨x1, hx1⟩ := Option.isSome_iff_exists.1 c1
    obtain ⟨x2, hx2⟩ := Option.isSome_iff_exists.1 c2
    obtain ⟨x3, hx3⟩ := Option.isSome_iff_exists.1 c3
    have HO := Lib.hid (ho.lower hz1)
    have HB := Lib.hid (HBW.out.trans (hb2.mono (by omega)))
    clear HBO HBW hb2 ho
    go_wp2_with fail
    refine bodyPost_ret (v := .agg #[.slice a1 (illOf 1).fl.sec.length n1, .slice a2 (illOf 1).fl.dir.length n2, .string (illOf 1).data, .int .i64 (illOf 1).code]) (by simp [results, Try.results18, go_sem, hx0, hx1, hx2, hx3]) rfl ⟨_, _, rfl, ?_, ?_⟩
    · exact ((((HO.out.other _ _ (by simp)).other _ _ (by simp)).other _ _ (by simp)).other _ _ (by simp)).lower (by omega)
    · exact (((HB.out.setCell (p := ⟨w.heap.size + 1, 0, none⟩) (by simp) _).setCell (p := ⟨w.heap.size + 1, 1, none⟩) (by simp) _).setCell (p := ⟨w.heap.size + 1, 2, none⟩) (by simp) _).setCell (p := ⟨w.heap.size + 1, 3, none⟩) (by simp) _
  | true =>
    have hr : Right F := hiff.1 rfl
    have hO1 := H0.out
    rw [if_pos hr] at hO1
    have HO1 := Lib.hid hO1
    obtain ⟨l0, l1, l2⟩ : 1 ≤ F.sec.length ∧ F.sec.length ≤ 40 ∧ F.dir.length ≤ 40 := ⟨hr.least, hr.most, Nat.le_trans hr.dirty hr.most⟩
    clear H0 hiff hr hO1
    have m0 : IntKind.i64.wrap ((F.sec.length : Int) - 1) = (F.sec.length : Int) - 1 := IntWalk.i64_in _ (by omega)
    by_cases hin : 0 ≤ at_ ∧ at_ < F.sec.length
    · have hO : O = ⟨F, getOf F at_, 0⟩ := by rw [HO1.out, if_pos hin]
      clear HO1
      subst hO
      obtain ⟨n0, n1⟩ := hin
      obtain ⟨b0, b1, b2, b3, b4, b5, b6, b7, b8, b9⟩ := id hbo1
      go_wp2_with fail
      refine (is_yes at_ 0 _ w1 n0 (by omega)).mono ?_
      rintro e w2 ⟨rfl, rfl⟩
      go_wp2_with fail
      have hb0 := Lib.hid (hbo1.inn hbw hz1)
      clear hbo1 hbw hz1
      go_region_held3 (fun w' => w'.cell? ⟨w.heap.size, 0, none⟩ = some (.slice a F.sec.length c) ∧ w'.cell? ⟨w.heap.size, 1, none⟩ = some (.slice a' F.dir.length c') ∧ (w'.cell? ⟨w.heap.size + 1, 0, none⟩).isSome = true ∧ (w'.cell? ⟨w.heap.size + 1, 1, none⟩).isSome = true ∧ (w'.cell? ⟨w.heap.size + 1, 2, none⟩).isSome = true ∧ (w'.cell? ⟨w.heap.size + 1, 3, none⟩).isSome = true ∧ w'.frozen? ⟨w.heap.size + 1, 0, none⟩ = false ∧ w'.frozen? ⟨w.heap.size + 1, 1, none⟩ = false ∧ w'.frozen? ⟨w.heap.size + 1, 2, none⟩ = false ∧ w'.frozen? ⟨w.heap.size + 1, 3, none⟩ = false ∧ Below w.heap.size w w' ∧ w.heap.size + 2 ≤ w'.heap.size)
        (first | (exact BoxIn.next (drew_below _) hb0.out) | (go_split_ands; first | (exact BoxIn.next hbm ⟨by assumption, by assumption, by assumption, by assumption, by assumption, by assumption, by assumption, by assumption, by assumption, by assumption, by assumption, by assumption⟩) | (exact BoxIn.next hbn ⟨by assumption, by assumption, by assumption, by assumption, by assumption, by assumption, by assumption, by assumption, by assumption, by assumption, by assumption, by assumption⟩) | (exact BoxIn.set (BoxIn.set (BoxIn.set (BoxIn.set ⟨by assumption, by assumption, by assumption, by assumption, by assumption, by assumption, by assumption, by assumption, by assumption, by assumption, by assumption, by assumption⟩))))))
        (first | (go_at_call 44; go_split_ands; refine (specCopy (.slice a F.sec.length c) (.slice a' F.dir.length c') F _ (HR.out.below (B := w.heap.size) (by assumption) (Nat.le_refl _)) HF.out).mono ?_; rintro e w3 ⟨sv1, dv1, rfl, ho, hbn⟩; obtain ⟨a1, p1, rfl, -⟩ := id ho.1.2; obtain ⟨a2, p2, rfl, -⟩ := id ho.2.1.2; have HO := Lib.hid (ho.lower (lo' := w.heap.size + 2) (by assumption)); clear ho) | (go_at_call 47; go_split_ands; refine (specGet (.slice a F.sec.length c) (.slice a' F.dir.length c') F at_ _ (HR.out.below (B := w.heap.size) (by assumption) (Nat.le_refl _)) HF.out n0 n1).mono ?_; rintro e w4 ⟨rfl, hbm⟩; have HO4 := Lib.hid (HO.out.below hbm (Nat.le_refl _)); obtain ⟨-, -, q0, q1, q2, q3, -⟩ := BoxIn.next (w0 := w) hbm ⟨by assumption, by assumption, by assumption, by assumption, by assumption, by assumption, by assumption, by assumption, by assumption, by assumption, by assumption, by assumption⟩; obtain ⟨x0, hx0⟩ := Option.isSome_iff_exists.1 q0; obtain ⟨x1, hx1⟩ := Option.isSome_iff_exists.1 q1; obtain ⟨x2, hx2⟩ := Option.isSome_iff_exists.1 q2; obtain ⟨x3, hx3⟩ := Option.isSome_iff_exists.1 q3; clear HO q0 q1 q2 q3))
      all_goals (
        go_split_ands
        have HBF := Lib.hid (show Below w.heap.size w ((((w4.setCell ⟨w.heap.size + 1, 0, none⟩ (.slice a1 F.sec.length p1)).setCell ⟨w.heap.size + 1, 1, none⟩ (.slice a2 F.dir.length p2)).setCell ⟨w.heap.size + 1, 2, none⟩ (.string (getOf F at_))).setCell ⟨w.heap.size + 1, 3, none⟩ (.int .i64 0)) by assumption)
        go_wp2_with fail
        refine bodyPost_ret (v := .agg #[.slice a1 F.sec.length p1, .slice a2 F.dir.length p2, .string (getOf F at_), .int .i64 0]) (by simp [results, Try.results18, go_sem, hx0, hx1, hx2, hx3]) rfl ⟨_, _, rfl, ?_, HBF.out⟩
        exact ((((HO4.out.other _ _ (by simp)).other _ _ (by simp)).other _ _ (by simp)).other _ _ (by simp)).lower (by omega))
    · have hO : O = illOf 8 := by rw [HO1.out, if_neg hin]
      clear HO1
      subst hO
      have hout : at_ < 0 ∨ 0 ≤ at_ ∧ (F.sec.length : Int) - 1 < at_ := by omega
      have HOUT := Lib.hid hout
      clear hin hout
      obtain ⟨b0, b1, -⟩ := id hbo1
      go_wp2_with fail
      refine (is_no at_ 0 _ w1 HOUT.out).mono ?_
      rintro e w2 ⟨rfl, rfl⟩
      have HBO := Lib.hid hbo1
      have HBW := Lib.hid hbw
      clear hbo1 hbw
      go_wp2_with fail
      refine (specIll 8 _).mono ?_
      rintro e w2 ⟨sv', dv', rfl, ho, hb2⟩
      obtain ⟨a1, n1, rfl, -⟩ := id ho.1.2
      obtain ⟨a2, n2, rfl, -⟩ := id ho.2.1.2
      obtain ⟨-, -, c0, c1, c2, c3, f0, f1, f2, f3⟩ := HBO.out.next hz1 hb2
      obtain ⟨x0, hx0⟩ := Option.isSome_iff_exists.1 c0
      obtain ⟨x1, hx1⟩ := Option.isSome_iff_exists.1 c1
      obtain ⟨x2, hx2⟩ := Option.isSome_iff_exists.1 c2
      obtain ⟨x3, hx3⟩ := Option.isSome_iff_exists.1 c3
      have HO := Lib.hid (ho.lower hz1)
      have HB := Lib.hid (HBW.out.trans (hb2.mono (by omega)))
      clear HBO HBW hb2 ho
      go_wp2_with fail
      refine bodyPost_ret (v := .agg #[.slice a1 (illOf 8).fl.sec.length n1, .slice a2 (illOf 8).fl.dir.length n2, .string (illOf 8).data, .int .i64 (illOf 8).code]) (by simp [results, Try.results18, go_sem, hx0, hx1, hx2, hx3]) rfl ⟨_, _, rfl, ?_, ?_⟩
      · exact ((((HO.out.other _ _ (by simp)).other _ _ (by simp)).other _ _ (by simp)).other _ _ (by simp)).lower (by omega)
      · exact (((HB.out.setCell (p := ⟨w.heap.size + 1, 0, none⟩) (by simp) _).setCell (p := ⟨w.heap.size + 1, 1, none⟩) (by simp) _).setCell (p := ⟨w.heap.size + 1, 2, none⟩) (by simp) _).setCell (p := ⟨w.heap.size + 1, 3, none⟩) (by simp) _
end Go.Proofs.Ytkeimgglikdbfaa

namespace Go.Proofs.Ytkeimgglikdbfaa
open Go.RowKit

theorem four_cells {w w1 : World} {K : Nat} {T : TypeId} {a b c d : Value} (hb : Below K (w.alloc (.cells #[a, b, c, d] T)) w1) (hK : w.heap.size < K) :
    w1.cell? ⟨w.heap.size, 0, none⟩ = some a ∧ w1.cell? ⟨w.heap.size, 1, none⟩ = some b ∧ w1.cell? ⟨w.heap.size, 2, none⟩ = some c ∧ w1.cell? ⟨w.heap.size, 3, none⟩ = some d := (out_cells hb hK).1

end Go.Proofs.Ytkeimgglikdbfaa

namespace Go.Proofs.Ytkeimgglikdbfaa
open Go.RowKit

/-- What a slice of the call's own may be appended to by. -/
def Grow (w : World) (lo e sz : Nat) (v : Value) (n : Nat) (xs : List Value) : Prop := (0 < n → w.ownsRow lo e sz v n xs) ∧ (n = 0 → ∃ a, v = .slice (some a) 0 0)
theorem Grow.lower {w : World} {lo lo' e sz n : Nat} {v : Value} {xs : List Value} (h : Grow w lo e sz v n xs) (hl : lo' ≤ lo) : Grow w lo' e sz v n xs := by
  refine ⟨fun h0 => ?_, h.2⟩
  obtain ⟨h1, h2 | ⟨g, cap, cur, q1, q2, q3⟩⟩ := h.1 h0
  · exact ⟨h1, .inl h2⟩
  · exact ⟨h1, .inr ⟨g, cap, cur, q1, by omega, q3⟩⟩
theorem Grow.keep {w w' : World} {lo e sz n : Nat} {v : Value} {xs : List Value} (h : Grow w lo e sz v n xs) (hk : ∀ k, lo ≤ k → k < w.heap.size → w'.heap[k]? = w.heap[k]?) : Grow w' lo e sz v n xs := by
  refine ⟨fun h0 => ?_, h.2⟩
  obtain ⟨h1, h2 | ⟨g, cap, cur, q1, q2, q3, q4⟩⟩ := h.1 h0
  · exact ⟨h1, .inl h2⟩
  · exact ⟨h1, .inr ⟨g, cap, cur, q1, q2, (hk g q2 (Array.getElem?_eq_some_iff.1 q3).1).trans q3, q4⟩⟩
theorem Grow.below {w w' : World} {lo e sz n B : Nat} {v : Value} {xs : List Value} (h : Grow w lo e sz v n xs) (hb : Below B w w') (hB : w.heap.size ≤ B) : Grow w' lo e sz v n xs :=
  h.keep fun k _ hk => hb.block k (by omega)
theorem Grow.set {w : World} {lo e sz n b i : Nat} {v x : Value} {xs : List Value} (h : Grow w lo e sz v n xs) (hp : b < lo) : Grow (w.setCell ⟨b, i, none⟩ x) lo e sz v n xs :=
  h.keep fun k h1 h2 => (grown_set (World.grownBy.refl w (some b)) (i := i) (x := x)).block k h2 (by simp; omega)
theorem run_append_copyA {P : Program} (w : World) (t ty e : TypeId) (i : TypeInfo) (z : Value) (sz bytes : Nat) (ht : P.underlying t = some (.slice e)) (hi : P.info? e = some i) (hz : i.zero = some z) (hsize : i.size = sz) (hby : i.bytes = bytes) (hzs : z.cells.size = sz) (hsz : 0 < sz)
    (g : Addr) (src : Value) (n : Nat) (xs : List Value) (hr : Rd w src n sz xs) (h63 : n ≤ maxLen) (hbytes : n * bytes ≤ 140737488355328) :
    ∃ v' w', (Builtin.append_ #[t, t] ty #[.slice (some g) 0 0, src]).run P w = .ok v' w' ∧ Own w' w.heap.size v' n sz xs ∧ Grow w' w.heap.size e sz v' n xs ∧ w.grownBy w' none := by
  obtain ⟨hl, a, c, rfl, hc⟩ := hr
  by_cases h0 : 0 < n
  · obtain ⟨b, off, rfl, hbl, hcell⟩ := hc h0
    obtain ⟨v', w', h1, h2, h3⟩ := run_append_arg_grows (P := P) w t ty e i z sz bytes ht hi hz hsize hby hzs hsz g 0 0 [] (by simp) (by simp) ⟨b, off, none⟩ n c xs hl (fun j u hj => by
      have hj' : j < n * sz := by have := (List.getElem?_eq_some_iff.1 hj).1; omega
      rw [Addr.add_lit, hcell j hj', hj]) (by omega) (by omega) (by rw [Nat.zero_add]; exact hbytes)
    rw [Nat.zero_add, List.nil_append] at h2
    exact ⟨v', w', h1, own_of_row h2, ⟨fun _ => h2, fun e => absurd e (by omega)⟩, h3⟩
  · obtain rfl : n = 0 := by omega
    have hx : xs = [] := List.eq_nil_of_length_eq_zero (by omega)
    subst hx
    refine ⟨.slice (some g) 0 0, w, ?_, ⟨by simp, _, _, rfl, fun h => absurd h (Nat.lt_irrefl 0)⟩, ⟨fun h => absurd h (Nat.lt_irrefl 0), fun _ => ⟨_, rfl⟩⟩, World.grownBy.refl w none⟩
    cases hsize
    have hfc : (Builtin.firstCells i.size 0 (.slice a 0 c)).run P w = .ok #[] w := by
      cases a with
      | none => exact run_firstCells_none w i.size 0 0 c
      | some a => exact run_firstCells_some w i.size 0 a 0 c [] (by simp) (by simp)
    simp [Builtin.append_, run_underlying ht, sizeOf, typeInfo, hi, Builtin.lenOf, Result.andThen, hfc, storeCells]
def FMadeA (e : TypeId) (w : World) (F : FM) (x : Ending) (w' : World) : Prop := ∃ sv dv, x = .returned (.agg #[sv, dv]) ∧ FOwn w' w.heap.size sv dv F ∧ Grow w' w.heap.size e 2 dv F.dir.length (dirs F.dir) ∧ Below w.heap.size w w'
/-- For a region that draws. -/
theorem step_append_copyA {P : Program} {w : World} {ops : Array Oper} {o : Oper} {a : Act} {K : Act → World → Prop} {Q : Exit → Act → World → Prop} {E : Prop} (hgd : o.guard = none) (s x : Operand) (t : TypeId)
    (ho : o.op = .call { callee := .builtin .append, args := #[s, x], argTypes := #[t, t] })
    (e : TypeId) (i : TypeInfo) (z : Value) (sz bytes : Nat) (ht : P.underlying t = some (.slice e)) (hi : P.info? e = some i) (hz : i.zero = some z) (hsize : i.size = sz) (hby : i.bytes = bytes) (hzs : z.cells.size = sz) (hsz : 0 < sz)
    (g : Addr) (hs : a.eval s = .slice (some g) 0 0) (src : Value) (hx : a.eval x = src) (n : Nat) (xs : List Value) (hr : Rd w src n sz xs) (h63 : n ≤ maxLen) (hbytes : n * bytes ≤ 140737488355328)
    (h : ∀ ad cap w', Own w' w.heap.size (.slice ad n cap) n sz xs → Grow w' w.heap.size e sz (.slice ad n cap) n xs → Below w.heap.size w w' → K (a.put o.dst (.slice ad n cap)) w') :
    if Region.wanted o (yielded ops a.tmps) = true then Oper.wp P o a w K Q else E := by
  have hw : Region.wanted o (yielded ops a.tmps) = true := by simp [Region.wanted, hgd]
  rw [if_pos hw]
  obtain ⟨v', w', hrun, h1, h3, h2⟩ := run_append_copyA (P := P) w t o.type e i z sz bytes ht hi hz hsize hby hzs hsz g src n xs hr h63 hbytes
  obtain ⟨ad, cap, rfl, _⟩ := id h1.2
  unfold Oper.wp
  simp [execOp, ho, resolve, invoke, builtin, hs, hx, hrun, Result.andThen]
  exact h ad cap w' h1 h3 ⟨h2.os, h2.tape, h2.output, h2.size, fun k hk => h2.block k hk (by simp)⟩

set_option maxHeartbeats 2000000 in
set_option maxRecDepth 100000 in
theorem specCopyA (sv dv : Value) (F : FM) (w : World) (h : FRd w sv dv F) (hf : FFits F) :
    Calls Try.prog 44 #[.agg #[sv, dv]] w (FMadeA 63 w F) := by
  obtain ⟨i0, hi, hz0, hz1, hz2⟩ := info_parts Try.info9
  obtain ⟨j0, hj, hy0, hy1, hy2⟩ := info_parts Try.infoD
  obtain ⟨f1, f2⟩ := hf
  have HR := Lib.hid h
  clear h
  go_enter Try.func44, Try.ntmps44
  go_wp2_with fail
  have hb2 : Below w.heap.size w ((w.alloc (.cells #[sv, dv] 26)).alloc (.cells #[.slice none 0 0, .slice none 0 0] 26)) := ((Below.refl _ w).alloc (Nat.le_refl _) _).alloc (by simp) _
  have c0 : ((w.alloc (.cells #[sv, dv] 26)).alloc (.cells #[.slice none 0 0, .slice none 0 0] 26)).cell? ⟨w.heap.size, 0, none⟩ = some sv := by rw [cell_of_row _ _ _ _ _ _ (heap_alloc2_old w _ _)]; rfl
  have c1 : ((w.alloc (.cells #[sv, dv] 26)).alloc (.cells #[.slice none 0 0, .slice none 0 0] 26)).cell? ⟨w.heap.size, 1, none⟩ = some dv := by rw [cell_of_row _ _ _ _ _ _ (heap_alloc2_old w _ _)]; rfl
  have r0 : ((w.alloc (.cells #[sv, dv] 26)).alloc (.cells #[.slice none 0 0, .slice none 0 0] 26)).cell? ⟨w.heap.size + 1, 0, none⟩ = some (.slice none 0 0) := by rw [cell_of_row _ _ _ _ _ _ (heap_alloc2_new w _ _)]; rfl
  have r1 : ((w.alloc (.cells #[sv, dv] 26)).alloc (.cells #[.slice none 0 0, .slice none 0 0] 26)).cell? ⟨w.heap.size + 1, 1, none⟩ = some (.slice none 0 0) := by rw [cell_of_row _ _ _ _ _ _ (heap_alloc2_new w _ _)]; rfl
  have s0 := frozen_of_row _ (w.heap.size + 1) 0 _ _ (heap_alloc2_new w (.cells #[sv, dv] 26) (.cells #[.slice none 0 0, .slice none 0 0] 26))
  have s1 := frozen_of_row _ (w.heap.size + 1) 1 _ _ (heap_alloc2_new w (.cells #[sv, dv] 26) (.cells #[.slice none 0 0, .slice none 0 0] 26))
  have hzW : w.heap.size + 2 ≤ ((w.alloc (.cells #[sv, dv] 26)).alloc (.cells #[.slice none 0 0, .slice none 0 0] 26)).heap.size := by simp
  generalize ((w.alloc (.cells #[sv, dv] 26)).alloc (.cells #[.slice none 0 0, .slice none 0 0] 26)) = W at *
  have HB2 := Lib.hid hb2
  clear hb2
  go_region_held3 (fun w' => w'.cell? ⟨w.heap.size, 0, none⟩ = some sv ∧ w'.cell? ⟨w.heap.size, 1, none⟩ = some dv ∧ (w'.cell? ⟨w.heap.size + 1, 0, none⟩).isSome = true ∧ (w'.cell? ⟨w.heap.size + 1, 1, none⟩).isSome = true ∧ w'.frozen? ⟨w.heap.size + 1, 0, none⟩ = false ∧ w'.frozen? ⟨w.heap.size + 1, 1, none⟩ = false ∧ Below (w.heap.size + 1) W w')
    (first | (exact keepN hzW (drew_below W) ⟨c0, c1, by rw [r0]; rfl, by rw [r1]; rfl, s0, s1, Below.refl _ _⟩) | (go_split_ands; first | (exact keepN hzW hbm ⟨by assumption, by assumption, by assumption, by assumption, by assumption, by assumption, by assumption⟩) | (exact keepN hzW hbn ⟨by assumption, by assumption, by assumption, by assumption, by assumption, by assumption, by assumption⟩) | (exact keepN hzW (alloc_below _ _) ⟨by assumption, by assumption, by assumption, by assumption, by assumption, by assumption, by assumption⟩) | (exact keepSet ⟨by assumption, by assumption, by assumption, by assumption, by assumption, by assumption, by assumption⟩)))
    (first | (go_split_ands; refine step_append_copyA (by rfl) (.tmp 3) (.tmp 5) _ (by rfl) 9 i0 _ 1 16 Try.underlying23 hi hz0 hz1 hz2 rfl (by decide) _ (by rfl) sv (by rfl) F.sec.length (strs F.sec) (HR.out.1.below (HB2.out.trans (Below.mono (B := w.heap.size + 1) (by assumption) (Nat.le_succ _))) (Nat.le_refl _)) (by unfold maxLen; omega) (by omega) ?_; intro ad1 cap1 w1 ho1' hg1' hbn; clear hg1'; have ho1 := ho1'.lower (show w.heap.size + 2 ≤ _ from Nat.le_trans hzW (Below.size (B := w.heap.size + 1) (by assumption))); clear ho1') | (go_split_ands; refine step_append_copyA (by rfl) (.tmp 7) (.tmp 9) _ (by rfl) 63 j0 _ 2 24 Try.underlying24 hj hy0 hy1 hy2 rfl (by decide) _ (by rfl) dv (by rfl) F.dir.length (dirs F.dir) (HR.out.2.below (HB2.out.trans (Below.mono (B := w.heap.size + 1) (by assumption) (Nat.le_succ _))) (Nat.le_refl _)) (by unfold maxLen; omega) (by omega) ?_; intro ad2 cap2 w2 ho2' hg2 hbm; have HG2 := Lib.hid (hg2.lower (show w.heap.size + 2 ≤ _ from Nat.le_trans hzW (Below.size (B := w.heap.size + 1) (by assumption)))); clear hg2; have ho2 := ho2'.lower (show w.heap.size + 2 ≤ _ from Nat.le_trans hzW (Below.size (B := w.heap.size + 1) (by assumption))); obtain ⟨-, -, q0, q1, -, -, -⟩ := keepN hzW hbm ⟨by assumption, by assumption, by assumption, by assumption, by assumption, by assumption, by assumption⟩; obtain ⟨x0, hx0⟩ := Option.isSome_iff_exists.1 q0; obtain ⟨x1, hx1⟩ := Option.isSome_iff_exists.1 q1; have hne : ∀ k, blk (.slice ad1 F.sec.length cap1) F.sec.length = some k → blk (.slice ad2 F.dir.length cap2) F.dir.length ≠ some k := (fun k h1 h2 => by (have e1 := (ho1.blk k h1).2; have e2 := (ho2'.blk k h2).1; first | omega | (simp at e2; omega))); have ho1w : Own w2 (w.heap.size + 2) (.slice ad1 F.sec.length cap1) F.sec.length 1 (strs F.sec) := (by first | exact ho1.below hbm (Nat.le_refl _) | exact (ho1.below (alloc_below _ _) (Nat.le_refl _)).below hbm (Nat.le_refl _)); have HNE := Lib.hid hne; have HO1 := Lib.hid ho1w; have HO2 := Lib.hid ho2; clear hne ho1w ho2 ho2' q0 q1))
  all_goals (
    go_split_ands
    have HBF := Lib.hid (show Below w.heap.size w ((w2.setCell ⟨w.heap.size + 1, 0, none⟩ (.slice ad1 F.sec.length cap1)).setCell ⟨w.heap.size + 1, 1, none⟩ (.slice ad2 F.dir.length cap2)) from HB2.out.trans (Below.mono (B := w.heap.size + 1) (by assumption) (Nat.le_succ _)))
    go_wp2_with fail
    refine bodyPost_ret (v := .agg #[.slice ad1 F.sec.length cap1, .slice ad2 F.dir.length cap2]) (by simp [results, Try.results44, go_sem, hx0, hx1]) rfl ⟨_, _, rfl, ⟨?_, ?_, HNE.out⟩, ((HG2.out.set (by simp)).set (by simp)).lower (by omega), HBF.out⟩
    · refine Own.other (Own.other (HO1.out.lower (by omega)) _ _ (fun k hk => ?_)) _ _ (fun k hk => ?_) <;> (have := (HO1.out.blk k hk).1; simp; omega)
    · refine Own.other (Own.other (HO2.out.lower (by omega)) _ _ (fun k hk => ?_)) _ _ (fun k hk => ?_) <;> (have := (HO2.out.blk k hk).1; simp; omega))
end Go.Proofs.Ytkeimgglikdbfaa

namespace Go.Proofs.Ytkeimgglikdbfaa
open Go.RowKit

def putD : List D → Int → ByteArray → List D
  | [], a, x => [(a, x)]
  | d :: l, a, x => if d.1 = a then (d.1, x) :: l else d :: putD l a x
theorem put_hit (a : Int) (x : ByteArray) : ∀ (l : List D) (k : Nat) (h : k < l.length) (_ : ∀ j (hj : j < l.length), j < k → l[j].1 ≠ a) (_ : l[k].1 = a), putD l a x = l.set k (a, x)
  | d :: l, 0, _, _, he => by
    have he' : d.1 = a := he
    simp [putD, he']
  | d :: l, k + 1, h, hb, he => by
    have h0 : d.1 ≠ a := hb 0 (by simp) (by omega)
    have ih := put_hit a x l k (by simpa using h) (fun j hj hjk => hb (j + 1) (by simpa using hj) (by omega)) he
    simp [putD, h0, ih]
theorem put_miss (a : Int) (x : ByteArray) : ∀ (l : List D) (_ : ∀ j (hj : j < l.length), l[j].1 ≠ a), putD l a x = l ++ [(a, x)]
  | [], _ => rfl
  | d :: l, hb => by
    have h0 : d.1 ≠ a := hb 0 (by simp)
    have ih := put_miss a x l (fun j hj => hb (j + 1) (by simpa using hj))
    simp [putD, h0, ih]
theorem dirs_set (a : Int) (x : ByteArray) : ∀ (l : List D) (k : Nat) (h : k < l.length) (_ : l[k].1 = a), dirs (l.set k (a, x)) = (dirs l).set (k * 2 + 1) (.string x)
  | d :: l, 0, _, he => by
    have he' : d.1 = a := he
    simp [dirs, he']
  | d :: l, k + 1, h, he => by
    rw [show (k + 1) * 2 + 1 = k * 2 + 1 + 1 + 1 by omega]
    simp only [List.set_cons_succ, dirs]
    rw [dirs_set a x l k (by simpa using h) he]
theorem dirs_append (a : Int) (x : ByteArray) : ∀ l : List D, dirs (l ++ [(a, x)]) = dirs l ++ [.int .i64 a, .string x]
  | [] => rfl
  | d :: l => by simp only [List.cons_append, dirs]; rw [dirs_append a x l]
def putOf (F : FM) (a : Int) (x : ByteArray) : FM := ⟨F.sec, putD F.dir a x⟩

theorem run_append_grow {P : Program} (w : World) (t ty e : TypeId) (i : TypeInfo) (z : Value) (sz bytes : Nat) (ht : P.underlying t = some (.slice e)) (hi : P.info? e = some i) (hz : i.zero = some z) (hsize : i.size = sz) (hby : i.bytes = bytes) (hzs : z.cells.size = sz) (hsz : 0 < sz)
    (lo : Nat) (v : Value) (n : Nat) (xs : List Value) (hl : xs.length = n * sz) (hg : Grow w lo e sz v n xs) (ad : Addr) (m c : Nat) (news : List Value) (hm : 0 < m) (hn : news.length = m * sz) (hnews : ∀ j u, news[j]? = some u → w.cell? (ad.add j) = some u) (h1 : ∀ u ∈ news, u.oneCell' = true)
    (h63 : n + m ≤ maxLen) (hbytes : (n + m) * bytes ≤ 140737488355328) (hlo : lo ≤ w.heap.size) :
    ∃ v' w', (Builtin.append_ #[t, t] ty #[v, .slice (some ad) m c]).run P w = .ok v' w' ∧ Own w' lo v' (n + m) sz (xs ++ news) ∧ w.grownBy w' (blk v n) ∧ (∀ k, blk v' (n + m) = some k → blk v n = some k ∨ w.heap.size ≤ k) := by
  by_cases h0 : 0 < n
  · obtain ⟨v', w', r1, r2, r3, -, r5⟩ := run_append_own_at (P := P) (w := w) lo t ty e i z sz bytes ht hi hz hsize hby hzs hsz v n xs (hg.1 h0) ad m c news hn hnews h1 h63 hbytes hlo
    have e1 : blk v n = v.ownBlock := by unfold blk; rw [if_neg (by omega)]
    have e2 : blk v' (n + m) = v'.ownBlock := by unfold blk; rw [if_neg (by omega)]
    rw [e1]
    exact ⟨v', w', r1, own_of_row r2, r3, fun k hk => by
      rw [e2] at hk
      rcases r5 with r | r
      · exact .inl (r.symm.trans hk)
      · exact .inr (Nat.le_of_eq (Option.some.inj (r.symm.trans hk)))⟩
  · obtain rfl : n = 0 := by omega
    have hx : xs = [] := List.eq_nil_of_length_eq_zero (by omega)
    subst hx
    obtain ⟨g, rfl⟩ := hg.2 rfl
    obtain ⟨v', w', r1, r2, r3⟩ := run_append_arg_grows (P := P) w t ty e i z sz bytes ht hi hz hsize hby hzs hsz g 0 0 [] (by simp) (by simp) ad m c news hn hnews (by omega) h63 hbytes
    refine ⟨v', w', r1, (own_of_row r2).lower hlo, r3, fun k hk => .inr ((own_of_row r2).blk k hk).1⟩
theorem wpList_append_grow {P : Program} (w : World) {ops : Array Oper} {rest : List Oper} {o : Oper} {a : Act} {Q : Exit → Act → World → Prop} (hgd : o.guard = none) (s x : Operand) (t : TypeId)
    (hop : o.op = Op.call { callee := Callee.builtin Builtin.append, args := #[s, x], argTypes := #[t, t] })
    (e : TypeId) (i : TypeInfo) (z : Value) (sz bytes : Nat) (ht : P.underlying t = some (.slice e)) (hi : P.info? e = some i) (hz : i.zero = some z) (hsize : i.size = sz) (hby : i.bytes = bytes) (hzs : z.cells.size = sz) (hsz : 0 < sz)
    (lo : Nat) (v : Value) (hs : a.eval s = v) (n : Nat) (xs : List Value) (hl : xs.length = n * sz) (hg : Grow w lo e sz v n xs) (ad : Addr) (m c : Nat) (hx : a.eval x = .slice (some ad) m c) (news : List Value) (hm : 0 < m) (hn : news.length = m * sz) (hnews : ∀ j u, news[j]? = some u → w.cell? (ad.add j) = some u) (h1 : ∀ u ∈ news, u.oneCell' = true)
    (h63 : n + m ≤ maxLen) (hbytes : (n + m) * bytes ≤ 140737488355328) (hlo : lo ≤ w.heap.size)
    (hK : ∀ ad' cap w', Own w' lo (.slice ad' (n + m) cap) (n + m) sz (xs ++ news) → w.grownBy w' (blk v n) → (∀ k, blk (.slice ad' (n + m) cap) (n + m) = some k → blk v n = some k ∨ w.heap.size ≤ k) → wpList P ops Q rest (a.put o.dst (.slice ad' (n + m) cap)) w') :
    wpList P ops Q (o :: rest) a w := by
  refine wpList_plain hgd fun K hK' => ?_
  obtain ⟨v', w', hrun, r1, r2, r3⟩ := run_append_grow (P := P) w t o.type e i z sz bytes ht hi hz hsize hby hzs hsz lo v n xs hl hg ad m c news hm hn hnews h1 h63 hbytes hlo
  obtain ⟨ad', cap, rfl, _⟩ := id r1.2
  unfold Oper.wp
  simp [execOp, hop, resolve, invoke, builtin, hs, hx, hrun, Result.andThen]
  exact hK' _ _ (hK ad' cap w' r1 r2 r3)
theorem grown_keep {w w' : World} {r : Option Nat} {k : Nat} (h : w.grownBy w' r) (hk : k < w.heap.size) (hne : r ≠ some k) (j : Nat) : w'.cell? ⟨k, j, none⟩ = w.cell? ⟨k, j, none⟩ ∧ w'.frozen? ⟨k, j, none⟩ = w.frozen? ⟨k, j, none⟩ := by
  have e := h.block k hk (fun q => hne q.symm)
  exact ⟨by simp only [World.cell?, e], by simp only [World.frozen?, e]⟩
def PutRel (F : FM) (at_ : Int) (i : Value) : Prop := ∃ k : Nat, k ≤ F.dir.length ∧ i = .int .i64 k ∧ ∀ j (hj : j < F.dir.length), j < k → F.dir[j].1 ≠ at_

set_option maxHeartbeats 2000000 in
set_option maxRecDepth 100000 in
theorem specLPut (sv dv : Value) (F : FM) (at_ : Int) (x : ByteArray) (w : World) (h : FRd w sv dv F) (hf : FFits F) :
    Calls Try.prog 42 #[.agg #[sv, dv], .int .i64 at_, .string x] w (FMade w (putOf F at_ x)) := by
  obtain ⟨j0, hj, hy0, hy1, hy2⟩ := info_parts Try.infoD
  obtain ⟨a, c, rfl, -⟩ := id h.1.2
  obtain ⟨a', c', rfl, -⟩ := id h.2.2
  obtain ⟨f1, f2⟩ := id hf
  have HF := Lib.hid hf
  have HR := Lib.hid h
  clear h hf
  obtain ⟨O, hO⟩ : ∃ O, O = putD F.dir at_ x := ⟨_, rfl⟩
  unfold putOf
  rw [← hO]
  have H0 := Lib.hid hO
  clear hO
  go_enter Try.func42, Try.ntmps42
  go_wp2_with fail
  have hb2 : Below w.heap.size w ((w.alloc (.cells #[.slice a F.sec.length c, .slice a' F.dir.length c'] 26)).alloc (.cells #[.slice none 0 0, .slice none 0 0] 26)) := ((Below.refl _ w).alloc (Nat.le_refl _) _).alloc (by simp) _
  have r0 : ((w.alloc (.cells #[.slice a F.sec.length c, .slice a' F.dir.length c'] 26)).alloc (.cells #[.slice none 0 0, .slice none 0 0] 26)).cell? ⟨w.heap.size + 1, 0, none⟩ = some (.slice none 0 0) := by rw [cell_of_row _ _ _ _ _ _ (heap_alloc2_new w _ _)]; rfl
  have r1 : ((w.alloc (.cells #[.slice a F.sec.length c, .slice a' F.dir.length c'] 26)).alloc (.cells #[.slice none 0 0, .slice none 0 0] 26)).cell? ⟨w.heap.size + 1, 1, none⟩ = some (.slice none 0 0) := by rw [cell_of_row _ _ _ _ _ _ (heap_alloc2_new w _ _)]; rfl
  have s0 := frozen_of_row _ (w.heap.size + 1) 0 _ _ (heap_alloc2_new w (.cells #[.slice a F.sec.length c, .slice a' F.dir.length c'] 26) (.cells #[.slice none 0 0, .slice none 0 0] 26))
  have s1 := frozen_of_row _ (w.heap.size + 1) 1 _ _ (heap_alloc2_new w (.cells #[.slice a F.sec.length c, .slice a' F.dir.length c'] 26) (.cells #[.slice none 0 0, .slice none 0 0] 26))
  have hzW : w.heap.size + 2 = ((w.alloc (.cells #[.slice a F.sec.length c, .slice a' F.dir.length c'] 26)).alloc (.cells #[.slice none 0 0, .slice none 0 0] 26)).heap.size := by simp
  generalize ((w.alloc (.cells #[.slice a F.sec.length c, .slice a' F.dir.length c'] 26)).alloc (.cells #[.slice none 0 0, .slice none 0 0] 26)) = W0 at *
  refine (specCopyA _ _ F W0 (HR.out.below hb2 (Nat.le_refl _)) HF.out).mono ?_
  rintro e w1 ⟨sv1, dv1, rfl, ho, hg, hb1⟩
  obtain ⟨a1, p1, rfl, -⟩ := id ho.1.2
  obtain ⟨a2, p2, rfl, -⟩ := id ho.2.1.2
  replace r0 := (hb1.cell (p := ⟨w.heap.size + 1, 0, none⟩) (by simp; omega)).trans r0
  replace r1 := (hb1.cell (p := ⟨w.heap.size + 1, 1, none⟩) (by simp; omega)).trans r1
  replace s0 := (hb1.frozen (p := ⟨w.heap.size + 1, 0, none⟩) (by simp; omega)).trans s0
  replace s1 := (hb1.frozen (p := ⟨w.heap.size + 1, 1, none⟩) (by simp; omega)).trans s1
  have hn1 : w.heap.size + 2 ≤ w1.heap.size := by have := hb1.size; omega
  have HB1 := Lib.hid (hb2.trans (hb1.mono (by omega)))
  have HO1 := Lib.hid (ho.lower (Nat.le_of_eq hzW))
  have HG1 := Lib.hid (hg.lower (Nat.le_of_eq hzW))
  clear ho hg hb1 hb2 hzW
  clear W0
  go_wp2_with fail
  have hz1 : w1.heap.size < (w1.alloc (.cells #[.slice a1 F.sec.length p1, .slice a2 F.dir.length p2] 26)).heap.size := by simp
  have hbA : Below w1.heap.size w1 (w1.alloc (.cells #[.slice a1 F.sec.length p1, .slice a2 F.dir.length p2] 26)) := alloc_below _ _
  have g0 : (w1.alloc (.cells #[.slice a1 F.sec.length p1, .slice a2 F.dir.length p2] 26)).cell? ⟨w1.heap.size, 0, none⟩ = some (.slice a1 F.sec.length p1) := by rw [World.cell?_alloc_new]; rfl
  have g1 : (w1.alloc (.cells #[.slice a1 F.sec.length p1, .slice a2 F.dir.length p2] 26)).cell? ⟨w1.heap.size, 1, none⟩ = some (.slice a2 F.dir.length p2) := by rw [World.cell?_alloc_new]; rfl
  have g2 : (w1.alloc (.cells #[.slice a1 F.sec.length p1, .slice a2 F.dir.length p2] 26)).frozen? ⟨w1.heap.size, 1, none⟩ = false := frozen_of_row _ w1.heap.size 1 _ _ (heap_alloc_new w1 _)
  generalize (w1.alloc (.cells #[.slice a1 F.sec.length p1, .slice a2 F.dir.length p2] 26)) = W at *
  replace r0 := (hbA.cell (p := ⟨w.heap.size + 1, 0, none⟩) (by simp; omega)).trans r0
  replace r1 := (hbA.cell (p := ⟨w.heap.size + 1, 1, none⟩) (by simp; omega)).trans r1
  replace s0 := (hbA.frozen (p := ⟨w.heap.size + 1, 0, none⟩) (by simp; omega)).trans s0
  replace s1 := (hbA.frozen (p := ⟨w.heap.size + 1, 1, none⟩) (by simp; omega)).trans s1
  have HO := Lib.hid (HO1.out.below hbA (Nat.le_refl _))
  have HG := Lib.hid (HG1.out.below hbA (Nat.le_refl _))
  have HBW := Lib.hid (HB1.out.trans (hbA.mono (by omega)))
  have HK1 := Lib.hid (HO1.out.1.blk)
  have HK2 := Lib.hid (HO1.out.2.1.blk)
  generalize w1.heap.size = g at *
  clear HO1 HG1 HB1 hbA
  clear w1
  go_loop [8] (fun i => PutRel F at_ i) (fun i => F.dir.length - (intOf i).toNat)
  case atStart => exact ⟨0, by omega, rfl, fun j _ hj => absurd hj (by omega)⟩
  case round =>
    obtain ⟨k, hk, rfl, hseen⟩ := hrel
    have SEEN := Lib.hid hseen
    clear hseen
    by_cases hlt : k < F.dir.length
    · obtain ⟨b, off, rfl, hlo, hbl, hc, hfz⟩ := HO.out.2.1.get (by omega)
      have hkb := HK2.out b (blk_pos (by omega))
      have hc0 : W.cell? ⟨b, off + k * 2, none⟩ = some (.int .i64 F.dir[k].1) := by rw [hc (k * 2) (by omega), dirs_even _ k hlt]
      have hc1 : W.cell? ⟨b, off + k * 2 + 1, none⟩ = some (.string F.dir[k].2) := by rw [Nat.add_assoc, hc (k * 2 + 1) (by omega), dirs_odd _ k hlt]
      have hf1 : W.frozen? ⟨b, off + k * 2 + 1, none⟩ = false := by rw [Nat.add_assoc]; exact hfz (k * 2 + 1) (by omega)
      have e0 : (k : Int) < (F.dir.length : Int) := by omega
      have e1 : (0 : Int) ≤ (k : Int) := by omega
      clear hc hfz
      have n1 : ¬ g = b := by omega
      have n2 : ¬ w.heap.size + 1 = b := by omega
      have n3 : ¬ b = g := by omega
      have n4 : ¬ b = w.heap.size + 1 := by omega
      by_cases he : F.dir[k].1 = at_
      · have hO : O = F.dir.set k (at_, x) := H0.out.trans (put_hit at_ x F.dir k hlt SEEN.out he)
        have HSET := Lib.hid (HO.out.2.1.set (k * 2 + 1) (.string x) (by omega) ⟨_, by rw [← Nat.add_assoc]; exact hc1⟩)
        rw [← dirs_set at_ x F.dir k hlt he, ← Nat.add_assoc] at HSET
        have HLEN := Lib.hid (show O.length = F.dir.length by rw [hO, List.length_set])
        rw [← hO] at HSET
        have hsb : ∀ q, blk (.slice a1 F.sec.length p1) F.sec.length = some q → q ≠ b := fun q hq e => HO.out.2.2 q hq (by rw [blk_pos (by omega), e])
        have HSB := Lib.hid hsb
        clear hO hsb H0
        go_wp2_with fail
        refine bodyPost_ret (v := .agg #[.slice a1 F.sec.length p1, .slice (some ⟨b, off, none⟩) F.dir.length p2]) (by simp [results, Try.results42, go_sem, r0, r1, n1, n2, n3, n4]) rfl ⟨_, _, rfl, ⟨?_, ?_, ?_⟩, ?_⟩
        · refine Own.other (Own.other (Own.other (HO.out.1.lower (by omega)) _ _ (fun q hq => ?_)) _ _ (fun q hq => ?_)) _ _ (fun q hq => ?_)
          · exact HSB.out q hq
          · have := (HO.out.1.blk q hq).1; simp; omega
          · have := (HO.out.1.blk q hq).1; simp; omega
        · show Own _ _ _ O.length 2 (dirs O)
          rw [HLEN.out]
          refine Own.other (Own.other (HSET.out.lower (by omega)) _ _ (fun q hq => ?_)) _ _ (fun q hq => ?_) <;> (have := (HSET.out.blk q hq).1; simp; omega)
        · show ∀ q, blk _ F.sec.length = some q → blk _ O.length ≠ some q
          rw [HLEN.out]
          exact HO.out.2.2
        · exact ((HBW.out.setCell (p := ⟨b, off + k * 2 + 1, none⟩) (by simp; omega) _).setCell (p := ⟨w.heap.size + 1, 0, none⟩) (by simp) _).setCell (p := ⟨w.heap.size + 1, 1, none⟩) (by simp) _
      · go_wp2_with fail
        go_round
        case rel =>
          refine ⟨k + 1, by omega, by go_num, fun j hj hjk => ?_⟩
          by_cases hjk' : j = k
          · subst hjk'; exact he
          · exact SEEN.out j hj (by omega)
        case measure => simp [intOf]; omega
    · obtain rfl : k = F.dir.length := by omega
      clear hlt hk
      go_wp2_with ((with_reducible show wpList _ _ _ (⟨some 39, _, _, _, _, _⟩ :: _) _ _); refine wpList_append_grow _ rfl (.tmp 34) (.tmp 38) 24 rfl 63 j0 _ 2 24 Try.underlying24 hj hy0 hy1 hy2 rfl (by decide) (w.heap.size + 2) (.slice a2 F.dir.length p2) rfl F.dir.length (dirs F.dir) (dirs_length _) ?_ ⟨W.heap.size, 0, none⟩ 1 1 rfl [.int .i64 at_, .string x] (by decide) rfl ?_ ?_ (by unfold maxLen; omega) (by omega) (by simp; omega) ?_)
      · exact HG.out.below (alloc_below _ _) (Nat.le_refl _)
      · exact ⟨rfl, rfl⟩
      · intro ad' cap w2 ho hgr hblk
        have hzz : (W.alloc (.cells #[.int .i64 at_, .string x] 63)).heap.size = W.heap.size + 1 := by simp
        have hbA : Below W.heap.size W (W.alloc (.cells #[.int .i64 at_, .string x] 63)) := alloc_below _ _
        have hng : ∀ q, (q = g ∨ q < w.heap.size + 2) → blk (.slice a2 F.dir.length p2) F.dir.length ≠ some q := fun q hq e => by have := HK2.out q e; omega
        have hsk : ∀ q, blk (.slice a1 F.sec.length p1) F.sec.length = some q → q < W.heap.size ∧ w.heap.size + 2 ≤ q ∧ blk (.slice a2 F.dir.length p2) F.dir.length ≠ some q := fun q hq => ⟨(HO.out.1.blk q hq).2, (HO.out.1.blk q hq).1, HO.out.2.2 q hq⟩
        replace g0 := (grown_keep hgr (k := g) (by simp; omega) (hng _ (.inl rfl)) 0).1.trans ((hbA.cell (p := ⟨g, 0, none⟩) hz1).trans g0)
        replace g1 := (grown_keep hgr (k := g) (by simp; omega) (hng _ (.inl rfl)) 1).1.trans ((hbA.cell (p := ⟨g, 1, none⟩) hz1).trans g1)
        replace g2 := (grown_keep hgr (k := g) (by simp; omega) (hng _ (.inl rfl)) 1).2.trans ((hbA.frozen (p := ⟨g, 1, none⟩) hz1).trans g2)
        replace r0 := (grown_keep hgr (k := w.heap.size + 1) (by simp; omega) (hng _ (.inr (by omega))) 0).1.trans ((hbA.cell (p := ⟨w.heap.size + 1, 0, none⟩) (by simp; omega)).trans r0)
        replace r1 := (grown_keep hgr (k := w.heap.size + 1) (by simp; omega) (hng _ (.inr (by omega))) 1).1.trans ((hbA.cell (p := ⟨w.heap.size + 1, 1, none⟩) (by simp; omega)).trans r1)
        replace s0 := (grown_keep hgr (k := w.heap.size + 1) (by simp; omega) (hng _ (.inr (by omega))) 0).2.trans ((hbA.frozen (p := ⟨w.heap.size + 1, 0, none⟩) (by simp; omega)).trans s0)
        replace s1 := (grown_keep hgr (k := w.heap.size + 1) (by simp; omega) (hng _ (.inr (by omega))) 1).2.trans ((hbA.frozen (p := ⟨w.heap.size + 1, 1, none⟩) (by simp; omega)).trans s1)
        have hO : O = F.dir ++ [(at_, x)] := H0.out.trans (put_miss at_ x F.dir (fun j hj => SEEN.out j hj hj))
        rw [← dirs_append, ← hO] at ho
        have HLEN := Lib.hid (show O.length = F.dir.length + 1 by rw [hO]; simp)
        have HOD := Lib.hid ho
        have HGR := Lib.hid hgr
        have HBLK := Lib.hid hblk
        have HSK := Lib.hid hsk
        have HBA := Lib.hid hbA
        have n1 : ¬ g = w.heap.size + 1 := by omega
        have n2 : ¬ w.heap.size + 1 = g := by omega
        clear ho hgr hblk hsk hbA hng hzz hO H0 hj hy0 hy1 hy2
        go_wp2_with fail
        have hW2 : Below w.heap.size w w2 := (HBW.out.trans (HBA.out.mono (by omega))).grown HGR.out (by simp; omega) (fun q hq => by have := HK2.out q hq; omega)
        have hS : Own w2 (w.heap.size + 2) (.slice a1 F.sec.length p1) F.sec.length 1 (strs F.sec) := (HO.out.1.below HBA.out (Nat.le_refl _)).two (s := none) (two_right HGR.out) (fun q hq => ⟨by simp, fun e => (HSK.out q hq).2.2 e.symm⟩)
        have hD : ∀ q, blk (.slice ad' (F.dir.length + 1) cap) (F.dir.length + 1) = some q → q ≠ g ∧ q ≠ w.heap.size + 1 ∧ blk (.slice a1 F.sec.length p1) F.sec.length ≠ some q := fun q hq => by
          have q1 := (HOD.out.blk q hq).1
          rcases HBLK.out q hq with e | e
          · have := HK2.out q e
            exact ⟨by omega, by omega, fun e2 => (HSK.out q e2).2.2 e⟩
          · (try simp at e)
            exact ⟨by omega, by omega, fun e2 => by have := (HSK.out q e2).1; omega⟩
        refine bodyPost_ret (v := .agg #[.slice a1 F.sec.length p1, .slice ad' (F.dir.length + 1) cap]) (by simp [results, Try.results42, go_sem, r0, r1, n1, n2]) rfl ⟨_, _, rfl, ⟨?_, ?_, ?_⟩, ?_⟩
        · refine Own.other (Own.other (Own.other (hS.lower (by omega)) _ _ (fun q hq => ?_)) _ _ (fun q hq => ?_)) _ _ (fun q hq => ?_) <;> (have := HK1.out q hq; simp; omega)
        · show Own _ _ _ O.length 2 (dirs O)
          rw [HLEN.out]
          refine Own.other (Own.other (Own.other (HOD.out.lower (by omega)) _ _ (fun q hq => ?_)) _ _ (fun q hq => ?_)) _ _ (fun q hq => ?_)
          · exact (hD q hq).1
          · exact (hD q hq).2.1
          · exact (hD q hq).2.1
        · show ∀ q, blk _ F.sec.length = some q → blk _ O.length ≠ some q
          rw [HLEN.out]
          exact fun q h1 h2 => (hD q h2).2.2 h1
        · exact ((hW2.setCell (p := ⟨g, 1, none⟩) (by simp; omega) _).setCell (p := ⟨w.heap.size + 1, 0, none⟩) (by simp) _).setCell (p := ⟨w.heap.size + 1, 1, none⟩) (by simp) _
end Go.Proofs.Ytkeimgglikdbfaa

namespace Go.Proofs.Ytkeimgglikdbfaa
open Go.RowKit

/-- Block n holds just these cells. -/
def Bx (w : World) (n : Nat) (T : TypeId) (vs : Array Value) : Prop := w.heap[n]? = some (.cells vs T (0, 0))
theorem bx_new (w : World) (T : TypeId) (vs : Array Value) : Bx (w.alloc (.cells vs T)) w.heap.size T vs := heap_alloc_new w _
theorem Bx.lt {w : World} {n : Nat} {T : TypeId} {vs : Array Value} (h : Bx w n T vs) : n < w.heap.size := (Array.getElem?_eq_some_iff.1 h).1
theorem Bx.below {w w' : World} {n B : Nat} {T : TypeId} {vs : Array Value} (h : Bx w n T vs) (hb : Below B w w') (hB : n < B) : Bx w' n T vs := (hb.block n hB).trans h
theorem Bx.next {w w' : World} {n : Nat} {T : TypeId} {vs : Array Value} (h : Bx w n T vs) (hb : Below w.heap.size w w') : Bx w' n T vs := (hb.block n h.lt).trans h
theorem Bx.two {w w' : World} {n : Nat} {T : TypeId} {vs : Array Value} {s d : Option Nat} (h : Bx w n T vs) (ht : Two s d w w') (h1 : some n ≠ s) (h2 : some n ≠ d) : Bx w' n T vs := (ht.block n h.lt h1 h2).trans h
theorem Bx.grown {w w' : World} {n : Nat} {T : TypeId} {vs : Array Value} {s : Option Nat} (h : Bx w n T vs) (hg : w.grownBy w' s) (h1 : some n ≠ s) : Bx w' n T vs := (hg.block n h.lt h1).trans h
theorem Bx.cell {w : World} {n : Nat} {T : TypeId} {vs : Array Value} (h : Bx w n T vs) (j : Nat) : w.cell? ⟨n, j, none⟩ = vs[j]? := cell_of_row w n j _ _ _ h
theorem Bx.frozen {w : World} {n : Nat} {T : TypeId} {vs : Array Value} (h : Bx w n T vs) (j : Nat) : w.frozen? ⟨n, j, none⟩ = false := frozen_of_row w n j _ _ h
theorem Bx.c0 {w : World} {n : Nat} {T : TypeId} {a b : Value} (h : Bx w n T #[a, b]) : w.cell? ⟨n, 0, none⟩ = some a := h.cell 0
theorem Bx.c1 {w : World} {n : Nat} {T : TypeId} {a b : Value} (h : Bx w n T #[a, b]) : w.cell? ⟨n, 1, none⟩ = some b := h.cell 1
theorem Bx.q0 {w : World} {n : Nat} {T : TypeId} {a b c d : Value} (h : Bx w n T #[a, b, c, d]) : w.cell? ⟨n, 0, none⟩ = some a := h.cell 0
theorem Bx.q1 {w : World} {n : Nat} {T : TypeId} {a b c d : Value} (h : Bx w n T #[a, b, c, d]) : w.cell? ⟨n, 1, none⟩ = some b := h.cell 1
theorem Bx.q2 {w : World} {n : Nat} {T : TypeId} {a b c d : Value} (h : Bx w n T #[a, b, c, d]) : w.cell? ⟨n, 2, none⟩ = some c := h.cell 2
theorem Bx.q3 {w : World} {n : Nat} {T : TypeId} {a b c d : Value} (h : Bx w n T #[a, b, c, d]) : w.cell? ⟨n, 3, none⟩ = some d := h.cell 3
theorem Bx.t0 {w : World} {n : Nat} {T : TypeId} {a b c : Value} (h : Bx w n T #[a, b, c]) : w.cell? ⟨n, 0, none⟩ = some a := h.cell 0
theorem Bx.t1 {w : World} {n : Nat} {T : TypeId} {a b c : Value} (h : Bx w n T #[a, b, c]) : w.cell? ⟨n, 1, none⟩ = some b := h.cell 1
theorem Bx.t2 {w : World} {n : Nat} {T : TypeId} {a b c : Value} (h : Bx w n T #[a, b, c]) : w.cell? ⟨n, 2, none⟩ = some c := h.cell 2
theorem Bx.set {w : World} {n j : Nat} {T : TypeId} {vs : Array Value} (h : Bx w n T vs) (x : Value) : Bx (w.setCell ⟨n, j, none⟩ x) n T (vs.setIfInBounds j x) := heap_setCell_same w n j _ T x h
theorem Bx.other {w : World} {n : Nat} {T : TypeId} {vs : Array Value} (h : Bx w n T vs) (p : Addr) (x : Value) (hp : n ≠ p.block) : Bx (w.setCell p x) n T vs := (Below.heap_setCell w p x n hp).trans h
theorem below_alloc1 (w : World) (o : Obj) : Below w.heap.size w (w.alloc o) := (Below.refl _ w).alloc (Nat.le_refl _) o
theorem size_alloc1 (w : World) (o : Obj) : (w.alloc o).heap.size = w.heap.size + 1 := by simp
theorem FOwn.two {w w' : World} {lo : Nat} {sv dv : Value} {F : FM} {s d : Option Nat} (h : FOwn w lo sv dv F) (ht : Two s d w w') (hne : ∀ k, (blk sv F.sec.length = some k ∨ blk dv F.dir.length = some k) → some k ≠ s ∧ some k ≠ d) : FOwn w' lo sv dv F :=
  ⟨h.1.two ht fun k hk => hne k (.inl hk), h.2.1.two ht fun k hk => hne k (.inr hk), h.2.2⟩
theorem FOwn.in {w : World} {lo : Nat} {sv dv : Value} {F : FM} (h : FOwn w lo sv dv F) : ∀ k, (blk sv F.sec.length = some k ∨ blk dv F.dir.length = some k) → lo ≤ k ∧ k < w.heap.size := fun k hk => by
  rcases hk with hk | hk
  · exact h.1.blk k hk
  · exact h.2.1.blk k hk
theorem FMarked.below {w w' : World} {lo n m k B : Nat} {sv dv : Value} (h : FMarked w lo sv dv n m k) (hb : Below B w w') (hB : w.heap.size ≤ B) : FMarked w' lo sv dv n m k := ⟨h.1.below hb hB, h.2.1.below hb hB, h.2.2⟩
theorem Two.keepBelow {s d : Option Nat} {w w' : World} {lo : Nat} (ht : Two s d w w') (h : ∀ k, (s = some k ∨ d = some k) → lo ≤ k) (hw : lo ≤ w.heap.size) : Below lo w w' := ht.below (fun k e => h k (.inl e)) (fun k e => h k (.inr e)) hw
end Go.Proofs.Ytkeimgglikdbfaa
