/- A flash in the laws: copied, measured, compared, marked. -/
import Derived.Test.YtcckpkcjekcajaaDoorLDirty
namespace Go.Proofs.YtcckpkcjekcajaaDoor
open Go.RowKit

/-- A flash as the mathematics has it. -/
structure FM where
  sec : List ByteArray
  dir : List D
def FRd (w : World) (sv dv : Value) (F : FM) : Prop := Rd w sv F.sec.length 1 (strs F.sec) ∧ Rd w dv F.dir.length 2 (dirs F.dir)
/-- A flash of the call's own; its two slices lie apart. -/
def FOwn (w : World) (lo : Nat) (sv dv : Value) (F : FM) : Prop :=
  Own w lo sv F.sec.length 1 (strs F.sec) ∧ Own w lo dv F.dir.length 2 (dirs F.dir) ∧ ∀ k, blk sv F.sec.length = some k → blk dv F.dir.length ≠ some k
def FMade (w : World) (F : FM) (e : Ending) (w' : World) : Prop := ∃ sv dv, e = .returned (.agg #[sv, dv]) ∧ FOwn w' w.heap.size sv dv F ∧ Below w.heap.size w w'
/-- What a flash may take, and how great its parts are. -/
def FFits (F : FM) : Prop := F.sec.length ≤ 1048576 ∧ F.dir.length ≤ 1048576
def FReach (F : FM) : Prop := F.sec.length ≤ maxLen ∧ F.dir.length ≤ maxLen ∧ (∀ s ∈ F.sec, s.size ≤ maxLen) ∧ ∀ d ∈ F.dir, d.2.size ≤ maxLen
theorem FRd.below {w w' : World} {sv dv : Value} {F : FM} {B : Nat} (h : FRd w sv dv F) (hb : Below B w w') (hB : w.heap.size ≤ B) : FRd w' sv dv F := ⟨h.1.below hb hB, h.2.below hb hB⟩
theorem FOwn.below {w w' : World} {lo : Nat} {sv dv : Value} {F : FM} {B : Nat} (h : FOwn w lo sv dv F) (hb : Below B w w') (hB : w.heap.size ≤ B) : FOwn w' lo sv dv F := ⟨h.1.below hb hB, h.2.1.below hb hB, h.2.2⟩
theorem FOwn.rd {w : World} {lo : Nat} {sv dv : Value} {F : FM} (h : FOwn w lo sv dv F) : FRd w sv dv F := ⟨h.1.rd, h.2.1.rd⟩
theorem FOwn.lower {w : World} {lo lo' : Nat} {sv dv : Value} {F : FM} (h : FOwn w lo sv dv F) (hl : lo' ≤ lo) : FOwn w lo' sv dv F := ⟨h.1.lower hl, h.2.1.lower hl, h.2.2⟩
theorem two_cells {w w1 : World} {K : Nat} {T : TypeId} {a b : Value} (hb : Below K (w.alloc (.cells #[a, b] T)) w1) (hK : w.heap.size < K) : w1.cell? ⟨w.heap.size, 0, none⟩ = some a ∧ w1.cell? ⟨w.heap.size, 1, none⟩ = some b := by
  have hc : ∀ j, w1.cell? ⟨w.heap.size, j, none⟩ = (#[a, b] : Array Value)[j]? := fun j =>
    (hb.cell (p := ⟨w.heap.size, j, none⟩) hK).trans (World.cell?_alloc_new (w := w) #[a, b] T j)
  exact ⟨hc 0, hc 1⟩

/-- A flash all of whose cells are marked from k on. -/
def FMarked (w : World) (lo : Nat) (sv dv : Value) (n m k : Nat) : Prop :=
  Own w lo sv n 1 (marks k n) ∧ Own w lo dv m 2 (marksD (k + n) m) ∧ ∀ j, blk sv n = some j → blk dv m ≠ some j
end Go.Proofs.YtcckpkcjekcajaaDoor
