/- A flash that came in, opened. -/
import Derived.Test.YtnjfbokomihecaaLFlash
import Derived.Test.YtnjfbokomihecaaInts
import Derived.ProofKit
import Derived.OpenShut
import Derived.Deep.Strs
import Derived.Deep.SlicePairs
import Derived.Lib.SmallJoins
namespace Go.Proofs.Ytnjfbokomihecaa
open Go.RowKit Go.ChangeShapes Go.WideShapes Go.Deep

theorem spot_of {w : World} {x : Addr} {v : Value} (h : w.cell? x = some v) : x.spot = none ∧ x.block < w.heap.size := by
  unfold World.cell? at h
  split at h
  · rename_i c e f hb
    refine ⟨?_, (Array.getElem?_eq_some_iff.1 hb).1⟩
    cases hs : x.spot with
    | none => rfl
    | some _ => simp [hs] at h
  · simp at h
theorem addr_of (x : Addr) (h : x.spot = none) : x = ⟨x.block, x.off, none⟩ := by cases x; simp at h; simp [h]

section
variable {H : Type} {enc : TypeId × Value → H} {W : World} {base : Nat} {spare : Nat → Bool} {held : Bool}

theorem dirs_map (f : Nat → D) : ∀ n : Nat, dirs ((List.range n).map f) = (List.range n).flatMap fun i => [.int .i64 (f i).1, .string (f i).2] := by
  intro n
  have : ∀ l : List Nat, dirs (l.map f) = l.flatMap fun i => [.int .i64 (f i).1, .string (f i).2] := by
    intro l
    induction l with
    | nil => rfl
    | cons a l ih => simp [dirs, ih]
  exact this _

theorem lopen_end : True := trivial
end
end Go.Proofs.Ytnjfbokomihecaa
