/- What a law draws, in short words; a slice of bytes as the row's frame hands it. -/
import Derived.Test.YtcckpkcjekcajaaDoorSource
namespace Go.Proofs.YtcckpkcjekcajaaDoor
open Go.RowKit

/-- A string of which P holds; what was there is as it was. -/
def SomeS (P : ByteArray → Prop) (w : World) (e : Ending) (w' : World) : Prop := ∃ s, P s ∧ e = .returned (.string s) ∧ Below w.heap.size w w'
/-- A number of which P holds; the world is as it was. -/
def SomeN (P : Int → Prop) (w : World) (e : Ending) (w' : World) : Prop := ∃ v, P v ∧ e = .returned (.int .i64 v) ∧ w = w'

theorem zeros (n : Nat) : ((madeCells #[Value.int .u8 0] (n * 1)).toList).take n = (List.replicate n (0 : UInt8)).map B := by
  rw [Nat.mul_one, toList_madeCells_one]; simp [B]

theorem cell_facts {w : World} {x : Addr} {v : Value} (h : w.cell? x = some v) : x.spot = none ∧ x.block < w.heap.size := by
  unfold World.cell? at h
  split at h
  · rename_i c e f hb
    refine ⟨?_, (Array.getElem?_eq_some_iff.1 hb).1⟩
    cases hs : x.spot with
    | none => rfl
    | some _ => simp [hs] at h
  · simp at h
/-- A slice of bytes as the row's frame hands it. -/
theorem bytes_of {w : World} {x : Addr} {len : Nat} {zs : List Int} (hl : len ≤ zs.length)
    (hc : ∀ i, i < zs.length → w.cell? (x.add i) = some (.int .u8 (zs.getD i 0))) (hwf : ∀ n ∈ zs, (Lit.int .u8 n).wf = true) : Bytes w (some x) len := fun h0 => by
  have hx := hc 0 (by omega)
  rw [show x.add 0 = x by simp [Addr.add]] at hx
  obtain ⟨hs, hb⟩ := cell_facts hx
  refine ⟨x, rfl, hs, hb, fun i hi => ?_⟩
  have hm : zs.getD i 0 ∈ zs := by
    rw [List.getD_eq_getElem?_getD, List.getElem?_eq_getElem (by omega)]; exact List.getElem_mem _
  have hz := hwf _ hm
  have hz' : 0 ≤ zs.getD i 0 ∧ zs.getD i 0 < 256 := by
    simp only [Lit.wf, Bool.and_eq_true, decide_eq_true_eq] at hz
    have e0 : IntKind.u8.min = 0 := rfl
    have e1 : IntKind.u8.max = 255 := rfl
    omega
  obtain ⟨z, hz2⟩ := Int.eq_ofNat_of_zero_le hz'.1
  refine ⟨z, by omega, ?_⟩
  have := hc i (by omega)
  rw [hz2] at this
  rw [← this]
  congr 1
  simp only [Addr.add]
  split
  · subst_vars; cases x; simp at hs; simp [hs]
  · cases x; simp
end Go.Proofs.YtcckpkcjekcajaaDoor
