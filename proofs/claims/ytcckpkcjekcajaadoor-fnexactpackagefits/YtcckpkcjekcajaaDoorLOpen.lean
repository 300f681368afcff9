/- A flash that came in, opened. -/
import Derived.Test.YtcckpkcjekcajaaDoorLFlash
import Derived.Test.YtcckpkcjekcajaaDoorInts
import Derived.ProofKit
import Derived.OpenShut
import Derived.Deep.Strs
import Derived.Deep.SlicePairs
import Derived.Lib.SmallJoins
namespace Go.Proofs.YtcckpkcjekcajaaDoor
open Go.RowKit Go.ChangeShapes Go.WideShapes Go.Deep

theorem spot_of {w : World} {x : Addr} {v : Value} (h : w.cell? x = some v) : x.spot = none ∧ x.block < w.heap.size := by
  unfold World.cell? at h
  split at h
  · rename_i c e f hb
    refine ⟨?_, (Array.getElem?_eq_some_iff.1 hb).1⟩
    cases hs : x.spot with
    | none => rfl
    | some _ => simp [hs] at h
  · simp at h
theorem addr_of (x : Addr) (h : x.spot = none) : x = ⟨x.block, x.off, none⟩ := by cases x; simp at h; simp [h]

section
variable {H : Type} {enc : TypeId × Value → H} {W : World} {base : Nat} {spare : Nat → Bool} {held : Bool}

theorem open_sec {fuel : Nat} {v : Value} {y : DataW H × List MemPlace} (h : DataW.trod enc Tryd.prog W base spare held fuel 23 [v] = some y) :
    ∃ l : List ByteArray, Rd W v l.length 1 (strs l) ∧ l.length ≤ maxLen ∧ ∀ s ∈ l, s.size ≤ maxLen := by
  rcases open_strs Tryd.underlying23 Tryd.underlying9 (by kernel_rfl) h with ⟨hcs, _⟩ | ⟨x, len, cap, m, S, hcs, _, hl, hm, hmm, _, hc⟩
  · simp at hcs; subst hcs
    exact ⟨[], ⟨rfl, _, _, rfl, fun h => absurd h (Nat.lt_irrefl 0)⟩, by simp [maxLen], by simp⟩
  · simp at hcs; subst hcs
    have hlm : len ≤ m := by rw [hmm]; split <;> omega
    refine ⟨(List.range len).map S, ⟨by simp [strs], some x, cap, by simp, fun h0 => ?_⟩, by simp; omega, fun s hs => ?_⟩
    · rw [List.length_map, List.length_range] at h0
      have h00 := (hc 0 (by omega)).1
      rw [show x.add 0 = x by simp [Addr.add]] at h00
      obtain ⟨hs, hb⟩ := spot_of h00
      refine ⟨x.block, x.off, congrArg some (addr_of x hs), hb, fun j hj => ?_⟩
      have hj' : j < len := by simpa using hj
      have := (hc j (by omega)).1
      rw [addr_of x hs, Addr.add_lit] at this
      rw [this]; simp [strs, hj']
    · obtain ⟨i, hi, rfl⟩ := List.mem_map.1 hs
      exact (hc i (by have := List.mem_range.1 hi; omega)).2

theorem dirs_map (f : Nat → D) : ∀ n : Nat, dirs ((List.range n).map f) = (List.range n).flatMap fun i => [.int .i64 (f i).1, .string (f i).2] := by
  intro n
  have : ∀ l : List Nat, dirs (l.map f) = l.flatMap fun i => [.int .i64 (f i).1, .string (f i).2] := by
    intro l
    induction l with
    | nil => rfl
    | cons a l ih => simp [dirs, ih]
  exact this _

set_option maxRecDepth 100000 in
theorem open_i64s {r : Reach} {b0 : Nat} {v : Value} {d : DataW H} {p : List MemPlace} (hv : Value.okWide Tryd.prog W r b0 94 v) (h : DataW.Trod enc Tryd.prog W base spare held 94 v d p) :
    ∃ l : List Int, Rd W v l.length 1 (ints l) ∧ l.length ≤ maxLen ∧ ∀ f ∈ l, -9223372036854775808 ≤ f ∧ f ≤ 9223372036854775807 := by
  obtain ⟨a, len, cap, rfl⟩ := okWide_slice Tryd.underlying94 hv
  obtain ⟨fuel, hf⟩ := h
  rcases open_ints Tryd.underlying94 Tryd.underlying2 (by kernel_rfl) hf with ⟨hcs, _⟩ | ⟨x, l, c, zs, hcs, _, hl, hm, hz, _, hcell, hwz⟩
  · simp [Value.cells] at hcs
    obtain ⟨rfl, rfl, rfl⟩ := hcs
    exact ⟨[], ⟨rfl, _, _, rfl, fun h => absurd h (Nat.lt_irrefl 0)⟩, by simp [maxLen], by simp⟩
  · simp [Value.cells] at hcs
    obtain ⟨rfl, rfl, rfl⟩ := hcs
    have hzl : len ≤ zs.length := by rw [hz]; split <;> omega
    have hlen : (zs.take len).length = len := by rw [List.length_take]; omega
    refine ⟨zs.take len, ⟨by rw [ints_length]; omega, some x, cap, by rw [hlen], fun h0 => ?_⟩, by rw [hlen]; omega, fun f hf => bounds_i64 (hwz f (List.mem_of_mem_take hf))⟩
    rw [hlen] at h0 ⊢
    have h00 := hcell 0 (by omega)
    rw [show x.add 0 = x by simp [Addr.add]] at h00
    obtain ⟨hs, hb⟩ := spot_of h00
    refine ⟨x.block, x.off, congrArg some (addr_of x hs), hb, fun j hj => ?_⟩
    have := hcell j (by omega)
    rw [addr_of x hs, Addr.add_lit] at this
    rw [this, ints_at _ j (by rw [hlen]; omega)]
    simp [show j < zs.length by omega]
theorem lopen_end : True := trivial
end
end Go.Proofs.YtcckpkcjekcajaaDoor
