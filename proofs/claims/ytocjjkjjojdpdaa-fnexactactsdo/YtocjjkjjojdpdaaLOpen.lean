/- A flash that came in, opened. -/
import Derived.Test.YtocjjkjjojdpdaaLFlash
import Derived.Test.YtocjjkjjojdpdaaInts
import Derived.ProofKit
import Derived.OpenShut
import Derived.Deep.Strs
import Derived.Deep.SlicePairs
import Derived.Lib.SmallJoins
namespace Go.Proofs.Ytocjjkjjojdpdaa
open Go.RowKit Go.ChangeShapes Go.WideShapes Go.Deep

theorem spot_of {w : World} {x : Addr} {v : Value} (h : w.cell? x = some v) : x.spot = none ∧ x.block < w.heap.size := by
  unfold World.cell? at h
  split at h
  · rename_i c e f hb
    refine ⟨?_, (Array.getElem?_eq_some_iff.1 hb).1⟩
    cases hs : x.spot with
    | none => rfl
    | some _ => simp [hs] at h
  · simp at h
theorem addr_of (x : Addr) (h : x.spot = none) : x = ⟨x.block, x.off, none⟩ := by cases x; simp at h; simp [h]

section
variable {H : Type} {enc : TypeId × Value → H} {W : World} {base : Nat} {spare : Nat → Bool} {held : Bool}

theorem open_sec {fuel : Nat} {v : Value} {y : DataW H × List MemPlace} (h : DataW.trod enc Try.prog W base spare held fuel 24 [v] = some y) :
    ∃ l : List ByteArray, Rd W v l.length 1 (strs l) ∧ l.length ≤ maxLen ∧ ∀ s ∈ l, s.size ≤ maxLen := by
  rcases open_strs Try.underlying24 Try.underlying9 (by kernel_rfl) h with ⟨hcs, _⟩ | ⟨x, len, cap, m, S, hcs, _, hl, hm, hmm, _, hc⟩
  · simp at hcs; subst hcs
    exact ⟨[], ⟨rfl, _, _, rfl, fun h => absurd h (Nat.lt_irrefl 0)⟩, by simp [maxLen], by simp⟩
  · simp at hcs; subst hcs
    have hlm : len ≤ m := by rw [hmm]; split <;> omega
    refine ⟨(List.range len).map S, ⟨by simp [strs], some x, cap, by simp, fun h0 => ?_⟩, by simp; omega, fun s hs => ?_⟩
    · rw [List.length_map, List.length_range] at h0
      have h00 := (hc 0 (by omega)).1
      rw [show x.add 0 = x by simp [Addr.add]] at h00
      obtain ⟨hs, hb⟩ := spot_of h00
      refine ⟨x.block, x.off, congrArg some (addr_of x hs), hb, fun j hj => ?_⟩
      have hj' : j < len := by simpa using hj
      have := (hc j (by omega)).1
      rw [addr_of x hs, Addr.add_lit] at this
      rw [this]; simp [strs, hj']
    · obtain ⟨i, hi, rfl⟩ := List.mem_map.1 hs
      exact (hc i (by have := List.mem_range.1 hi; omega)).2

theorem dirs_map (f : Nat → D) : ∀ n : Nat, dirs ((List.range n).map f) = (List.range n).flatMap fun i => [.int .i64 (f i).1, .string (f i).2] := by
  intro n
  have : ∀ l : List Nat, dirs (l.map f) = l.flatMap fun i => [.int .i64 (f i).1, .string (f i).2] := by
    intro l
    induction l with
    | nil => rfl
    | cons a l ih => simp [dirs, ih]
  exact this _

theorem open_dir {fuel : Nat} {v : Value} {y : DataW H × List MemPlace} (h : DataW.trod enc Try.prog W base spare held fuel 25 [v] = some y) :
    ∃ l : List D, Rd W v l.length 2 (dirs l) ∧ l.length ≤ maxLen ∧ ∀ d ∈ l, d.2.size ≤ maxLen := by
  rcases open_slice_pairs Try.underlying25 Try.underlying81 (by kernel_rfl) rfl rfl (by kernel_rfl) (by kernel_rfl) h with ⟨hcs, _⟩ | ⟨x, len, cap, m, n, V0, V1, D0, D1, P0, P1, hcs, _, hl, hm, hmm, _, hc⟩
  · simp at hcs; subst hcs
    exact ⟨[], ⟨rfl, _, _, rfl, fun h => absurd h (Nat.lt_irrefl 0)⟩, by simp [maxLen], by simp⟩
  · simp at hcs; subst hcs
    have hlm : len ≤ m := by rw [hmm]; split <;> omega
    have each : ∀ i, i < len → ∃ d : D, V0 i = .int .i64 d.1 ∧ V1 i = .string d.2 ∧ d.2.size ≤ maxLen := fun i hi => by
      obtain ⟨_, _, g0, g1⟩ := hc i (by omega)
      obtain ⟨a, q1, _, _⟩ := DataW.trod_int Try.underlying2 g0
      obtain ⟨s, q2, _, q3⟩ := DataW.trod_string Try.underlying9 g1
      simp at q1 q2
      exact ⟨(a, s), q1, q2, q3⟩
    obtain ⟨d, hd⟩ := choose_lt each
    refine ⟨(List.range len).map d, ⟨by rw [dirs_length], some x, cap, by simp, fun h0 => ?_⟩, by simp; omega, fun s hs => ?_⟩
    · rw [List.length_map, List.length_range] at h0
      have h00 := (hc 0 (by omega)).1
      rw [show x.add (0 * 2) = x by simp [Addr.add]] at h00
      obtain ⟨hs, hb⟩ := spot_of h00
      refine ⟨x.block, x.off, congrArg some (addr_of x hs), hb, fun j hj => ?_⟩
      have hj' : j < len * 2 := by simpa using hj
      obtain ⟨k, hk, hkj⟩ : ∃ k, k < len ∧ (j = k * 2 ∨ j = k * 2 + 1) := ⟨j / 2, by omega, by omega⟩
      have hk2 : k < ((List.range len).map d).length := by simpa using hk
      obtain ⟨c0, c1, _, _⟩ := hc k (by omega)
      rw [addr_of x hs, Addr.add_lit] at c0 c1
      obtain ⟨e0, e1, _⟩ := hd k hk
      rcases hkj with rfl | rfl
      · rw [dirs_even _ k hk2, c0, e0]; simp
      · rw [dirs_odd _ k hk2, c1, e1]; simp
    · obtain ⟨i, hi, rfl⟩ := List.mem_map.1 hs
      exact (hd i (List.mem_range.1 hi)).2.2

set_option maxRecDepth 100000 in
theorem open_flash {r : Reach} {b0 : Nat} {v : Value} {d : DataW H} {p : List MemPlace} (hv : Value.okWide Try.prog W r b0 27 v) (h : DataW.Trod enc Try.prog W base spare held 27 v d p) :
    ∃ sv dv F, v = .agg #[sv, dv] ∧ FRd W sv dv F ∧ FReach F := by
  obtain ⟨v0, v1, y0, y1, n, rfl, _, _, h0, h1⟩ := Joins.open_agg2 Try.underlying27 (by kernel_rfl) (by kernel_rfl) hv h
  obtain ⟨l0, a0, a1, a2⟩ := open_sec h0
  obtain ⟨l1, b0, b1, b2⟩ := open_dir h1
  exact ⟨v0, v1, ⟨l0, l1⟩, rfl, ⟨a0, b0⟩, ⟨a1, b1, a2, b2⟩⟩
set_option maxRecDepth 100000 in
theorem open_i64s {r : Reach} {b0 : Nat} {v : Value} {d : DataW H} {p : List MemPlace} (hv : Value.okWide Try.prog W r b0 91 v) (h : DataW.Trod enc Try.prog W base spare held 91 v d p) :
    ∃ l : List Int, Rd W v l.length 1 (ints l) ∧ l.length ≤ maxLen ∧ ∀ f ∈ l, -9223372036854775808 ≤ f ∧ f ≤ 9223372036854775807 := by
  obtain ⟨a, len, cap, rfl⟩ := okWide_slice Try.underlying91 hv
  obtain ⟨fuel, hf⟩ := h
  rcases open_ints Try.underlying91 Try.underlying2 (by kernel_rfl) hf with ⟨hcs, _⟩ | ⟨x, l, c, zs, hcs, _, hl, hm, hz, _, hcell, hwz⟩
  · simp [Value.cells] at hcs
    obtain ⟨rfl, rfl, rfl⟩ := hcs
    exact ⟨[], ⟨rfl, _, _, rfl, fun h => absurd h (Nat.lt_irrefl 0)⟩, by simp [maxLen], by simp⟩
  · simp [Value.cells] at hcs
    obtain ⟨rfl, rfl, rfl⟩ := hcs
    have hzl : len ≤ zs.length := by rw [hz]; split <;> omega
    have hlen : (zs.take len).length = len := by rw [List.length_take]; omega
    refine ⟨zs.take len, ⟨by rw [ints_length]; omega, some x, cap, by rw [hlen], fun h0 => ?_⟩, by rw [hlen]; omega, fun f hf => bounds_i64 (hwz f (List.mem_of_mem_take hf))⟩
    rw [hlen] at h0 ⊢
    have h00 := hcell 0 (by omega)
    rw [show x.add 0 = x by simp [Addr.add]] at h00
    obtain ⟨hs, hb⟩ := spot_of h00
    refine ⟨x.block, x.off, congrArg some (addr_of x hs), hb, fun j hj => ?_⟩
    have := hcell j (by omega)
    rw [addr_of x hs, Addr.add_lit] at this
    rw [this, ints_at _ j (by rw [hlen]; omega)]
    simp [show j < zs.length by omega]
end
end Go.Proofs.Ytocjjkjjojdpdaa
