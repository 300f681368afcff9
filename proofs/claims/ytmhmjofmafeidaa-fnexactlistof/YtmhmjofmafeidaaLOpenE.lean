/- A list of extents that came in, opened. -/
import Derived.Test.YtmhmjofmafeidaaLOpen
import Derived.Test.YtmhmjofmafeidaaAIlo
namespace Go.Proofs.Ytmhmjofmafeidaa
open Go.RowKit Go.ChangeShapes Go.WideShapes Go.Deep

section
variable {H : Type} {enc : TypeId × Value → H} {W : World} {base : Nat} {spare : Nat → Bool} {held : Bool}
set_option maxRecDepth 100000 in
theorem open_exts {r : Reach} {b0 : Nat} {v : Value} {d : DataW H} {p : List MemPlace} (hv : Value.okWide Try.prog W r b0 49 v) (h : DataW.Trod enc Try.prog W base spare held 49 v d p) :
    ∃ l : List extT, Rd W v l.length 2 (extCs l) ∧ l.length ≤ maxLen ∧ FitE l := by
  obtain ⟨a, len, cap, rfl⟩ := okWide_slice Try.underlying49 hv
  obtain ⟨fuel, hf⟩ := h
  rcases open_slice_pairs Try.underlying49 Try.underlying73 (by kernel_rfl) rfl rfl (by kernel_rfl) (by kernel_rfl) hf with ⟨hcs, _⟩ | ⟨x, ll, cc, m, n, V0, V1, D0, D1, P0, P1, hcs, _, hl, hm, hmm, _, hc⟩
  · simp [Value.cells] at hcs
    obtain ⟨rfl, rfl, rfl⟩ := hcs
    exact ⟨[], ⟨rfl, _, _, rfl, fun h => absurd h (Nat.lt_irrefl 0)⟩, by simp [maxLen], fun j h => absurd h (by simp)⟩
  · simp [Value.cells] at hcs
    obtain ⟨rfl, rfl, rfl⟩ := hcs
    have hlm : len ≤ m := by rw [hmm]; split <;> omega
    have each : ∀ i, i < len → ∃ d : extT, V0 i = .int .i64 d.1 ∧ V1 i = .int .i64 d.2 ∧ -9223372036854775808 ≤ d.1 ∧ d.1 ≤ 9223372036854775807 := fun i hi => by
      obtain ⟨_, _, g0, g1⟩ := hc i (by omega)
      obtain ⟨a, q1, _, q3⟩ := DataW.trod_int Try.underlying2 g0
      obtain ⟨s, q2, _, _⟩ := DataW.trod_int Try.underlying2 g1
      simp at q1 q2
      exact ⟨(a, s), q1, q2, bounds_i64 q3⟩
    obtain ⟨d, hd⟩ := choose_lt each
    refine ⟨(List.range len).map d, ⟨by rw [extCs_length], some x, cap, by simp, fun h0 => ?_⟩, by simp; omega, fun j hj => ?_⟩
    · rw [List.length_map, List.length_range] at h0
      have h00 := (hc 0 (by omega)).1
      rw [show x.add (0 * 2) = x by simp [Addr.add]] at h00
      obtain ⟨hs, hb⟩ := spot_of h00
      refine ⟨x.block, x.off, congrArg some (addr_of x hs), hb, fun j hj => ?_⟩
      have hj' : j < len * 2 := by simpa using hj
      obtain ⟨k, hk, hkj⟩ : ∃ k, k < len ∧ (j = k * 2 ∨ j = k * 2 + 1) := ⟨j / 2, by omega, by omega⟩
      have hk2 : k < ((List.range len).map d).length := by simpa using hk
      obtain ⟨c0, c1, _, _⟩ := hc k (by omega)
      rw [addr_of x hs, Addr.add_lit] at c0 c1
      obtain ⟨e0, e1, _⟩ := hd k hk
      rcases hkj with rfl | rfl
      · rw [extCs_0 _ k hk2, c0, e0]; simp
      · rw [extCs_1 _ k hk2, c1, e1]; simp
    · have hj' : j < len := by simpa using hj
      simpa using (hd j hj').2.2
end
end Go.Proofs.Ytmhmjofmafeidaa
