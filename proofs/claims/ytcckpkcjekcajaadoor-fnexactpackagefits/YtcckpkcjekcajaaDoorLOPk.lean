/- A package that came in. -/
import Derived.Test.YtcckpkcjekcajaaDoorLOStep
import Derived.Test.YtcckpkcjekcajaaDoorKR
namespace Go.Proofs.YtcckpkcjekcajaaDoor
open Go.RowKit Go.ChangeShapes Go.WideShapes Go.Deep
section
variable {H : Type} {enc : TypeId × Value → H} {W : World} {base : Nat} {spare : Nat → Bool} {held : Bool}
set_option maxRecDepth 100000 in
theorem open_stpsF {fuel : Nat} {v : Value} {y : DataW H × List MemPlace} (hf : DataW.trod enc Tryd.prog W base spare held fuel 43 [v] = some y) :
    ∃ l : List stpT, Rd W v l.length 4 (stpCs l) ∧ l.length ≤ maxLen ∧ ∀ d ∈ l, Fitstp d := by
  rcases open_rows4 Tryd.underlying43 Tryd.underlying115 (by kernel_rfl) rfl rfl rfl rfl (by kernel_rfl) (by kernel_rfl) (by kernel_rfl) (by kernel_rfl) hf with hcs | ⟨x, len, cap, n, hcs, hl, hm, hc⟩
  · simp at hcs
    subst hcs
    exact ⟨[], ⟨rfl, _, _, rfl, fun h => absurd h (Nat.lt_irrefl 0)⟩, by simp [maxLen], by simp⟩
  · simp at hcs
    subst hcs
    have each : ∀ i, i < len → ∃ d : stpT, W.cell? (x.add (i * 4)) = some (.int .i64 d.1) ∧ W.cell? (x.add (i * 4 + 1)) = some (.int .i64 d.2.1) ∧ W.cell? (x.add (i * 4 + 2)) = some (.int .i64 d.2.2.1) ∧ W.cell? (x.add (i * 4 + 3)) = some (.string d.2.2.2) ∧ Fitstp d := fun i hi => by
      obtain ⟨v0, v1, v2, v3, y0, y1, y2, y3, k0, k1, k2, k3, g0, g1, g2, g3⟩ := hc i hi
      obtain ⟨z0, q0, _, b0⟩ := DataW.trod_int Tryd.underlying2 g0
      obtain ⟨z1, q1, _, b1⟩ := DataW.trod_int Tryd.underlying2 g1
      obtain ⟨z2, q2, _, b2⟩ := DataW.trod_int Tryd.underlying2 g2
      obtain ⟨z3, q3, _, b3⟩ := DataW.trod_string Tryd.underlying9 g3
      simp at q0 q1 q2 q3
      subst q0 q1 q2 q3
      exact ⟨(z0, z1, z2, z3), k0, k1, k2, k3, (bounds_i64 b0).1, (bounds_i64 b0).2, (bounds_i64 b1).1, (bounds_i64 b1).2, (bounds_i64 b2).1, (bounds_i64 b2).2, b3⟩
    obtain ⟨d, hd⟩ := choose_lt each
    refine ⟨(List.range len).map d, ⟨by rw [stpCs_length], some x, cap, by simp, fun h0 => ?_⟩, by simp; omega, fun s hs => ?_⟩
    · rw [List.length_map, List.length_range] at h0
      have h00 := (hd 0 (by omega)).1
      rw [show x.add (0 * 4) = x by simp [Addr.add]] at h00
      obtain ⟨hs, hb⟩ := spot_of h00
      refine ⟨x.block, x.off, congrArg some (addr_of x hs), hb, fun j hj => ?_⟩
      have hj' : j < len * 4 := by simpa using hj
      obtain ⟨k, hk, hkj⟩ : ∃ k, k < len ∧ (j = k * 4 ∨ j = k * 4 + 1 ∨ j = k * 4 + 2 ∨ j = k * 4 + 3) := ⟨j / 4, by omega, by omega⟩
      have hk2 : k < ((List.range len).map d).length := by simpa using hk
      obtain ⟨e0, e1, e2, e3, _⟩ := hd k hk
      rw [addr_of x hs, Addr.add_lit] at e0 e1 e2 e3
      rcases hkj with rfl | rfl | rfl | rfl
      · rw [stpCs_0 _ k hk2, e0]; simp
      · rw [stpCs_1 _ k hk2, e1]; simp
      · rw [stpCs_2 _ k hk2, e2]; simp
      · rw [stpCs_3 _ k hk2, e3]; simp
    · obtain ⟨i, hi, rfl⟩ := List.mem_map.1 hs
      exact (hd i (List.mem_range.1 hi)).2.2.2.2
set_option maxRecDepth 100000 in
theorem open_pk {r : Reach} {b0 : Nat} {v : Value} {d : DataW H} {p : List MemPlace} (hv : Value.okWide Tryd.prog W r b0 45 v) (h : DataW.Trod enc Tryd.prog W base spare held 45 v d p) :
    ∃ (x : pkT) (u : Value), v = pkV x.1 x.2.1 u ∧ Rd W u x.2.2.length 4 (stpCs x.2.2) ∧ x.2.2.length ≤ maxLen ∧ x.2.1.size ≤ maxLen ∧ ∀ s ∈ x.2.2, s.2.2.2.size ≤ maxLen := by
  obtain ⟨v0, v1, v2, y0, y1, y2, n, rfl, _, _, g0, g1, g2⟩ := Joins.open_agg3 Tryd.underlying45 (by kernel_rfl) (by kernel_rfl) hv h
  obtain ⟨z0, q0, _, b0⟩ := DataW.trod_int Tryd.underlying2 g0
  obtain ⟨z1, q1, _, b1⟩ := DataW.trod_string Tryd.underlying9 g1
  obtain ⟨l, hl, hn, hf⟩ := open_stpsF g2
  simp at q0 q1
  subst q0 q1
  exact ⟨(z0, z1, l), v2, rfl, hl, hn, b1, fun s hs => (hf s hs).2.2.2.2.2.2⟩
end
end Go.Proofs.YtcckpkcjekcajaaDoor
