/- laws.Step that came in, opened: by value, and slices of them. -/
import Derived.Test.YtcckpkcjekcajaaDoorLOpen
import Derived.Test.YtcckpkcjekcajaaDoorLStep
namespace Go.Proofs.YtcckpkcjekcajaaDoor
open Go.RowKit Go.ChangeShapes Go.WideShapes Go.Deep

def Fitstp (d : stpT) : Prop := -9223372036854775808 ≤ d.1 ∧ d.1 ≤ 9223372036854775807 ∧ -9223372036854775808 ≤ d.2.1 ∧ d.2.1 ≤ 9223372036854775807 ∧ -9223372036854775808 ≤ d.2.2.1 ∧ d.2.2.1 ≤ 9223372036854775807 ∧ d.2.2.2.size ≤ maxLen
section
variable {H : Type} {enc : TypeId × Value → H} {W : World} {base : Nat} {spare : Nat → Bool} {held : Bool}
theorem open_rows4 {P : Program} {t e : TypeId} {f0 f1 f2 f3 : Field} {fuel : Nat} {cs : List Value} {x : DataW H × List MemPlace} (ht : P.underlying t = some (.slice e)) (he : P.underlying e = some (.struct #[f0, f1, f2, f3]))
    (ce : P.cellsOf e = 4) (o0 : f0.offset = 0) (o1 : f1.offset = 1) (o2 : f2.offset = 2) (o3 : f3.offset = 3) (c0 : P.cellsOf f0.type = 1) (c1 : P.cellsOf f1.type = 1) (c2 : P.cellsOf f2.type = 1) (c3 : P.cellsOf f3.type = 1)
    (h : DataW.trod enc P W base spare held fuel t cs = some x) :
    cs = [.slice none 0 0] ∨
    ∃ (a : Addr) (len cap n : Nat), cs = [.slice (some a) len cap] ∧ len ≤ cap ∧ cap ≤ maxLen ∧
      ∀ i, i < len → ∃ v0 v1 v2 v3 y0 y1 y2 y3, W.cell? (a.add (i * 4)) = some v0 ∧ W.cell? (a.add (i * 4 + 1)) = some v1 ∧ W.cell? (a.add (i * 4 + 2)) = some v2 ∧ W.cell? (a.add (i * 4 + 3)) = some v3 ∧
        DataW.trod enc P W base spare held n f0.type [v0] = some y0 ∧ DataW.trod enc P W base spare held n f1.type [v1] = some y1 ∧ DataW.trod enc P W base spare held n f2.type [v2] = some y2 ∧ DataW.trod enc P W base spare held n f3.type [v3] = some y3 := by
  rcases open_slice ht h with h0 | ⟨a, len, cap, m, n, D, Pl, rfl, hb, hl, hm, hmm, rfl, hx⟩
  · exact Or.inl h0.1
  right
  have hlm : len ≤ m := by rw [hmm]; split <;> omega
  refine ⟨a, len, cap, n - 1, rfl, hl, hm, fun i hi => ?_⟩
  obtain ⟨cs', h1, h2⟩ := hx i (by omega)
  rw [ce] at h1
  obtain ⟨_, hlen, hcell⟩ := World.cells?_some h1
  obtain ⟨xs, k, hk, hxy, _, hxl, hf⟩ := DataW.trod_struct he h2
  have hk' : k = n - 1 := by omega
  subst hk'
  match xs, hxl, cs', hlen with
  | [y0, y1, y2, y3], _, [v0, v1, v2, v3], _ =>
    have g0 := hf 0 f0 rfl
    have g1 := hf 1 f1 rfl
    have g2 := hf 2 f2 rfl
    have g3 := hf 3 f3 rfl
    simp [o0, o1, o2, o3, c0, c1, c2, c3] at g0 g1 g2 g3
    have e0 := hcell 0 (by omega)
    have e1 := hcell 1 (by omega)
    have e2 := hcell 2 (by omega)
    have e3 := hcell 3 (by omega)
    rw [add_add] at e0 e1 e2 e3
    exact ⟨v0, v1, v2, v3, y0, y1, y2, y3, by simpa using e0, by simpa using e1, by simpa using e2, by simpa using e3, g0, g1, g2, g3⟩

set_option maxRecDepth 100000 in
theorem open_stps {r : Reach} {b0 : Nat} {v : Value} {d : DataW H} {p : List MemPlace} (hv : Value.okWide Tryd.prog W r b0 43 v) (h : DataW.Trod enc Tryd.prog W base spare held 43 v d p) :
    ∃ l : List stpT, Rd W v l.length 4 (stpCs l) ∧ l.length ≤ maxLen ∧ ∀ d ∈ l, Fitstp d := by
  obtain ⟨a, len, cap, rfl⟩ := okWide_slice Tryd.underlying43 hv
  obtain ⟨fuel, hf⟩ := h
  rcases open_rows4 Tryd.underlying43 Tryd.underlying115 (by kernel_rfl) rfl rfl rfl rfl (by kernel_rfl) (by kernel_rfl) (by kernel_rfl) (by kernel_rfl) hf with hcs | ⟨x, l, c, n, hcs, hl, hm, hc⟩
  · simp [Value.cells] at hcs
    obtain ⟨rfl, rfl, rfl⟩ := hcs
    exact ⟨[], ⟨rfl, _, _, rfl, fun h => absurd h (Nat.lt_irrefl 0)⟩, by simp [maxLen], by simp⟩
  · simp [Value.cells] at hcs
    obtain ⟨rfl, rfl, rfl⟩ := hcs
    have each : ∀ i, i < len → ∃ d : stpT, W.cell? (x.add (i * 4)) = some (.int .i64 d.1) ∧ W.cell? (x.add (i * 4 + 1)) = some (.int .i64 d.2.1) ∧ W.cell? (x.add (i * 4 + 2)) = some (.int .i64 d.2.2.1) ∧ W.cell? (x.add (i * 4 + 3)) = some (.string d.2.2.2) ∧ Fitstp d := fun i hi => by
      obtain ⟨v0, v1, v2, v3, y0, y1, y2, y3, k0, k1, k2, k3, g0, g1, g2, g3⟩ := hc i hi
      obtain ⟨z0, q0, _, b0⟩ := DataW.trod_int Tryd.underlying2 g0
      obtain ⟨z1, q1, _, b1⟩ := DataW.trod_int Tryd.underlying2 g1
      obtain ⟨z2, q2, _, b2⟩ := DataW.trod_int Tryd.underlying2 g2
      obtain ⟨z3, q3, _, b3⟩ := DataW.trod_string Tryd.underlying9 g3
      simp at q0 q1 q2 q3
      subst q0 q1 q2 q3
      exact ⟨(z0, z1, z2, z3), k0, k1, k2, k3, (bounds_i64 b0).1, (bounds_i64 b0).2, (bounds_i64 b1).1, (bounds_i64 b1).2, (bounds_i64 b2).1, (bounds_i64 b2).2, b3⟩
    obtain ⟨d, hd⟩ := choose_lt each
    refine ⟨(List.range len).map d, ⟨by rw [stpCs_length], some x, cap, by simp, fun h0 => ?_⟩, by simp; omega, fun s hs => ?_⟩
    · rw [List.length_map, List.length_range] at h0
      have h00 := (hd 0 (by omega)).1
      rw [show x.add (0 * 4) = x by simp [Addr.add]] at h00
      obtain ⟨hs, hb⟩ := spot_of h00
      refine ⟨x.block, x.off, congrArg some (addr_of x hs), hb, fun j hj => ?_⟩
      have hj' : j < len * 4 := by simpa using hj
      obtain ⟨k, hk, hkj⟩ : ∃ k, k < len ∧ (j = k * 4 ∨ j = k * 4 + 1 ∨ j = k * 4 + 2 ∨ j = k * 4 + 3) := ⟨j / 4, by omega, by omega⟩
      have hk2 : k < ((List.range len).map d).length := by simpa using hk
      obtain ⟨e0, e1, e2, e3, _⟩ := hd k hk
      rw [addr_of x hs, Addr.add_lit] at e0 e1 e2 e3
      rcases hkj with rfl | rfl | rfl | rfl
      · rw [stpCs_0 _ k hk2, e0]; simp
      · rw [stpCs_1 _ k hk2, e1]; simp
      · rw [stpCs_2 _ k hk2, e2]; simp
      · rw [stpCs_3 _ k hk2, e3]; simp
    · obtain ⟨i, hi, rfl⟩ := List.mem_map.1 hs
      exact (hd i (List.mem_range.1 hi)).2.2.2.2

set_option maxRecDepth 100000 in
theorem open_stp {r : Reach} {b0 : Nat} {v : Value} {d : DataW H} {p : List MemPlace} (hv : Value.okWide Tryd.prog W r b0 115 v) (h : DataW.Trod enc Tryd.prog W base spare held 115 v d p) :
    ∃ x : stpT, v = .agg #[.int .i64 x.1, .int .i64 x.2.1, .int .i64 x.2.2.1, .string x.2.2.2] ∧ Fitstp x := by
  obtain ⟨v0, v1, v2, v3, y0, y1, y2, y3, n, rfl, _, _, g0, g1, g2, g3⟩ := Joins.open_agg4 Tryd.underlying115 (by kernel_rfl) (by kernel_rfl) hv h
  obtain ⟨z0, q0, _, b0⟩ := DataW.trod_int Tryd.underlying2 g0
  obtain ⟨z1, q1, _, b1⟩ := DataW.trod_int Tryd.underlying2 g1
  obtain ⟨z2, q2, _, b2⟩ := DataW.trod_int Tryd.underlying2 g2
  obtain ⟨z3, q3, _, b3⟩ := DataW.trod_string Tryd.underlying9 g3
  simp at q0 q1 q2 q3
  subst q0 q1 q2 q3
  exact ⟨(z0, z1, z2, z3), rfl, (bounds_i64 b0).1, (bounds_i64 b0).2, (bounds_i64 b1).1, (bounds_i64 b1).2, (bounds_i64 b2).1, (bounds_i64 b2).2, b3⟩
end
end Go.Proofs.YtcckpkcjekcajaaDoor
