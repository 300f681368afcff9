/- A list of acts that came in, opened. -/
import Derived.Test.YtocjjkjjojdpdaaLOpen
import Derived.Test.YtocjjkjjojdpdaaLAct
namespace Go.Proofs.Ytocjjkjjojdpdaa
open Go.RowKit Go.ChangeShapes Go.WideShapes Go.Deep

section
variable {H : Type} {enc : TypeId × Value → H} {W : World} {base : Nat} {spare : Nat → Bool} {held : Bool}

theorem open_triples {P : Program} {t e : TypeId} {f0 f1 f2 : Field} {fuel : Nat} {cs : List Value} {x : DataW H × List MemPlace} (ht : P.underlying t = some (.slice e)) (he : P.underlying e = some (.struct #[f0, f1, f2]))
    (ce : P.cellsOf e = 3) (o0 : f0.offset = 0) (o1 : f1.offset = 1) (o2 : f2.offset = 2) (c0 : P.cellsOf f0.type = 1) (c1 : P.cellsOf f1.type = 1) (c2 : P.cellsOf f2.type = 1)
    (h : DataW.trod enc P W base spare held fuel t cs = some x) :
    cs = [.slice none 0 0] ∨
    ∃ (a : Addr) (len cap n : Nat), cs = [.slice (some a) len cap] ∧ len ≤ cap ∧ cap ≤ maxLen ∧
      ∀ i, i < len → ∃ v0 v1 v2 y0 y1 y2, W.cell? (a.add (i * 3)) = some v0 ∧ W.cell? (a.add (i * 3 + 1)) = some v1 ∧ W.cell? (a.add (i * 3 + 2)) = some v2 ∧
        DataW.trod enc P W base spare held n f0.type [v0] = some y0 ∧ DataW.trod enc P W base spare held n f1.type [v1] = some y1 ∧ DataW.trod enc P W base spare held n f2.type [v2] = some y2 := by
  rcases open_slice ht h with h0 | ⟨a, len, cap, m, n, D, Pl, rfl, hb, hl, hm, hmm, rfl, hx⟩
  · exact Or.inl h0.1
  right
  have hlm : len ≤ m := by rw [hmm]; split <;> omega
  refine ⟨a, len, cap, n - 1, rfl, hl, hm, fun i hi => ?_⟩
  obtain ⟨cs', h1, h2⟩ := hx i (by omega)
  rw [ce] at h1
  obtain ⟨_, hlen, hcell⟩ := World.cells?_some h1
  obtain ⟨xs, k, hk, hxy, _, hxl, hf⟩ := DataW.trod_struct he h2
  have hk' : k = n - 1 := by omega
  subst hk'
  match xs, hxl, cs', hlen with
  | [y0, y1, y2], _, [v0, v1, v2], _ =>
    have g0 := hf 0 f0 rfl
    have g1 := hf 1 f1 rfl
    have g2 := hf 2 f2 rfl
    simp [o0, o1, o2, c0, c1, c2] at g0 g1 g2
    have e0 := hcell 0 (by omega)
    have e1 := hcell 1 (by omega)
    have e2 := hcell 2 (by omega)
    rw [add_add] at e0 e1 e2
    exact ⟨v0, v1, v2, y0, y1, y2, by simpa using e0, by simpa using e1, by simpa using e2, g0, g1, g2⟩

set_option maxRecDepth 100000 in
theorem open_acts {r : Reach} {b0 : Nat} {v : Value} {d : DataW H} {p : List MemPlace} (hv : Value.okWide Try.prog W r b0 28 v) (h : DataW.Trod enc Try.prog W base spare held 28 v d p) :
    ∃ l : List actT, Rd W v l.length 3 (actCs l) ∧ l.length ≤ maxLen ∧ ∀ d ∈ l, d.2.2.size ≤ maxLen := by
  obtain ⟨a, len, cap, rfl⟩ := okWide_slice Try.underlying28 hv
  obtain ⟨fuel, hf⟩ := h
  rcases open_triples Try.underlying28 Try.underlying55 (by kernel_rfl) rfl rfl rfl (by kernel_rfl) (by kernel_rfl) (by kernel_rfl) hf with hcs | ⟨x, l, c, n, hcs, hl, hm, hc⟩
  · simp [Value.cells] at hcs
    obtain ⟨rfl, rfl, rfl⟩ := hcs
    exact ⟨[], ⟨rfl, _, _, rfl, fun h => absurd h (Nat.lt_irrefl 0)⟩, by simp [maxLen], by simp⟩
  · simp [Value.cells] at hcs
    obtain ⟨rfl, rfl, rfl⟩ := hcs
    have each : ∀ i, i < len → ∃ d : actT, W.cell? (x.add (i * 3)) = some (.bool d.1) ∧ W.cell? (x.add (i * 3 + 1)) = some (.int .i64 d.2.1) ∧ W.cell? (x.add (i * 3 + 2)) = some (.string d.2.2) ∧ d.2.2.size ≤ maxLen := fun i hi => by
      obtain ⟨v0, v1, v2, y0, y1, y2, k0, k1, k2, g0, g1, g2⟩ := hc i hi
      obtain ⟨b, q0, _⟩ := DataW.trod_bool Try.underlying4 g0
      obtain ⟨z, q1, _, _⟩ := DataW.trod_int Try.underlying2 g1
      obtain ⟨s, q2, _, q3⟩ := DataW.trod_string Try.underlying9 g2
      simp at q0 q1 q2
      subst q0 q1 q2
      exact ⟨(b, z, s), k0, k1, k2, q3⟩
    obtain ⟨d, hd⟩ := choose_lt each
    refine ⟨(List.range len).map d, ⟨by rw [actCs_length], some x, cap, by simp, fun h0 => ?_⟩, by simp; omega, fun s hs => ?_⟩
    · rw [List.length_map, List.length_range] at h0
      have h00 := (hd 0 (by omega)).1
      rw [show x.add (0 * 3) = x by simp [Addr.add]] at h00
      obtain ⟨hs, hb⟩ := spot_of h00
      refine ⟨x.block, x.off, congrArg some (addr_of x hs), hb, fun j hj => ?_⟩
      have hj' : j < len * 3 := by simpa using hj
      obtain ⟨k, hk, hkj⟩ : ∃ k, k < len ∧ (j = k * 3 ∨ j = k * 3 + 1 ∨ j = k * 3 + 2) := ⟨j / 3, by omega, by omega⟩
      have hk2 : k < ((List.range len).map d).length := by simpa using hk
      obtain ⟨e0, e1, e2, _⟩ := hd k hk
      rw [addr_of x hs, Addr.add_lit] at e0 e1 e2
      rcases hkj with rfl | rfl | rfl
      · rw [actCs_0 _ k hk2, e0]; simp
      · rw [actCs_1 _ k hk2, e1]; simp
      · rw [actCs_2 _ k hk2, e2]; simp
    · obtain ⟨i, hi, rfl⟩ := List.mem_map.1 hs
      exact (hd i (List.mem_range.1 hi)).2.2.2
end
end Go.Proofs.Ytocjjkjjojdpdaa
