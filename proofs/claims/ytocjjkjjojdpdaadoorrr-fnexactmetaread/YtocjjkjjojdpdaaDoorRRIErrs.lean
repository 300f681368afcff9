/- The errors of the metadata: where they lie; sealError and metaCode. -/
import Derived.Test.YtocjjkjjojdpdaaDoorRRGIs
namespace Go.Proofs.YtocjjkjjojdpdaaDoorRR
open Go.RowKit

/-- The five errors lie apart, each behind its variable. -/
structure Sents (w : World) (a : Nat → Addr) : Prop where
  c0 : w.cell? ⟨1, 0, none⟩ = some (.iface 97 (.pointer (some (a 0))))
  c1 : w.cell? ⟨2, 0, none⟩ = some (.iface 97 (.pointer (some (a 1))))
  c2 : w.cell? ⟨3, 0, none⟩ = some (.iface 97 (.pointer (some (a 2))))
  c3 : w.cell? ⟨0, 0, none⟩ = some (.iface 97 (.pointer (some (a 3))))
  c4 : w.cell? ⟨4, 0, none⟩ = some (.iface 97 (.pointer (some (a 4))))
  row : ∀ i, i < 5 → ∃ c t, w.heap[(a i).block]? = some (.cells c t (0, 0))
  ne : ∀ i j, i < 5 → j < 5 → i ≠ j → a i ≠ a j
theorem cell_lt {w : World} {p : Addr} {v : Value} (h : w.cell? p = some v) : p.block < w.heap.size := by
  rcases Nat.lt_or_ge p.block w.heap.size with h' | h'
  · exact h'
  · simp [World.cell?, Array.getElem?_eq_none h'] at h
theorem Sents.next {w w' : World} {a : Nat → Addr} (h : Sents w a) (hb : Below w.heap.size w w') : Sents w' a :=
  ⟨(hb.cell (cell_lt h.c0)).trans h.c0, (hb.cell (cell_lt h.c1)).trans h.c1, (hb.cell (cell_lt h.c2)).trans h.c2, (hb.cell (cell_lt h.c3)).trans h.c3, (hb.cell (cell_lt h.c4)).trans h.c4, fun i hi => by
    obtain ⟨c, t, e⟩ := h.row i hi
    exact ⟨c, t, (hb.block _ (Array.getElem?_eq_some_iff.1 e).1).trans e⟩, h.ne⟩
theorem Sents.other {w : World} {a : Nat → Addr} (h : Sents w a) (p : Addr) (x : Value) (hp : 5 ≤ p.block) (hr : ∀ i, i < 5 → (a i).block ≠ p.block) : Sents (w.setCell p x) a :=
  ⟨by rw [World.cell?_setCell_other (h := by intro e; have := congrArg Addr.block e; simp at this; omega)]; exact h.c0, by rw [World.cell?_setCell_other (h := by intro e; have := congrArg Addr.block e; simp at this; omega)]; exact h.c1, by rw [World.cell?_setCell_other (h := by intro e; have := congrArg Addr.block e; simp at this; omega)]; exact h.c2, by rw [World.cell?_setCell_other (h := by intro e; have := congrArg Addr.block e; simp at this; omega)]; exact h.c3, by rw [World.cell?_setCell_other (h := by intro e; have := congrArg Addr.block e; simp at this; omega)]; exact h.c4, fun i hi => by
    obtain ⟨c, t, e⟩ := h.row i hi
    exact ⟨c, t, (Below.heap_setCell w p x _ (hr i hi)).trans e⟩, h.ne⟩
theorem isE {w : World} {a : Nat → Addr} (h : Sents w a) (i j : Nat) (hi : i < 5) (hj : j < 5) (hne : i ≠ j) :
    Calls Tryd.prog 24 #[.iface 50 (.agg #[.iface 97 (.pointer (some (a i)))]), .iface 97 (.pointer (some (a j)))] w fun e w' => e = .returned (.bool false) ∧ Below w.heap.size w w' := by
  obtain ⟨ca, ta, ha⟩ := h.row i hi
  obtain ⟨cb, tb, hb⟩ := h.row j hj
  exact is_other (a i) (a j) ca cb ta tb w (h.ne i j hi hj hne) ha hb

theorem sealErr0 (w : World) (a : Nat → Addr) (h : Sents w a) : Calls Tryd.prog 20 #[.int .i64 2] w fun e w' => e = .returned (.iface 97 (.pointer (some (a 0)))) ∧ w' = w := by
  have c0 := h.c0
  go_enter Tryd.func20, Tryd.ntmps20
  go_wp2_with fail
  go_ret
  exact ⟨rfl, rfl⟩
theorem sealErr1 (w : World) (a : Nat → Addr) (h : Sents w a) : Calls Tryd.prog 20 #[.int .i64 4] w fun e w' => e = .returned (.iface 97 (.pointer (some (a 1)))) ∧ w' = w := by
  have c0 := h.c1
  go_enter Tryd.func20, Tryd.ntmps20
  go_wp2_with fail
  go_ret
  exact ⟨rfl, rfl⟩
theorem sealErr2 (w : World) (a : Nat → Addr) (h : Sents w a) : Calls Tryd.prog 20 #[.int .i64 5] w fun e w' => e = .returned (.iface 97 (.pointer (some (a 2)))) ∧ w' = w := by
  have c0 := h.c2
  go_enter Tryd.func20, Tryd.ntmps20
  go_wp2_with fail
  go_ret
  exact ⟨rfl, rfl⟩

set_option maxHeartbeats 1000000 in
theorem metaCode0 (w : World) (a : Nat → Addr) (h : Sents w a) : Calls Tryd.prog 12 #[.iface 50 (.agg #[.iface 97 (.pointer (some (a 0)))])] w fun e w' => e = .returned (.int .i64 2) ∧ Below w.heap.size w w' := by
  have H0 := Lib.hid h
  have B0 := Lib.hid (Below.refl w.heap.size w)
  have p0 := h.c0
  clear h
  go_enter Tryd.func12, Tryd.ntmps12
  go_wp2_with fail
  refine (is_same (a 0) _).mono ?_
  rintro e w1 ⟨rfl, hb⟩
  have B1 := Lib.hid (B0.out.trans (hb.mono B0.out.size))
  clear hb p0 H0 B0
  go_wp2_with fail
  go_ret
  exact ⟨rfl, B1.out⟩

set_option maxHeartbeats 1000000 in
theorem metaCode1 (w : World) (a : Nat → Addr) (h : Sents w a) : Calls Tryd.prog 12 #[.iface 50 (.agg #[.iface 97 (.pointer (some (a 1)))])] w fun e w' => e = .returned (.int .i64 4) ∧ Below w.heap.size w w' := by
  have H0 := Lib.hid h
  have B0 := Lib.hid (Below.refl w.heap.size w)
  have p0 := h.c0
  clear h
  go_enter Tryd.func12, Tryd.ntmps12
  go_wp2_with fail
  refine (isE H0.out 1 0 (by decide) (by decide) (by decide)).mono ?_
  rintro e w1 ⟨rfl, hb⟩
  have H1 := Lib.hid (H0.out.next hb)
  have B1 := Lib.hid (B0.out.trans (hb.mono B0.out.size))
  have p1 := H1.out.c1
  clear hb p0 H0 B0
  go_wp2_with fail
  refine (is_same (a 1) _).mono ?_
  rintro e w2 ⟨rfl, hb⟩
  have B2 := Lib.hid (B1.out.trans (hb.mono B1.out.size))
  clear hb p1 H1 B1
  go_wp2_with fail
  go_ret
  exact ⟨rfl, B2.out⟩

set_option maxHeartbeats 1000000 in
theorem metaCode2 (w : World) (a : Nat → Addr) (h : Sents w a) : Calls Tryd.prog 12 #[.iface 50 (.agg #[.iface 97 (.pointer (some (a 2)))])] w fun e w' => e = .returned (.int .i64 5) ∧ Below w.heap.size w w' := by
  have H0 := Lib.hid h
  have B0 := Lib.hid (Below.refl w.heap.size w)
  have p0 := h.c0
  clear h
  go_enter Tryd.func12, Tryd.ntmps12
  go_wp2_with fail
  refine (isE H0.out 2 0 (by decide) (by decide) (by decide)).mono ?_
  rintro e w1 ⟨rfl, hb⟩
  have H1 := Lib.hid (H0.out.next hb)
  have B1 := Lib.hid (B0.out.trans (hb.mono B0.out.size))
  have p1 := H1.out.c1
  clear hb p0 H0 B0
  go_wp2_with fail
  refine (isE H1.out 2 1 (by decide) (by decide) (by decide)).mono ?_
  rintro e w2 ⟨rfl, hb⟩
  have H2 := Lib.hid (H1.out.next hb)
  have B2 := Lib.hid (B1.out.trans (hb.mono B1.out.size))
  have p2 := H2.out.c2
  clear hb p1 H1 B1
  go_wp2_with fail
  refine (is_same (a 2) _).mono ?_
  rintro e w3 ⟨rfl, hb⟩
  have B3 := Lib.hid (B2.out.trans (hb.mono B2.out.size))
  clear hb p2 H2 B2
  go_wp2_with fail
  go_ret
  exact ⟨rfl, B3.out⟩

set_option maxHeartbeats 1000000 in
theorem metaCode3 (w : World) (a : Nat → Addr) (h : Sents w a) : Calls Tryd.prog 12 #[.iface 50 (.agg #[.iface 97 (.pointer (some (a 3)))])] w fun e w' => e = .returned (.int .i64 3) ∧ Below w.heap.size w w' := by
  have H0 := Lib.hid h
  have B0 := Lib.hid (Below.refl w.heap.size w)
  have p0 := h.c0
  clear h
  go_enter Tryd.func12, Tryd.ntmps12
  go_wp2_with fail
  refine (isE H0.out 3 0 (by decide) (by decide) (by decide)).mono ?_
  rintro e w1 ⟨rfl, hb⟩
  have H1 := Lib.hid (H0.out.next hb)
  have B1 := Lib.hid (B0.out.trans (hb.mono B0.out.size))
  have p1 := H1.out.c1
  clear hb p0 H0 B0
  go_wp2_with fail
  refine (isE H1.out 3 1 (by decide) (by decide) (by decide)).mono ?_
  rintro e w2 ⟨rfl, hb⟩
  have H2 := Lib.hid (H1.out.next hb)
  have B2 := Lib.hid (B1.out.trans (hb.mono B1.out.size))
  have p2 := H2.out.c2
  clear hb p1 H1 B1
  go_wp2_with fail
  refine (isE H2.out 3 2 (by decide) (by decide) (by decide)).mono ?_
  rintro e w3 ⟨rfl, hb⟩
  have H3 := Lib.hid (H2.out.next hb)
  have B3 := Lib.hid (B2.out.trans (hb.mono B2.out.size))
  have p3 := H3.out.c3
  clear hb p2 H2 B2
  go_wp2_with fail
  refine (is_same (a 3) _).mono ?_
  rintro e w4 ⟨rfl, hb⟩
  have B4 := Lib.hid (B3.out.trans (hb.mono B3.out.size))
  clear hb p3 H3 B3
  go_wp2_with fail
  go_ret
  exact ⟨rfl, B4.out⟩

set_option maxHeartbeats 1000000 in
theorem metaCode4 (w : World) (a : Nat → Addr) (h : Sents w a) : Calls Tryd.prog 12 #[.iface 50 (.agg #[.iface 97 (.pointer (some (a 4)))])] w fun e w' => e = .returned (.int .i64 6) ∧ Below w.heap.size w w' := by
  have H0 := Lib.hid h
  have B0 := Lib.hid (Below.refl w.heap.size w)
  have p0 := h.c0
  clear h
  go_enter Tryd.func12, Tryd.ntmps12
  go_wp2_with fail
  refine (isE H0.out 4 0 (by decide) (by decide) (by decide)).mono ?_
  rintro e w1 ⟨rfl, hb⟩
  have H1 := Lib.hid (H0.out.next hb)
  have B1 := Lib.hid (B0.out.trans (hb.mono B0.out.size))
  have p1 := H1.out.c1
  clear hb p0 H0 B0
  go_wp2_with fail
  refine (isE H1.out 4 1 (by decide) (by decide) (by decide)).mono ?_
  rintro e w2 ⟨rfl, hb⟩
  have H2 := Lib.hid (H1.out.next hb)
  have B2 := Lib.hid (B1.out.trans (hb.mono B1.out.size))
  have p2 := H2.out.c2
  clear hb p1 H1 B1
  go_wp2_with fail
  refine (isE H2.out 4 2 (by decide) (by decide) (by decide)).mono ?_
  rintro e w3 ⟨rfl, hb⟩
  have H3 := Lib.hid (H2.out.next hb)
  have B3 := Lib.hid (B2.out.trans (hb.mono B2.out.size))
  have p3 := H3.out.c3
  clear hb p2 H2 B2
  go_wp2_with fail
  refine (isE H3.out 4 3 (by decide) (by decide) (by decide)).mono ?_
  rintro e w4 ⟨rfl, hb⟩
  have H4 := Lib.hid (H3.out.next hb)
  have B4 := Lib.hid (B3.out.trans (hb.mono B3.out.size))
  have p4 := H4.out.c4
  clear hb p3 H3 B3
  go_wp2_with fail
  refine (is_same (a 4) _).mono ?_
  rintro e w5 ⟨rfl, hb⟩
  have B5 := Lib.hid (B4.out.trans (hb.mono B4.out.size))
  clear hb p4 H4 B4
  go_wp2_with fail
  go_ret
  exact ⟨rfl, B5.out⟩
end Go.Proofs.YtocjjkjjojdpdaaDoorRR
