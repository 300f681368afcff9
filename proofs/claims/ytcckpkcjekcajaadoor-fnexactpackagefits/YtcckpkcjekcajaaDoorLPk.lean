/- Packages in the laws: copied, measured, compared. -/
import Derived.Test.YtcckpkcjekcajaaDoorLPkE
import Derived.Test.YtcckpkcjekcajaaDoorKR
import Derived.Test.YtcckpkcjekcajaaDoorLStep
import Derived.Test.YtcckpkcjekcajaaDoorAOb
import Derived.Test.YtcckpkcjekcajaaDoorLBox
namespace Go.Proofs.YtcckpkcjekcajaaDoor
open Go.RowKit

def OwnP (p : pkT) (w : World) (e : Ending) (w' : World) : Prop := ∃ u, e = .returned (pkV p.1 p.2.1 u) ∧ Own w' w.heap.size u p.2.2.length 4 (stpCs p.2.2) ∧ Below w.heap.size w w'
theorem Bx.ft {w : World} {n : Nat} {T : TypeId} {vs : Array Value} (h : Bx w n T vs) : w.frozen? ⟨n, 0, none⟩ = false ∧ w.frozen? ⟨n, 1, none⟩ = false ∧ w.frozen? ⟨n, 2, none⟩ = false := ⟨h.frozen 0, h.frozen 1, h.frozen 2⟩
theorem three_set {w w' : World} {g n : Nat} (h : Below g w w') (hn : g ≤ n) (a b c : Value) : Below g w (((w'.setCell ⟨n, 0, none⟩ a).setCell ⟨n, 1, none⟩ b).setCell ⟨n, 2, none⟩ c) :=
  ((h.setCell (p := ⟨n, 0, none⟩) hn a).setCell (p := ⟨n, 1, none⟩) hn b).setCell (p := ⟨n, 2, none⟩) hn c
theorem Own.three {w : World} {lo n sz m : Nat} {v : Value} {xs : List Value} (h : Own w lo v n sz xs) (hm : m < lo) (a b c : Value) : Own (((w.setCell ⟨m, 0, none⟩ a).setCell ⟨m, 1, none⟩ b).setCell ⟨m, 2, none⟩ c) lo v n sz xs := by
  have ne : ∀ (w' : World), Own w' lo v n sz xs → ∀ k, Proofs.YtcckpkcjekcajaaDoor.blk v n = some k → k ≠ m := fun w' h' k hk => by have := (h'.blk k hk).1; omega
  have h1 := h.other ⟨m, 0, none⟩ a (ne _ h)
  have h2 := h1.other ⟨m, 1, none⟩ b (ne _ h1)
  exact h2.other ⟨m, 2, none⟩ c (ne _ h2)
theorem Own.one {w : World} {lo n sz m j : Nat} {v : Value} {xs : List Value} (h : Own w lo v n sz xs) (hm : m < lo) (a : Value) : Own (w.setCell ⟨m, j, none⟩ a) lo v n sz xs :=
  h.other ⟨m, j, none⟩ a (fun k hk e => by have := (h.blk k hk).1; simp at e; omega)
set_option maxRecDepth 100000 in
set_option maxHeartbeats 1000000 in
theorem toPk_any (p : pkT) (v : Value) (w : World) (h : Rd w v p.2.2.length 4 (stpCs p.2.2)) (hn : p.2.2.length ≤ 1048576) :
    Calls Tryd.prog 23 #[pkV p.1 p.2.1 v] w (OwnP p w) := by
  obtain ⟨b, d, l⟩ := p
  dsimp only at h hn
  unfold OwnP pkV
  dsimp only
  obtain ⟨a, c, rfl, -⟩ := id h.2
  have HV := Lib.hid h
  clear h
  have X1 := bx_new w 45 #[.int .i64 b, .string d, .slice a l.length c]
  have b1 := below_alloc1 w (.cells #[.int .i64 b, .string d, .slice a l.length c] 45)
  have s1 := size_alloc1 w (.cells #[.int .i64 b, .string d, .slice a l.length c] 45)
  generalize hW1 : w.alloc (.cells #[.int .i64 b, .string d, .slice a l.length c] 45) = W1 at *
  have X2 := bx_new W1 50 #[.int .i64 0, .string ⟨#[]⟩, .slice none 0 0]
  have b2 := below_alloc1 W1 (.cells #[.int .i64 0, .string ⟨#[]⟩, .slice none 0 0] 50)
  have s2 := size_alloc1 W1 (.cells #[.int .i64 0, .string ⟨#[]⟩, .slice none 0 0] 50)
  generalize hW2 : W1.alloc (.cells #[.int .i64 0, .string ⟨#[]⟩, .slice none 0 0] 50) = W2 at *
  have X3 := bx_new W2 50 #[.int .i64 b, .string d, .slice none 0 0]
  have b3 := below_alloc1 W2 (.cells #[.int .i64 b, .string d, .slice none 0 0] 50)
  have s3 := size_alloc1 W2 (.cells #[.int .i64 b, .string d, .slice none 0 0] 50)
  generalize hW3 : W2.alloc (.cells #[.int .i64 b, .string d, .slice none 0 0] 50) = W3 at *
  rw [s1] at X2
  rw [s2, s1] at X3
  have B3 := Lib.hid (below_more (below_more b1 b2) b3)
  replace X1 := Lib.hid ((X1.next b2).next b3)
  replace X2 := Lib.hid (X2.next b3)
  replace X3 := Lib.hid X3
  clear b1 b2 b3
  have n2 := X1.out.t2
  rw [← hW3, ← hW2, ← hW1] at n2
  subst hW1
  subst hW2
  have HW3 := Lib.hid hW3
  clear hW3
  go_enter Tryd.func23, Tryd.ntmps23
  go_wp2_with fail
  rw [HW3.out]
  clear HW3 n2
  refine (toSteps_any _ l W3 (HV.out.below B3.out (Nat.le_refl _)) hn).mono ?_
  rintro e w4 ⟨v4, rfl, ho, hb⟩
  obtain ⟨a4, c4, rfl, -⟩ := id ho.2
  replace X2 := Lib.hid (X2.out.next hb)
  replace X3 := Lib.hid (X3.out.next hb)
  replace B3 := Lib.hid (B3.out.trans (hb.mono B3.out.size))
  have HO := Lib.hid ho
  clear ho hb X1
  obtain ⟨f0, f1, f2⟩ := X3.out.ft
  have q2 := X3.out.t2
  have X4 := Lib.hid (X3.out.set (j := 2) (.slice a4 l.length c4))
  have y0 := X4.out.cell 0
  have y1 := X4.out.cell 1
  have y2 := X4.out.cell 2
  simp at y0 y1 y2
  have X5 := Lib.hid (X2.out.other ⟨w.heap.size + 1 + 1, 2, none⟩ (.slice a4 l.length c4) (by simp))
  obtain ⟨g0, g1, g2⟩ := X5.out.ft
  have B5 := Lib.hid (B3.out.setCell (p := ⟨w.heap.size + 1 + 1, 2, none⟩) (by simp; omega) (.slice a4 l.length c4))
  have H5 := Lib.hid (HO.out.one (m := w.heap.size + 1 + 1) (j := 2) (by omega) (.slice a4 l.length c4))
  have x0 := X5.out.t0
  have x1 := X5.out.t1
  have x2 := X5.out.t2
  go_wp2_with fail
  refine bodyPost_ret (v := .agg #[.int .i64 b, .string d, .slice a4 l.length c4]) (by simp [results, Tryd.results23, go_sem, x0, x1, x2]) rfl ⟨_, rfl, ?_, ?_⟩
  · exact (H5.out.three (m := w.heap.size + 1) (by omega) _ _ _).lower (by omega)
  · exact three_set B5.out (by omega) _ _ _
set_option maxRecDepth 100000 in
set_option maxHeartbeats 1000000 in
theorem szPk_any (p : pkT) (v : Value) (left : Int) (w : World) (h : Rd w v p.2.2.length 4 (stpCs p.2.2)) (hn : p.2.2.length ≤ maxLen) (hd : p.2.1.size ≤ maxLen) (hs : ∀ x ∈ p.2.2, x.2.2.2.size ≤ maxLen) (h0 : 0 ≤ left) (h1 : left ≤ 1048576) :
    Calls Tryd.prog 20 #[pkV p.1 p.2.1 v, .int .i64 left] w (LeftB left ((p.2.1.size : Int) ≤ left ∧ (p.2.2.length : Int) ≤ left) w) := by
  obtain ⟨b, d, l⟩ := p
  dsimp only at h hn hd hs
  unfold pkV
  dsimp only
  obtain ⟨a, c, rfl, -⟩ := id h.2
  have HV := Lib.hid h
  have HN := Lib.hid hn
  have HS := Lib.hid hs
  clear h
  unfold maxLen at hd hn
  have m1 : IntKind.i64.wrap (left - (d.size : Int)) = left - (d.size : Int) := IntWalk.i64_in _ (by omega)
  have m2 : wrap64 (left - (d.size : Int)) = left - (d.size : Int) := IntWalk.wrap64_in _ (by omega)
  have HB := Lib.hid (below_alloc1 w (.cells #[.int .i64 b, .string d, .slice a l.length c] 45))
  by_cases hl : left - (d.size : Int) < 0
  · go_enter Tryd.func20, Tryd.ntmps20
    go_wp2_with fail
    go_ret
    exact ⟨-1, rfl, HB.out, .inl rfl⟩
  have d0 : decide (left - (d.size : Int) < 0) = false := decide_eq_false hl
  obtain ⟨q, hq⟩ : ∃ q, q = left - (d.size : Int) := ⟨_, rfl⟩
  rw [← hq] at m1 m2 d0 hl
  have HQ := Lib.hid hq
  go_enter Tryd.func20, Tryd.ntmps20
  go_wp2_with fail
  try rw [← hq]
  generalize w.alloc (.cells #[.int .i64 b, .string d, .slice a l.length c] 45) = W at *
  refine (szSteps_any _ l q W (HV.out.below HB.out (Nat.le_refl _)) HN.out HS.out (by omega) (by omega)).mono ?_
  rintro e w1 ⟨r, rfl, hb, hr⟩
  have HB1 := Lib.hid (HB.out.trans (hb.mono HB.out.size))
  clear hb
  rcases hr with rfl | ⟨r0, r1, r2, -⟩
  · go_wp2_with fail
    go_ret
    exact ⟨-1, rfl, HB1.out, .inl rfl⟩
  · have d1 : decide (r < 0) = false := decide_eq_false (by omega)
    clear hq
    go_wp2_with fail
    go_ret
    exact ⟨r, rfl, HB1.out, .inr ⟨r0, by have := HQ.out; omega, by have := HQ.out; omega, by have := HQ.out; omega⟩⟩
end Go.Proofs.YtcckpkcjekcajaaDoor
