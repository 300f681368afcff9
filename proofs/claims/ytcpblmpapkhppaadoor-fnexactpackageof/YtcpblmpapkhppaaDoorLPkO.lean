/- Answers with a package in the laws: compared, marked, looked at. -/
import Derived.Test.YtcpblmpapkhppaaDoorLPkE
import Derived.Test.YtcpblmpapkhppaaDoorKOut
namespace Go.Proofs.YtcpblmpapkhppaaDoor
open Go.RowKit

set_option maxRecDepth 100000 in
set_option maxHeartbeats 1000000 in
theorem eqPkO_any (R : pkT × Int) (v u : Value) (w : World) (h : Rd w v R.1.2.2.length 4 (stpCs R.1.2.2)) (k : Rd w u R.1.2.2.length 4 (stpCs R.1.2.2)) (hn : R.1.2.2.length ≤ 1048576) :
    Calls Tryd.prog 15 #[pkOutV R v, pkOutV R u] w fun e w' => e = .returned (.bool true) ∧ Below w.heap.size w w' := by
  obtain ⟨⟨b, d, l⟩, c⟩ := R
  dsimp only at h k hn
  have EQ := Lib.hid (fun w h k => eqPk_any (b, d, l) v u w h k hn)
  unfold pkV at EQ
  unfold pkOutV
  dsimp only at EQ ⊢
  obtain ⟨a, c1, rfl, -⟩ := id h.2
  obtain ⟨a', c2, rfl, -⟩ := id k.2
  have HV := Lib.hid h
  have HU := Lib.hid k
  clear h k
  have d0 : (c != c) = false := by simp
  have b0 := (below_alloc1 w (.cells #[.int .i64 b, .string d, .slice a l.length c1, .int .i64 c] 28))
  have b1 := b0.trans ((below_alloc1 (w.alloc (.cells #[.int .i64 b, .string d, .slice a l.length c1, .int .i64 c] 28)) (.cells #[.int .i64 b, .string d, .slice a' l.length c2, .int .i64 c] 28)).mono b0.size)
  have X0 := Lib.hid ((bx_new w 28 #[.int .i64 b, .string d, .slice a l.length c1, .int .i64 c]).next (below_alloc1 _ (.cells #[.int .i64 b, .string d, .slice a' l.length c2, .int .i64 c] 28)))
  have X1 := bx_new (w.alloc (.cells #[.int .i64 b, .string d, .slice a l.length c1, .int .i64 c] 28)) 28 #[.int .i64 b, .string d, .slice a' l.length c2, .int .i64 c]
  rw [size_alloc1] at X1
  have XX := Lib.hid X1
  have HB := Lib.hid b1
  clear b0 b1 X1
  go_enter Tryd.func15, Tryd.ntmps15
  go_wp2_with fail
  generalize (w.alloc (.cells #[.int .i64 b, .string d, .slice a l.length c1, .int .i64 c] 28)).alloc (.cells #[.int .i64 b, .string d, .slice a' l.length c2, .int .i64 c] 28) = W at *
  refine (EQ.out W (HV.out.below HB.out (Nat.le_refl _)) (HU.out.below HB.out (Nat.le_refl _))).mono ?_
  rintro e w2 ⟨rfl, hb⟩
  have B2 := Lib.hid (HB.out.trans (hb.mono HB.out.size))
  have q3 := (X0.out.next hb).q3
  have r3 := (XX.out.next hb).q3
  clear hb
  go_wp2_with fail
  go_ret
  exact ⟨rfl, B2.out⟩
set_option maxRecDepth 100000 in
set_option maxHeartbeats 1000000 in
theorem markPk_any (lo : Nat) (b : Int) (d : ByteArray) (v : Value) (n k : Nat) (xs : List Value) (w : World) (h : Own w lo v n 4 xs) (hn : n ≤ 1048576) (h0 : 1 ≤ k) (h1 : k ≤ 1000000000) :
    Calls Tryd.prog 69 #[.agg #[.int .i64 b, .string d, v], .int .i64 k] w (Marked lo v n 4 (stpMarks k n) ((k + n * 4 : Nat) : Int) w) := by
  obtain ⟨a, c, rfl, -⟩ := id h.2
  have H := Lib.hid h
  clear h
  have b0 := below_alloc1 w (.cells #[.int .i64 b, .string d, .slice a n c] 26)
  go_enter Tryd.func69, Tryd.ntmps69
  go_wp2_with fail
  generalize w.alloc (.cells #[.int .i64 b, .string d, .slice a n c] 26) = W at *
  refine (markSteps_any lo _ n k xs W (H.out.below b0 (Nat.le_refl _)) hn h0 h1).mono ?_
  rintro e w2 ⟨rfl, ho, hg⟩
  have HO := Lib.hid ho
  have HG := Lib.hid (((World.grownBy.refl w (blk (.slice a n c) n)).andThen (below_grown b0) (fun _ e => by cases e)).andThen hg (fun _ e => .inr e))
  clear ho hg
  go_wp2_with fail
  go_ret
  exact ⟨rfl, HO.out, HG.out⟩
set_option maxRecDepth 100000 in
set_option maxHeartbeats 1000000 in
theorem markPkO_any (lo : Nat) (R : pkT × Int) (v : Value) (k : Nat) (xs : List Value) (w : World) (h : Own w lo v R.1.2.2.length 4 xs) (hn : R.1.2.2.length ≤ 1048576) (h0 : 1 ≤ k) (h1 : k ≤ 1000000000) :
    Calls Tryd.prog 18 #[pkOutV R v, .int .i64 k] w (Marked lo v R.1.2.2.length 4 (stpMarks k R.1.2.2.length) ((k + R.1.2.2.length * 4 : Nat) : Int) w) := by
  obtain ⟨⟨b, d, l⟩, cc⟩ := R
  dsimp only at h hn ⊢
  unfold pkOutV
  dsimp only
  obtain ⟨a, c, rfl, -⟩ := id h.2
  have H := Lib.hid h
  clear h
  have b0 := below_alloc1 w (.cells #[.int .i64 b, .string d, .slice a l.length c, .int .i64 cc] 28)
  go_enter Tryd.func18, Tryd.ntmps18
  go_wp2_with fail
  generalize w.alloc (.cells #[.int .i64 b, .string d, .slice a l.length c, .int .i64 cc] 28) = W at *
  refine (markPk_any lo b d _ l.length k xs W (H.out.below b0 (Nat.le_refl _)) hn h0 h1).mono ?_
  rintro e w2 ⟨rfl, ho, hg⟩
  have HO := Lib.hid ho
  have HG := Lib.hid (((World.grownBy.refl w (blk (.slice a l.length c) l.length)).andThen (below_grown b0) (fun _ e => by cases e)).andThen hg (fun _ e => .inr e))
  clear ho hg
  go_wp2_with fail
  go_ret
  exact ⟨rfl, HO.out, HG.out⟩
set_option maxRecDepth 100000 in
set_option maxHeartbeats 1000000 in
theorem heldPk_any (b : Int) (d : ByteArray) (v : Value) (n k : Nat) (w : World) (h : Rd w v n 4 (stpMarks k n)) (hn : n ≤ 1048576) (h0 : 1 ≤ k) (h1 : k ≤ 1000000000) :
    Calls Tryd.prog 70 #[.agg #[.int .i64 b, .string d, v], .int .i64 k] w (Held ((k + n * 4 : Nat) : Int) w) := by
  obtain ⟨a, c, rfl, -⟩ := id h.2
  have H := Lib.hid h
  clear h
  have b0 := below_alloc1 w (.cells #[.int .i64 b, .string d, .slice a n c] 26)
  go_enter Tryd.func70, Tryd.ntmps70
  go_wp2_with fail
  generalize w.alloc (.cells #[.int .i64 b, .string d, .slice a n c] 26) = W at *
  refine (heldSteps_any _ n k W (H.out.below b0 (Nat.le_refl _)) hn h0 h1).mono ?_
  rintro e w2 ⟨rfl, hb⟩
  have HB := Lib.hid (b0.trans (hb.mono b0.size))
  clear hb b0
  obtain ⟨z, hz⟩ : ∃ z : Int, z = ((k + n * 4 : Nat) : Int) := ⟨_, rfl⟩
  rw [← hz]
  have dz : decide (z < 0) = false := decide_eq_false (by omega)
  have HZ := Lib.hid hz
  clear hz
  go_wp2_with fail
  go_ret
  exact ⟨congrArg (fun z => Ending.returned (.int .i64 z)) HZ.out, HB.out⟩
set_option maxRecDepth 100000 in
set_option maxHeartbeats 1000000 in
theorem heldPkO_any (R : pkT × Int) (v : Value) (k : Nat) (w : World) (h : Rd w v R.1.2.2.length 4 (stpMarks k R.1.2.2.length)) (hn : R.1.2.2.length ≤ 1048576) (h0 : 1 ≤ k) (h1 : k ≤ 1000000000) :
    Calls Tryd.prog 19 #[pkOutV R v, .int .i64 k] w (Held ((k + R.1.2.2.length * 4 : Nat) : Int) w) := by
  obtain ⟨⟨b, d, l⟩, cc⟩ := R
  dsimp only at h hn ⊢
  unfold pkOutV
  dsimp only
  obtain ⟨a, c, rfl, -⟩ := id h.2
  have H := Lib.hid h
  clear h
  have b0 := below_alloc1 w (.cells #[.int .i64 b, .string d, .slice a l.length c, .int .i64 cc] 28)
  go_enter Tryd.func19, Tryd.ntmps19
  go_wp2_with fail
  generalize w.alloc (.cells #[.int .i64 b, .string d, .slice a l.length c, .int .i64 cc] 28) = W at *
  refine (heldPk_any b d _ l.length k W (H.out.below b0 (Nat.le_refl _)) hn h0 h1).mono ?_
  rintro e w2 ⟨rfl, hb⟩
  have HB := Lib.hid (b0.trans (hb.mono b0.size))
  clear hb b0
  obtain ⟨z, hz⟩ : ∃ z : Int, z = ((k + l.length * 4 : Nat) : Int) := ⟨_, rfl⟩
  rw [← hz]
  have dz : decide (z < 0) = false := decide_eq_false (by omega)
  have HZ := Lib.hid hz
  clear hz
  go_wp2_with fail
  go_ret
  exact ⟨congrArg (fun z => Ending.returned (.int .i64 z)) HZ.out, HB.out⟩
end Go.Proofs.YtcpblmpapkhppaaDoor
