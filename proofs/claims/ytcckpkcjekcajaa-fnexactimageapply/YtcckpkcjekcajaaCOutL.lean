/- Answers with a list of texts in the laws: compared, marked, looked at. -/
import Derived.Test.YtcckpkcjekcajaaLMark
import Derived.Test.YtcckpkcjekcajaaAOb
namespace Go.Proofs.Ytcckpkcjekcajaa
open Go.RowKit

set_option maxRecDepth 100000 in
set_option maxHeartbeats 1000000 in
theorem eqImageOut_any (v u : Value) (R : List ByteArray × Int) (w : World) (h : Rd w v R.1.length 1 (strs R.1)) (k : Rd w u R.1.length 1 (strs R.1)) (hn : R.1.length ≤ 1048576) :
    Calls Try.prog 20 #[.agg #[v, .int .i64 R.2], .agg #[u, .int .i64 R.2]] w fun e w' => e = .returned (.bool true) ∧ Below w.heap.size w w' := by
  obtain ⟨a, c, rfl, -⟩ := id h.2
  obtain ⟨a', c', rfl, -⟩ := id k.2
  have H := Lib.hid h
  have K := Lib.hid k
  clear h k
  have d0 : (R.2 != R.2) = false := by simp
  generalize R.2 = r2 at *
  have b0 := (below_alloc1 w (.cells #[.slice a R.1.length c, .int .i64 r2] 37))
  have b1 := b0.trans ((below_alloc1 (w.alloc (.cells #[.slice a R.1.length c, .int .i64 r2] 37)) (.cells #[.slice a' R.1.length c', .int .i64 r2] 37)).mono b0.size)
  have X0 := Lib.hid ((bx_new w 37 #[.slice a R.1.length c, .int .i64 r2]).next (below_alloc1 _ (.cells #[.slice a' R.1.length c', .int .i64 r2] 37)))
  have X1 := Lib.hid (bx_new (w.alloc (.cells #[.slice a R.1.length c, .int .i64 r2] 37)) 37 #[.slice a' R.1.length c', .int .i64 r2])
  rw [size_alloc1] at X1
  have B1 := Lib.hid b1
  clear b0 b1
  go_enter Try.func20, Try.ntmps20
  go_wp2_with fail
  generalize (w.alloc (.cells #[.slice a R.1.length c, .int .i64 r2] 37)).alloc (.cells #[.slice a' R.1.length c', .int .i64 r2] 37) = W at *
  refine (eqStrs_any _ _ R.1 W (H.out.below B1.out (Nat.le_refl _)) (K.out.below B1.out (Nat.le_refl _)) (by unfold maxLen; omega)).mono ?_
  rintro e w2 ⟨rfl, hst⟩
  have hb := hst.below W.heap.size
  have c0 := (X0.out.next hb).cell 1
  have c1 := (X1.out.next hb).cell 1
  simp at c0 c1
  have B2 := Lib.hid (B1.out.trans (hb.mono B1.out.size))
  clear hst hb
  go_wp2_with fail
  go_ret
  exact ⟨rfl, B2.out⟩
set_option maxRecDepth 100000 in
set_option maxHeartbeats 1000000 in
theorem markImageOut_any (lo : Nat) (v : Value) (R : List ByteArray × Int) (k : Nat) (xs : List Value) (w : World) (h : Own w lo v R.1.length 1 xs) (hn : R.1.length ≤ 1048576) (h0 : 1 ≤ k) (h1 : k ≤ 1000000000) :
    Calls Try.prog 23 #[.agg #[v, .int .i64 R.2], .int .i64 k] w (Marked lo v R.1.length 1 (marks k R.1.length) ((k + R.1.length : Nat) : Int) w) := by
  obtain ⟨a, c, rfl, -⟩ := id h.2
  have H := Lib.hid h
  clear h
  generalize R.2 = r2 at *
  have b0 := below_alloc1 w (.cells #[.slice a R.1.length c, .int .i64 r2] 37)
  go_enter Try.func23, Try.ntmps23
  go_wp2_with fail
  generalize w.alloc (.cells #[.slice a R.1.length c, .int .i64 r2] 37) = W at *
  refine (markStrs_any lo _ R.1.length k xs W (H.out.below b0 (Nat.le_refl _)) hn h0 h1).mono ?_
  rintro e w2 ⟨rfl, ho, hg⟩
  have HO := Lib.hid ho
  have HG := Lib.hid (((World.grownBy.refl w (blk (.slice a R.1.length c) R.1.length)).andThen (below_grown b0) (fun _ e => by cases e)).andThen hg (fun _ e => .inr e))
  clear ho hg
  go_wp2_with fail
  go_ret
  exact ⟨rfl, HO.out, HG.out⟩
set_option maxRecDepth 100000 in
set_option maxHeartbeats 1000000 in
theorem heldImageOut_any (v : Value) (R : List ByteArray × Int) (k : Nat) (w : World) (h : Rd w v R.1.length 1 (marks k R.1.length)) (hn : R.1.length ≤ 1048576) (h0 : 1 ≤ k) (h1 : k ≤ 1000000000) :
    Calls Try.prog 24 #[.agg #[v, .int .i64 R.2], .int .i64 k] w (Held ((k + R.1.length : Nat) : Int) w) := by
  obtain ⟨a, c, rfl, -⟩ := id h.2
  have H := Lib.hid h
  clear h
  generalize R.2 = r2 at *
  have b0 := below_alloc1 w (.cells #[.slice a R.1.length c, .int .i64 r2] 37)
  go_enter Try.func24, Try.ntmps24
  go_wp2_with fail
  generalize w.alloc (.cells #[.slice a R.1.length c, .int .i64 r2] 37) = W at *
  refine (heldStrs_any _ R.1.length k W (H.out.below b0 (Nat.le_refl _)) hn h0 h1).mono ?_
  rintro e w2 ⟨rfl, hb⟩
  have HB := Lib.hid (b0.trans (hb.mono b0.size))
  clear hb b0
  obtain ⟨z, hz⟩ : ∃ z : Int, z = ((k + R.1.length : Nat) : Int) := ⟨_, rfl⟩
  rw [← hz]
  have dz : decide (z < 0) = false := decide_eq_false (by omega)
  have HZ := Lib.hid hz
  clear hz
  go_wp2_with fail
  go_ret
  exact ⟨congrArg (fun z => Ending.returned (.int .i64 z)) HZ.out, HB.out⟩
end Go.Proofs.Ytcckpkcjekcajaa
