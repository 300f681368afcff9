/- An answer over a flash in the laws: compared, marked, held. -/
import Derived.Test.YtocjjkjjojdpdaaSRead
namespace Go.Proofs.Ytocjjkjjojdpdaa
open Go.RowKit

theorem four_cells {w w1 : World} {K : Nat} {T : TypeId} {a b c d : Value} (hb : Below K (w.alloc (.cells #[a, b, c, d] T)) w1) (hK : w.heap.size < K) :
    w1.cell? ⟨w.heap.size, 0, none⟩ = some a ∧ w1.cell? ⟨w.heap.size, 1, none⟩ = some b ∧ w1.cell? ⟨w.heap.size, 2, none⟩ = some c ∧ w1.cell? ⟨w.heap.size, 3, none⟩ = some d := (out_cells hb hK).1

set_option maxHeartbeats 1000000 in
set_option maxRecDepth 100000 in
theorem eqFlashOut_any (sv dv tv ev : Value) (O : OM) (w : World) (h : FRd w sv dv O.fl) (k : FRd w tv ev O.fl) (hn : FFits O.fl) :
    Calls Try.prog 13 #[.agg #[sv, dv, .string O.data, .int .i64 O.code], .agg #[tv, ev, .string O.data, .int .i64 O.code]] w fun e w' => e = .returned (.bool true) ∧ Below w.heap.size w w' := by
  have hb := ((Below.refl w.heap.size w).alloc (Nat.le_refl _) (.cells #[sv, dv, .string O.data, .int .i64 O.code] 35)).alloc (by simp) (.cells #[tv, ev, .string O.data, .int .i64 O.code] 35)
  have H := Lib.hid (h.below hb (Nat.le_refl _))
  have K := Lib.hid (k.below hb (Nat.le_refl _))
  have HB := Lib.hid hb
  have HN := Lib.hid hn
  clear h k hb hn
  have d1 : (O.code != O.code) = false := by simp
  go_enter Try.func13, Try.ntmps13
  go_wp2_with fail
  refine (eqFlash_any sv dv tv ev O.fl _ H.out K.out HN.out).mono ?_
  rintro e w1 ⟨rfl, hb1⟩
  obtain ⟨c0, c1, c2, c3⟩ := four_cells (K := w.heap.size + 1) (((Below.refl _ (w.alloc (.cells #[sv, dv, .string O.data, .int .i64 O.code] 35))).alloc (by simp) (.cells #[tv, ev, .string O.data, .int .i64 O.code] 35)).trans (hb1.mono (by simp))) (Nat.lt_succ_self _)
  obtain ⟨k0, k1, k2, k3⟩ := four_cells hb1 (by simp)
  have en : (w.alloc (.cells #[sv, dv, .string O.data, .int .i64 O.code] 35)).heap.size = w.heap.size + 1 := by simp
  rw [en] at k0 k1 k2 k3
  have HB1 := Lib.hid (HB.out.trans (hb1.mono (by simp; omega)))
  clear hb1
  go_wp2_with fail
  go_ret
  exact ⟨rfl, HB1.out⟩

set_option maxHeartbeats 1000000 in
set_option maxRecDepth 100000 in
theorem markFlashOut_any (lo : Nat) (sv dv : Value) (O : OM) (k : Nat) (w : World) (h : FOwn w lo sv dv O.fl) (hn : FFits O.fl) (h0 : 1 ≤ k) (h1 : k ≤ 100000000) :
    Calls Try.prog 18 #[.agg #[sv, dv, .string O.data, .int .i64 O.code], .int .i64 k] w fun e w' => e = .returned (.int .i64 ((k + O.fl.sec.length + O.fl.dir.length * 2 : Nat) : Int)) ∧ FMarked w' lo sv dv O.fl.sec.length O.fl.dir.length k ∧ Two (blk sv O.fl.sec.length) (blk dv O.fl.dir.length) w w' := by
  have hb := (Below.refl w.heap.size w).alloc (Nat.le_refl _) (.cells #[sv, dv, .string O.data, .int .i64 O.code] 35)
  have H := Lib.hid (h.below hb (Nat.le_refl _))
  have HB := Lib.hid hb
  have HN := Lib.hid hn
  clear h hb hn
  go_enter Try.func18, Try.ntmps18
  go_wp2_with fail
  refine (markFlash_any lo sv dv O.fl k _ H.out HN.out h0 h1).mono ?_
  rintro e w1 ⟨rfl, hm, ht⟩
  have HM := Lib.hid hm
  have HT := Lib.hid ((two_below HB.out).trans ht)
  clear hm ht
  go_wp2_with fail
  go_ret
  exact ⟨rfl, HM.out, HT.out⟩

set_option maxHeartbeats 1000000 in
set_option maxRecDepth 100000 in
theorem heldFlashOut_any (lo : Nat) (sv dv data : Value) (code : Int) (n m k : Nat) (w : World) (h : FMarked w lo sv dv n m k) (hn : n ≤ 1048576) (hm : m ≤ 1048576) (h0 : 1 ≤ k) (h1 : k ≤ 100000000) :
    Calls Try.prog 19 #[.agg #[sv, dv, data, .int .i64 code], .int .i64 k] w (Held ((k + n + m * 2 : Nat) : Int) w) := by
  have hb := (Below.refl w.heap.size w).alloc (Nat.le_refl _) (.cells #[sv, dv, data, .int .i64 code] 35)
  have H := Lib.hid (show FMarked _ lo sv dv n m k from ⟨h.1.below hb (Nat.le_refl _), h.2.1.below hb (Nat.le_refl _), h.2.2⟩)
  have HB := Lib.hid hb
  clear h hb
  have d0 : decide (((k + n + m * 2 : Nat) : Int) < 0) = false := decide_eq_false (by omega)
  go_enter Try.func19, Try.ntmps19
  go_wp2_with fail
  refine (heldFlash_any lo sv dv n m k _ H.out hn hm h0 h1).mono ?_
  rintro e w1 ⟨rfl, hb1⟩
  have HB1 := Lib.hid (HB.out.trans (hb1.mono (by simp)))
  clear hb1
  go_wp2_with fail
  go_ret
  exact ⟨rfl, HB1.out⟩
end Go.Proofs.Ytocjjkjjojdpdaa
