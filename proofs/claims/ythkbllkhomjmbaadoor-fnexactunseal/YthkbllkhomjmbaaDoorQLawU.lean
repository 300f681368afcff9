/- The exact law of Unseal. -/
import Derived.Test.YthkbllkhomjmbaaDoorQUns
namespace Go.Proofs.YthkbllkhomjmbaaDoor
open Go.RowKit

def textU (R : ByteArray × Int) : Value := .agg #[.string R.1, .int .i64 0, .int .i64 R.2]
set_option maxHeartbeats 1000000 in
set_option maxRecDepth 100000 in
theorem eqTextU_same (R : ByteArray × Int) (w : World) :
    Calls Tryd.prog 42 #[textU R, textU R] w fun e w' => e = .returned (.bool true) ∧ Below w.heap.size w w' := by
  obtain ⟨x, c⟩ := R
  unfold textU
  dsimp only
  have d1 : (x.toList != x.toList) = false := by simp
  have d2 : (c != c) = false := by simp
  go_enter Tryd.func42, Tryd.ntmps42
  go_wp2_with fail
  go_ret
  exact ⟨rfl, ((Below.refl _ w).alloc (Nat.le_refl _) _).alloc (by simp) _⟩

set_option maxHeartbeats 1000000 in
set_option maxRecDepth 100000 in
theorem unsealLaw (s : ByteArray) (a : Nat → Addr) (w : World) (hs : s.size ≤ maxLen) (hE : Sent w (sealG ++ []) a) :
    Calls Tryd.prog 6 #[.string s] w fun e w' => e = .returned (.bool true) ∧ Below w.heap.size w w' := by
  have hs' := hs
  unfold maxLen at hs'
  by_cases hl : s.size ≤ 1048576
  · have d0 : decide ((1048576 : Int) < (s.size : Int)) = false := decide_eq_false (by omega)
    have HQ := Lib.hid (eqTextU_same (unsealT s))
    have HS := Lib.hid (fun w => specUnsealT s w hs)
    have HI := Lib.hid (fun w => implUnsealT s [] a w hs)
    obtain ⟨R, hR⟩ : ∃ R, R = unsealT s := ⟨_, rfl⟩
    rw [← hR] at HQ HS HI
    clear hR
    obtain ⟨x, c⟩ := R
    unfold textU at HQ
    dsimp only at HQ HS HI
    have HE := Lib.hid hE
    clear hE
    go_enter Tryd.func6, Tryd.ntmps6
    go_wp2_with fail
    refine (HS.out _).mono ?_
    rintro e w1 ⟨rfl, hb1⟩
    have b1 := below_alloc1 w1 (.cells #[.string x, .int .i64 0, .int .i64 c] 31)
    have T1 := Lib.hid (bx_new w1 31 #[.string x, .int .i64 0, .int .i64 c])
    have B1 := Lib.hid (hb1.trans (b1.mono hb1.size))
    clear hb1 b1
    go_wp2_with fail
    generalize w1.alloc (.cells #[.string x, .int .i64 0, .int .i64 c] 31) = W1 at *
    generalize w1.heap.size = n1 at *
    refine (HI.out _ (HE.out.next B1.out)).mono ?_
    rintro e w2 ⟨rfl, hb2⟩
    have b2 := below_alloc1 w2 (.cells #[.string x, .int .i64 0, .int .i64 c] 31)
    have b12 := hb2.trans (b2.mono hb2.size)
    have t2 := T1.out.next b12
    have k0 := t2.t0
    have k1 := t2.t1
    have k2 := t2.t2
    have B2 := Lib.hid (B1.out.trans (b12.mono B1.out.size))
    clear hb2 b2 b12 t2
    go_wp2_with fail
    clear k0 k1 k2
    refine (HQ.out _).mono ?_
    rintro e w3 ⟨rfl, hb3⟩
    have B3 := Lib.hid (B2.out.trans (hb3.mono B2.out.size))
    clear hb3
    go_wp2_with fail
    go_ret
    exact ⟨rfl, B3.out⟩
  · have d0 : decide ((1048576 : Int) < (s.size : Int)) = true := decide_eq_true (by omega)
    go_enter Tryd.func6, Tryd.ntmps6
    go_wp2_with fail
    go_ret
    exact ⟨rfl, Below.refl _ _⟩
end Go.Proofs.YthkbllkhomjmbaaDoor
