/- The exact law of Xored. -/
import Derived.Test.YtgiiclkjffdjgaaCSImg
import Derived.Test.YtgiiclkjffdjgaaCIImg
namespace Go.Proofs.Ytgiiclkjffdjgaa
open Go.RowKit

set_option maxRecDepth 100000 in
set_option maxHeartbeats 2000000 in
theorem xoredLaw (a b : ByteArray) (w : World) (ha : a.size ≤ maxLen) (hb : b.size ≤ maxLen) :
    Calls Try.prog 5 #[.string a, .string b] w fun e w' => e = .returned (.bool true) ∧ Below w.heap.size w w' := by
  by_cases b0 : (1048576 : Int) < (a.size : Int)
  · have d0 : decide ((1048576 : Int) < (a.size : Int)) = true := decide_eq_true b0
    go_enter Try.func5, Try.ntmps5
    go_wp2_with fail
    go_ret
    exact ⟨rfl, Below.refl _ _⟩
  have d0 : decide ((1048576 : Int) < (a.size : Int)) = false := decide_eq_false b0
  by_cases b1 : (1048576 : Int) < (b.size : Int)
  · have d1 : decide ((1048576 : Int) < (b.size : Int)) = true := decide_eq_true b1
    go_enter Try.func5, Try.ntmps5
    go_wp2_with fail
    go_ret
    exact ⟨rfl, Below.refl _ _⟩
  have d1 : decide ((1048576 : Int) < (b.size : Int)) = false := decide_eq_false b1
  obtain ⟨R, hR⟩ : ∃ R, R = xorS a b := ⟨_, rfl⟩
  have HR := Lib.hid hR
  clear hR
  go_enter Try.func5, Try.ntmps5
  go_wp2_with fail
  have hc := specXored a b w ha hb
  rw [← HR.out] at hc
  refine hc.mono ?_
  clear hc
  rintro e w1 ⟨rfl, hb1⟩
  have B1 := Lib.hid hb1
  clear hb1
  go_wp2_with fail
  have hc := implXored a b w1 ha hb
  rw [← HR.out] at hc
  refine hc.mono ?_
  clear hc
  rintro e w2 ⟨rfl, hb2⟩
  have B2 := Lib.hid (below_more B1.out hb2)
  clear hb2
  have dq : (R.toList == R.toList) = true := by simp
  go_wp2_with fail
  go_ret
  exact ⟨rfl, B2.out⟩
end Go.Proofs.Ytgiiclkjffdjgaa
