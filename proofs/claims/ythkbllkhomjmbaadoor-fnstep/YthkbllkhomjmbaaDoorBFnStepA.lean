/- The law FnStep, at bytes of any length. -/
import Derived.Test.YthkbllkhomjmbaaDoorBFnStep
namespace Go.Proofs.YthkbllkhomjmbaaDoor
open Go.RowKit

set_option maxRecDepth 100000 in
set_option maxHeartbeats 1000000 in
theorem stepFn (a0 a1 : Option Addr) (len0 cap0 len1 cap1 : Nat) (w : World) (hB0 : Bytes w a0 len0) (hB1 : Bytes w a1 len1) (hl0 : len0 ≤ maxLen) (hl1 : len1 ≤ maxLen) (hL : Laid w) :
    Calls Tryd.prog 5 #[.slice a0 len0 cap0, .slice a1 len1 cap1] w fun e w' => e = .returned (.bool true) ∧ Below w.heap.size w w' := by
  unfold maxLen at hl0 hl1
  by_cases big0 : 1048576 < len0
  · clear hB0 hB1 hL
    have d0 : decide ((1048576 : Int) < (len0 : Int)) = true := decide_eq_true (by omega)
    go_enter Tryd.func5, Tryd.ntmps5
    go_wp2_with fail
    go_ret
    exact ⟨rfl, Below.refl _ _⟩
  by_cases big1 : 1048576 < len1
  · clear hB0 hB1 hL
    have d0 : decide ((1048576 : Int) < (len0 : Int)) = false := decide_eq_false (by omega)
    have d1 : decide ((1048576 : Int) < (len1 : Int)) = true := decide_eq_true (by omega)
    go_enter Tryd.func5, Tryd.ntmps5
    go_wp2_with fail
    go_ret
    exact ⟨rfl, Below.refl _ _⟩
  exact stepLaw_mid a0 a1 len0 cap0 len1 cap1 w hB0 hB1 (by omega) (by omega) hL
end Go.Proofs.YthkbllkhomjmbaaDoor
