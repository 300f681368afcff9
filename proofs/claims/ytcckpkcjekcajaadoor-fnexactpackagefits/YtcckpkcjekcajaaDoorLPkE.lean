/- Packages compared. -/
import Derived.Test.YtcckpkcjekcajaaDoorKR
import Derived.Test.YtcckpkcjekcajaaDoorLStep
import Derived.Test.YtcckpkcjekcajaaDoorAOb
import Derived.Test.YtcckpkcjekcajaaDoorLBox
namespace Go.Proofs.YtcckpkcjekcajaaDoor
open Go.RowKit

set_option maxRecDepth 100000 in
set_option maxHeartbeats 1000000 in
theorem eqPk_any (p : pkT) (v u : Value) (w : World) (h : Rd w v p.2.2.length 4 (stpCs p.2.2)) (k : Rd w u p.2.2.length 4 (stpCs p.2.2)) (hn : p.2.2.length ≤ 1048576) :
    Calls Tryd.prog 26 #[pkV p.1 p.2.1 v, pkV p.1 p.2.1 u] w fun e w' => e = .returned (.bool true) ∧ Below w.heap.size w w' := by
  obtain ⟨b, d, l⟩ := p
  dsimp only at h k hn
  unfold pkV
  dsimp only
  obtain ⟨a, c, rfl, -⟩ := id h.2
  obtain ⟨a', c', rfl, -⟩ := id k.2
  have HV := Lib.hid h
  have HU := Lib.hid k
  clear h k
  have d0 : (b != b) = false := by simp
  have d1 : (d.toList != d.toList) = false := by simp
  have b0 := (below_alloc1 w (.cells #[.int .i64 b, .string d, .slice a l.length c] 50))
  have b1 := b0.trans ((below_alloc1 (w.alloc (.cells #[.int .i64 b, .string d, .slice a l.length c] 50)) (.cells #[.int .i64 b, .string d, .slice a' l.length c'] 50)).mono b0.size)
  have HB := Lib.hid b1
  clear b0 b1
  go_enter Tryd.func26, Tryd.ntmps26
  go_wp2_with fail
  generalize (w.alloc (.cells #[.int .i64 b, .string d, .slice a l.length c] 50)).alloc (.cells #[.int .i64 b, .string d, .slice a' l.length c'] 50) = W at *
  refine (eqSteps_any _ _ l W (HV.out.below HB.out (Nat.le_refl _)) (HU.out.below HB.out (Nat.le_refl _)) (by unfold maxLen; omega)).mono ?_
  rintro e w2 ⟨rfl, hb⟩
  have B2 := Lib.hid (HB.out.trans (hb.mono HB.out.size))
  clear hb
  go_wp2_with fail
  go_ret
  exact ⟨rfl, B2.out⟩
end Go.Proofs.YtcckpkcjekcajaaDoor
