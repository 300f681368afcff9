/- The laws' comparison of images. -/
import Derived.Test.YtcckpkcjekcajaaDoorLStr
import Derived.Test.YtcckpkcjekcajaaDoorLBox
import Derived.Test.YtcckpkcjekcajaaDoorM1
namespace Go.Proofs.YtcckpkcjekcajaaDoor
open Go.RowKit

set_option maxRecDepth 100000 in
set_option maxHeartbeats 1000000 in
theorem lwTexts_any (v u : Value) (l : List ByteArray) (w : World) (h : Rd w v l.length 1 (strs l)) (k : Rd w u l.length 1 (strs l)) (hn : l.length ≤ 1048576) :
    Calls Tryd.prog 42 #[v, u] w fun e w' => e = .returned (.bool true) ∧ Still w w' := by
  obtain ⟨_, a, c, rfl, hc⟩ := h
  obtain ⟨_, a', c', rfl, hc'⟩ := k
  have HC := Lib.hid hc
  have HC' := Lib.hid hc'
  clear hc hc'
  have d0 : ((l.length : Int) != (l.length : Int)) = false := by simp
  go_enter Tryd.func42, Tryd.ntmps42
  go_wp2_with fail
  go_loopw [5] (fun i wr => EqRel w l.length i wr) (fun i _ => l.length - (intOf i).toNat)
  case atStart => exact ⟨0, by omega, rfl, Still.refl w⟩
  case round =>
    obtain ⟨k, hk, rfl, hst⟩ := hrel
    by_cases hlt : k < l.length
    · obtain ⟨b, off, rfl, hbl, hcell⟩ := HC.out (by omega)
      obtain ⟨b', off', rfl, hbl', hcell'⟩ := HC'.out (by omega)
      have hc1 : wr.cell? ⟨b, off + k, none⟩ = some (.string l[k]) := by
        rw [(hst.below w.heap.size).cell (p := ⟨b, off + k, none⟩) hbl, hcell k (by omega), strs_at l k hlt]
      have hc2 : wr.cell? ⟨b', off' + k, none⟩ = some (.string l[k]) := by
        rw [(hst.below w.heap.size).cell (p := ⟨b', off' + k, none⟩) hbl', hcell' k (by omega), strs_at l k hlt]
      have HST := Lib.hid hst
      clear hcell hcell' hst
      have e0 : (k : Int) < (l.length : Int) := by omega
      have e1 : (0 : Int) ≤ (k : Int) := by omega
      go_wp2_with fail
      go_quiet (fail)
      go_wp2_with fail
      go_roundw
      case rel => exact ⟨k + 1, by omega, by go_num, HST.out.trans ⟨_, rfl⟩⟩
      case measure => simp [intOf]; omega
    · obtain rfl : k = l.length := by omega
      go_wp2_with fail
      go_ret
      exact ⟨rfl, hst⟩
set_option maxRecDepth 100000 in
set_option maxHeartbeats 1000000 in
theorem lwImage_any (v u : Value) (R : List ByteArray × Int) (w : World) (h : Rd w v R.1.length 1 (strs R.1)) (k : Rd w u R.1.length 1 (strs R.1)) (hn : R.1.length ≤ 1048576) :
    Calls Tryd.prog 10 #[.agg #[v, .int .i64 R.2], .agg #[u, .int .i64 R.2]] w fun e w' => e = .returned (.bool true) ∧ Below w.heap.size w w' := by
  obtain ⟨a, c, rfl, -⟩ := id h.2
  obtain ⟨a', c', rfl, -⟩ := id k.2
  have H := Lib.hid h
  have K := Lib.hid k
  clear h k
  have d0 : (R.2 == R.2) = true := by simp
  generalize R.2 = r2 at *
  have b0 := (below_alloc1 w (.cells #[.slice a R.1.length c, .int .i64 r2] 28))
  have b1 := b0.trans ((below_alloc1 (w.alloc (.cells #[.slice a R.1.length c, .int .i64 r2] 28)) (.cells #[.slice a' R.1.length c', .int .i64 r2] 28)).mono b0.size)
  have B1 := Lib.hid b1
  clear b0 b1
  go_enter Tryd.func10, Tryd.ntmps10
  go_wp2_with fail
  generalize (w.alloc (.cells #[.slice a R.1.length c, .int .i64 r2] 28)).alloc (.cells #[.slice a' R.1.length c', .int .i64 r2] 28) = W at *
  refine (lwTexts_any _ _ R.1 W (H.out.below B1.out (Nat.le_refl _)) (K.out.below B1.out (Nat.le_refl _)) hn).mono ?_
  rintro e w2 ⟨rfl, hst⟩
  have B2 := Lib.hid (below_more B1.out (hst.below W.heap.size))
  clear hst
  go_wp2_with fail
  go_ret
  exact ⟨rfl, B2.out⟩
end Go.Proofs.YtcckpkcjekcajaaDoor
