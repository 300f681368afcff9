/- PackageRight: the specification's and the program's. -/
import Derived.Test.YtcckpkcjekcajaaDoorKM0
import Derived.Test.YtcckpkcjekcajaaDoorBSCode
import Derived.Test.YtcckpkcjekcajaaDoorM3
namespace Go.Proofs.YtcckpkcjekcajaaDoor
open Go.RowKit

def pkV (b : Int) (d : ByteArray) (v : Value) : Value := .agg #[.int .i64 b, .string d, v]
theorem pkB_and (b : Int) (d : ByteArray) (l : List stpT) : pkB (b, d, l) = ((codeS l b == 0) && ((d.size : Int) == 32)) := by
  rw [Bool.eq_iff_iff, pkB_iff]
  unfold pkOk
  simp
  intro _
  omega

set_option maxRecDepth 100000 in
set_option maxHeartbeats 1000000 in
theorem specPkRight (b : Int) (d : ByteArray) (v : Value) (l : List stpT) (w : World) (h : Rd w v l.length 4 (stpCs l)) (hn : l.length ≤ 1048576) :
    Calls Tryd.prog 59 #[pkV b d v] w fun e w' => e = .returned (.bool (pkB (b, d, l))) ∧ Below w.heap.size w w' := by
  obtain ⟨a, c, rfl, -⟩ := id h.2
  have HV := Lib.hid h
  clear h
  obtain ⟨R, hR⟩ : ∃ R, R = pkB (b, d, l) := ⟨_, rfl⟩
  rw [← hR]
  rw [pkB_and] at hR
  have HR := Lib.hid hR
  clear hR
  unfold pkV
  have HB := Lib.hid (below_alloc1 w (.cells #[.int .i64 b, .string d, .slice a l.length c] 50))
  have HX := Lib.hid (bx_new w 50 #[.int .i64 b, .string d, .slice a l.length c])
  go_enter Tryd.func59, Tryd.ntmps59
  go_wp2_with fail
  generalize w.alloc (.cells #[.int .i64 b, .string d, .slice a l.length c] 50) = W at *
  have hc := specCode _ l b W (HV.out.below HB.out (Nat.le_refl _)) hn
  obtain ⟨C, hC⟩ : ∃ C, C = codeS l b := ⟨_, rfl⟩
  rw [← hC] at hc HR
  clear hC
  refine hc.mono ?_
  clear hc
  rintro e w1 ⟨rfl, hb⟩
  have X1 := HX.out.next hb
  have c1 := X1.t1
  have B1 := Lib.hid (HB.out.trans (hb.mono HB.out.size))
  clear hb X1 HX
  cases hc0 : (C == 0) with
  | false =>
    have hr : R = false := by rw [HR.out, hc0]; rfl
    subst hr
    clear HR
    go_wp2_with fail
    go_ret
    exact ⟨rfl, B1.out⟩
  | true =>
    have hr : ((d.size : Int) == 32) = R := by rw [HR.out, hc0]; rfl
    have HX := Lib.hid hr
    clear HR hr
    go_wp2_with fail
    go_ret
    exact ⟨congrArg (fun b => Ending.returned (.bool b)) HX.out, B1.out⟩

set_option maxRecDepth 100000 in
set_option maxHeartbeats 1000000 in
theorem implPkRight (b : Int) (d : ByteArray) (v : Value) (l : List stpT) (w : World) (h : Rd w v l.length 4 (stpCs l)) (hn : l.length ≤ 1048576) :
    Calls Tryd.prog 61 #[pkV b d v] w fun e w' => e = .returned (.bool (pkB (b, d, l))) ∧ Below w.heap.size w w' := by
  obtain ⟨a, c, rfl, -⟩ := id h.2
  have HV := Lib.hid h
  clear h
  obtain ⟨R, hR⟩ : ∃ R, R = pkB (b, d, l) := ⟨_, rfl⟩
  rw [← hR]
  rw [pkB_and] at hR
  have HR := Lib.hid hR
  clear hR
  unfold pkV
  have HB := Lib.hid (below_alloc1 w (.cells #[.int .i64 b, .string d, .slice a l.length c] 50))
  have HX := Lib.hid (bx_new w 50 #[.int .i64 b, .string d, .slice a l.length c])
  go_enter Tryd.func61, Tryd.ntmps61
  go_wp2_with fail
  generalize w.alloc (.cells #[.int .i64 b, .string d, .slice a l.length c] 50) = W at *
  have hc := implCode _ l b W (HV.out.below HB.out (Nat.le_refl _)) hn
  obtain ⟨C, hC⟩ : ∃ C, C = codeS l b := ⟨_, rfl⟩
  rw [← hC] at hc HR
  clear hC
  refine hc.mono ?_
  clear hc
  rintro e w1 ⟨rfl, hb⟩
  have X1 := HX.out.next hb
  have c1 := X1.t1
  have B1 := Lib.hid (HB.out.trans (hb.mono HB.out.size))
  clear hb X1 HX
  cases hc0 : (C == 0) with
  | false =>
    have hr : R = false := by rw [HR.out, hc0]; rfl
    subst hr
    clear HR
    go_wp2_with fail
    go_ret
    exact ⟨rfl, B1.out⟩
  | true =>
    have hr : ((d.size : Int) == 32) = R := by rw [HR.out, hc0]; rfl
    have HX := Lib.hid hr
    clear HR hr
    go_wp2_with fail
    go_ret
    exact ⟨congrArg (fun b => Ending.returned (.bool b)) HX.out, B1.out⟩
end Go.Proofs.YtcckpkcjekcajaaDoor
