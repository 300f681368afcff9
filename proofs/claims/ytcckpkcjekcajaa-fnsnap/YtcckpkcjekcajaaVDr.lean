/- Drawn arguments of chapter 11. -/
import Derived.Test.YtcckpkcjekcajaaCDraw3
namespace Go.Proofs.Ytcckpkcjekcajaa
open Go.RowKit

/-- Steps drawn from bytes, and a number. -/
def DrawnTi (w : World) (e : Ending) (w' : World) : Prop := ∃ (ls : List stpT) (u : Value) (z : Int), ls.length ≤ 21 ∧ (∀ d ∈ ls, Sm d) ∧ -1 ≤ z ∧ z ≤ 5 ∧ e = .returned (.tuple #[u, .int .i64 z]) ∧ Gr w' w.heap.size 57 4 u ls.length (stpCs ls) ∧ Below w.heap.size w w'
set_option maxRecDepth 100000 in
set_option maxHeartbeats 4000000 in
theorem drawTouches_any (a : Option Addr) (len cap : Nat) (w : World) (hB : Bytes w a len) (hl : len ≤ 1048576) :
    Calls Try.prog 28 #[.slice a len cap] w (DrawnTi w) := by
  have HB := Lib.hid hB
  clear hB
  go_enter Try.func28, Try.ntmps28
  go_wp2_with fail
  refine (source_any a len cap w HB.out hl).mono ?_
  rintro e w1 ⟨rfl, hs1, hb1⟩
  have hbl := hs1.lt
  have HS1 := Lib.hid hs1
  have HR := Lib.hid (HB.out.row hb1 (Nat.le_refl _))
  have HB1 := Lib.hid hb1
  have hz1 := hb1.size
  clear hs1 hb1
  go_wp2_with fail
  refine (oddN_any w.heap.size a len cap 4 (by omega) (by omega) w1 HS1.out HR.out).mono ?_
  rintro e W2 ⟨ls, u, hls, rfl, hst⟩
  obtain ⟨x4, c4, rfl⟩ := gr_form hst.gr
  have ST2 := Lib.hid hst
  have HRK := Lib.hid (HR.out.kept hst.kept)
  clear hst HS1
  go_wp2_with fail
  refine (n_any w.heap.size a len cap 6 W2 ST2.out.src HRK.out (by omega) (by omega)).mono ?_
  rintro e w3 ⟨y, ⟨hy0, hy1⟩, rfl, hs3, hk3⟩
  have ST3 := Lib.hid (ST2.out.keep hk3 hs3 hbl)
  have m0 : wrap64 (y - 1) = y - 1 := IntWalk.wrap64_in _ (by omega)
  have m1 : IntKind.i64.wrap (y - 1) = y - 1 := IntWalk.i64_in _ (by omega)
  clear hs3 hk3 ST2
  go_wp2_with fail
  go_ret2
  exact ⟨ls, _, y - 1, by omega, ST3.out.sm, by omega, by omega, rfl, ST3.out.gr.lower hz1, HB1.out.trans (ST3.out.kept.below (Nat.le_refl _) hz1)⟩

/-- An image drawn from bytes, a list of steps, and a number. -/
def DrawnILi (w : World) (e : Ending) (w' : World) : Prop := ∃ (l : List ByteArray) (v : Value) (ls : List stpT) (u : Value) (z : Int), l.length ≤ 9 ∧ ls.length ≤ 21 ∧ (∀ s ∈ l, s.size ≤ 10) ∧ (∀ d ∈ ls, Sm d) ∧ -1 ≤ z ∧ z ≤ 10 ∧ e = .returned (.tuple #[v, u, .int .i64 z]) ∧ Gr w' w.heap.size 9 1 v l.length (strs l) ∧ Gr w' w.heap.size 57 4 u ls.length (stpCs ls) ∧ Below w.heap.size w w'
set_option maxRecDepth 100000 in
set_option maxHeartbeats 4000000 in
theorem drawSnapRead_any (a : Option Addr) (len cap : Nat) (w : World) (hB : Bytes w a len) (hl : len ≤ 1048576) :
    Calls Try.prog 27 #[.slice a len cap] w (DrawnILi w) := by
  have HB := Lib.hid hB
  clear hB
  go_enter Try.func27, Try.ntmps27
  go_wp2_with fail
  refine (source_any a len cap w HB.out hl).mono ?_
  rintro e w1 ⟨rfl, hs1, hb1⟩
  have hbl := hs1.lt
  have HS1 := Lib.hid hs1
  have HR := Lib.hid (HB.out.row hb1 (Nat.le_refl _))
  have HB1 := Lib.hid hb1
  have hz1 := hb1.size
  clear hs1 hb1
  go_wp2_with fail
  refine (oddZ_any w.heap.size a len cap w1 HS1.out HR.out).mono ?_
  rintro e W2 ⟨l, v, hlen, rfl, hst⟩
  obtain ⟨x3, c3, rfl⟩ := gr_form hst.gr
  have ST2 := Lib.hid hst
  have HRK := Lib.hid (HR.out.kept hst.kept)
  clear hst HS1
  by_cases h0 : l.length = 0
  · have hl0 : l = [] := List.eq_nil_of_length_eq_zero h0
    subst hl0
    clear h0 hlen
    have d0 : ((([] : List ByteArray).length : Int) == 0) = true := rfl
    go_wp2_with fail
    go_ret3
    refine ⟨[], _, [], _, 0, by simp, by simp, by simp, by simp, by omega, by omega, rfl, ST2.out.gr.lower hz1, Gr.nil _ _ _ _, HB1.out.trans (ST2.out.kept.below (Nat.le_refl _) hz1)⟩
  · have d0 : ((l.length : Int) == 0) = false := beq_eq_false_iff_ne.2 (by omega)
    go_wp2_with fail
    refine (oddN_any w.heap.size a len cap l.length (by omega) hlen W2 ST2.out.src HRK.out).mono ?_
    rintro e W3 ⟨ls, u, hls, rfl, hst⟩
    obtain ⟨x4, c4, rfl⟩ := gr_form hst.gr
    have ST3 := Lib.hid hst
    have STZ := Lib.hid (ST2.out.keep hst.kept hst.src hbl)
    have hz2 : w1.heap.size ≤ W2.heap.size := ST2.out.kept.size
    have HRK3 := Lib.hid (HRK.out.kept hst.kept)
    clear hst
    have x1 : wrap64 ((l.length : Int) + 2) = (l.length : Int) + 2 := IntWalk.wrap64_in _ (by omega)
    have x2 : IntKind.i64.wrap ((l.length : Int) + 2) = (l.length : Int) + 2 := IntWalk.i64_in _ (by omega)
    go_wp2_with fail
    have hnn := n_any1 w.heap.size a len cap (l.length + 2) W3 ST3.out.src HRK3.out (by omega) (by omega)
    rw [show ((l.length + 2 : Nat) : Int) = (l.length : Int) + 2 by omega] at hnn
    refine hnn.mono ?_
    clear hnn x1 x2
    rintro e W4 ⟨y, hy, rfl, hs4, hk4⟩
    have ST4 := Lib.hid (ST3.out.keep hk4 hs4 (by omega))
    have STZ4 := Lib.hid (STZ.out.keep hk4 hs4 hbl)
    have m0 : wrap64 ((y : Int) - 1) = (y : Int) - 1 := IntWalk.wrap64_in _ (by omega)
    have m1 : IntKind.i64.wrap ((y : Int) - 1) = (y : Int) - 1 := IntWalk.i64_in _ (by omega)
    clear hs4 hk4 ST3 STZ
    go_wp2_with fail
    go_ret3
    exact ⟨l, _, ls, _, (y : Int) - 1, hlen, hls, STZ4.out.small, ST4.out.sm, by omega, by omega, rfl, STZ4.out.gr.lower hz1, ST4.out.gr.lower (by omega), HB1.out.trans (STZ4.out.kept.below (Nat.le_refl _) hz1)⟩
set_option maxRecDepth 100000 in
set_option maxHeartbeats 4000000 in
theorem drawSnapAll_any (a : Option Addr) (len cap : Nat) (w : World) (hB : Bytes w a len) (hl : len ≤ 1048576) :
    Calls Try.prog 29 #[.slice a len cap] w (DrawnIL w) := by
  have HB := Lib.hid hB
  clear hB
  go_enter Try.func29, Try.ntmps29
  go_wp2_with fail
  refine (drawApply_any a len cap w HB.out hl).mono ?_
  rintro e w1 ⟨l, v, ls, u, h1, h2, h3, h4, rfl, hg1, hg2, hb⟩
  obtain ⟨x3, c3, rfl⟩ := gr_form hg1
  obtain ⟨x4, c4, rfl⟩ := gr_form hg2
  have G1 := Lib.hid hg1
  have G2 := Lib.hid hg2
  have HB1 := Lib.hid hb
  have H3 := Lib.hid h3
  have H4 := Lib.hid h4
  clear hg1 hg2 hb h3 h4
  go_wp2_with fail
  go_ret2
  exact ⟨l, _, ls, _, h1, h2, H3.out, H4.out, rfl, G1.out, G2.out, HB1.out⟩
end Go.Proofs.Ytcckpkcjekcajaa
