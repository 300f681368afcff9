/- Drawn arguments of chapter 8. -/
import Derived.Test.YtcckpkcjekcajaaCDraw1
import Derived.Test.YtcckpkcjekcajaaCDraw2
import Derived.Test.YtcckpkcjekcajaaSource
import Derived.Test.YtcckpkcjekcajaaSome
namespace Go.Proofs.Ytcckpkcjekcajaa
open Go.RowKit

/-- An image drawn from bytes, and a list of steps. -/
def DrawnIL (w : World) (e : Ending) (w' : World) : Prop := ∃ (l : List ByteArray) (v : Value) (ls : List stpT) (u : Value), l.length ≤ 9 ∧ ls.length ≤ 21 ∧ (∀ s ∈ l, s.size ≤ 10) ∧ (∀ d ∈ ls, d.2.2.2.size ≤ 10) ∧ e = .returned (.tuple #[v, u]) ∧ Gr w' w.heap.size 9 1 v l.length (strs l) ∧ Gr w' w.heap.size 57 4 u ls.length (stpCs ls) ∧ Below w.heap.size w w'
set_option maxRecDepth 100000 in
set_option maxHeartbeats 4000000 in
theorem drawApply_any (a : Option Addr) (len cap : Nat) (w : World) (hB : Bytes w a len) (hl : len ≤ 1048576) :
    Calls Try.prog 55 #[.slice a len cap] w (DrawnIL w) := by
  have HB := Lib.hid hB
  clear hB
  go_enter Try.func55, Try.ntmps55
  go_wp2_with fail
  refine (source_any a len cap w HB.out hl).mono ?_
  rintro e w1 ⟨rfl, hs1, hb1⟩
  have hbl := hs1.lt
  have HS1 := Lib.hid hs1
  have HR := Lib.hid (HB.out.row hb1 (Nat.le_refl _))
  have HB1 := Lib.hid hb1
  have hz1 := hb1.size
  clear hs1 hb1
  go_wp2_with fail
  refine (oddZ_any w.heap.size a len cap w1 HS1.out HR.out).mono ?_
  rintro e W2 ⟨l, v, hlen, rfl, hst⟩
  obtain ⟨x3, c3, rfl⟩ := gr_form hst.gr
  have ST2 := Lib.hid hst
  have HRK := Lib.hid (HR.out.kept hst.kept)
  clear hst HS1
  by_cases h0 : l.length = 0
  · have hl0 : l = [] := List.eq_nil_of_length_eq_zero h0
    subst hl0
    clear h0 hlen
    have d0 : ((([] : List ByteArray).length : Int) == 0) = true := rfl
    go_wp2_with fail
    go_ret2
    refine ⟨[], _, [], _, by simp, by simp, by simp, by simp, rfl, ST2.out.gr.lower hz1, Gr.nil _ _ _ _, HB1.out.trans (ST2.out.kept.below (Nat.le_refl _) hz1)⟩
  · have d0 : ((l.length : Int) == 0) = false := beq_eq_false_iff_ne.2 (by omega)
    go_wp2_with fail
    refine (oddN_any w.heap.size a len cap l.length (by omega) hlen W2 ST2.out.src HRK.out).mono ?_
    rintro e W3 ⟨ls, u, hls, rfl, hst⟩
    obtain ⟨x4, c4, rfl⟩ := gr_form hst.gr
    have ST3 := Lib.hid hst
    have STZ := Lib.hid (ST2.out.keep hst.kept hst.src hbl)
    have hz2 : w1.heap.size ≤ W2.heap.size := ST2.out.kept.size
    clear hst
    go_wp2_with fail
    go_ret2
    exact ⟨l, _, ls, _, hlen, hls, STZ.out.small, ST3.out.small, rfl, STZ.out.gr.lower hz1, ST3.out.gr.lower (by omega), HB1.out.trans (STZ.out.kept.below (Nat.le_refl _) hz1)⟩

/-- Two texts drawn from bytes. -/
def DrawnSS (w : World) (e : Ending) (w' : World) : Prop := ∃ s t : ByteArray, s.size ≤ 10 ∧ t.size ≤ 10 ∧ e = .returned (.tuple #[.string s, .string t]) ∧ Below w.heap.size w w'
/-- An image drawn from bytes. -/
def DrawnI (w : World) (e : Ending) (w' : World) : Prop := ∃ (l : List ByteArray) (v : Value), l.length ≤ 9 ∧ (∀ s ∈ l, s.size ≤ 10) ∧ e = .returned v ∧ Gr w' w.heap.size 9 1 v l.length (strs l) ∧ Below w.heap.size w w'
/-- An image drawn from bytes, and a step. -/
def DrawnIS (w : World) (e : Ending) (w' : World) : Prop := ∃ (l : List ByteArray) (v : Value) (x : stpT), l.length ≤ 9 ∧ (∀ s ∈ l, s.size ≤ 10) ∧ x.2.2.2.size ≤ 10 ∧ e = .returned (.tuple #[v, stpV x]) ∧ Gr w' w.heap.size 9 1 v l.length (strs l) ∧ Below w.heap.size w w'
end Go.Proofs.Ytcckpkcjekcajaa
