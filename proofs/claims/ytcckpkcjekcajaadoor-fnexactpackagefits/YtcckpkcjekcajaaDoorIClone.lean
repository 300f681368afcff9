/- slices.Clone at []string and []Dirty. -/
import Derived.Test.YtcckpkcjekcajaaDoorM2
import Derived.Lib.SliceRun
namespace Go.Proofs.YtcckpkcjekcajaaDoor
open Go.RowKit

set_option maxHeartbeats 1000000 in
set_option maxRecDepth 100000 in
theorem cloneS (v : Value) (l : List ByteArray) (w : World) (h : Rd w v l.length 1 (strs l)) (hn : l.length ≤ 1048576) :
    Calls Tryd.prog 33 #[v] w (MadeRow w l.length 1 (strs l)) := by
  obtain ⟨i0, hi, hz0, hz1, hz2⟩ := info_parts Tryd.info9
  obtain ⟨a, c, rfl, -⟩ := id h.2
  cases a with
  | none =>
    have hl : l.length = 0 := by
      by_cases h0 : 0 < l.length
      · obtain ⟨b, off, e, _⟩ := h.get h0; cases e
      · omega
    have hn : l = [] := List.eq_nil_of_length_eq_zero hl
    subst hn
    have q0 := Lib.run_eql_slice_nil (P := Tryd.prog) w 23 _ none 0 c 0 0 Tryd.underlying23
    clear h hi hz0 hz1 hz2
    go_enter Tryd.func33, Tryd.ntmps33
    go_wp2_with fail
    go_ret
    exact ⟨_, rfl, ⟨rfl, _, _, rfl, fun h => absurd h (Nat.lt_irrefl 0)⟩, Below.refl _ _⟩
  | some x =>
    have HR := Lib.hid h
    have q0 := Lib.run_eql_slice_nil (P := Tryd.prog) w 23 _ (some x) l.length c 0 0 Tryd.underlying23
    clear h
    go_enter Tryd.func33, Tryd.ntmps33
    go_wp2_with (at_builtin; refine wpList_append_copy _ rfl _ _ 23 rfl 9 i0 _ 1 16 Tryd.underlying23 hi hz0 hz1 hz2 rfl (by decide) _ rfl _ rfl l.length (strs l) (HR.out.below (alloc_below w _) (Nat.le_refl _)) (by unfold maxLen; omega) (by omega) ?_)
    intro ad cap w2 ho hb
    have HO := Lib.hid (ho.lower (show w.heap.size ≤ _ by simp))
    have HB := Lib.hid ((alloc_below w (.cells #[] 9)).trans (hb.mono (by simp)))
    clear ho hb
    go_wp2_with fail
    go_ret
    exact ⟨_, rfl, HO.out, HB.out⟩

end Go.Proofs.YtcckpkcjekcajaaDoor
