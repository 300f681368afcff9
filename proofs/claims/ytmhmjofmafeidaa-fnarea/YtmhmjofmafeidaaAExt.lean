/- impl.ExtentsOf, spec.ExtentsOf. -/
import Derived.Test.YtmhmjofmafeidaaAColl
import Derived.Test.YtmhmjofmafeidaaAFree
namespace Go.Proofs.Ytmhmjofmafeidaa
open Go.RowKit Go.Shelf

def extO (l : List Int) : List extT := if okL l then runsL l else []
theorem extO_yes (l : List Int) (h : okL l = true) : extO l = runsL l := by unfold extO; rw [if_pos h]
theorem extO_no (l : List Int) (h : okL l = false) : extO l = [] := by unfold extO; rw [h]; rfl
theorem extO_len (l : List Int) : (extO l).length ≤ 24 := by
  unfold extO
  split
  · rename_i h
    have := runsL_len l
    have := okL_len l h
    omega
  · simp
set_option maxRecDepth 100000 in
set_option maxHeartbeats 1000000 in
theorem collect_any (Bs : Nat) (sv : Value) (l : List Int) (ho : okL l = true) (w : World) (hBs : Bs < w.heap.size) (hc : w.cell? ⟨Bs, 0, none⟩ = some sv) (hL : LowL w.heap.size w sv l) :
    Calls Try.prog 46 #[.func (.func 64) #[] #[.pointer (some ⟨Bs, 0, none⟩)]] w (MadeRow w (runsL l).length 2 (extCs (runsL l))) := by
  have H := Lib.hid ((callsIn_wide (n := 3)).1 (appendSeq_in Fence.wide 3 trivial trivial rfl (by omega) Bs sv l ho w hBs hc hL))
  clear hc hL
  go_enter Try.func46, Try.ntmps46
  go_wp2_with fail
  refine H.out.mono ?_
  rintro e w1 ⟨v, rfl, hr, hb⟩
  have HR := Lib.hid (own_of_row hr)
  have HB := Lib.hid hb
  obtain ⟨a, c, rfl, -⟩ := id HR.out.2
  clear hr hb
  go_wp2_with fail
  go_ret
  exact ⟨_, rfl, HR.out, HB.out⟩
set_option maxRecDepth 100000 in
set_option maxHeartbeats 1000000 in
theorem implExt (v : Value) (l : List Int) (w : World) (h : Rd w v l.length 1 (ints l)) (hn : l.length ≤ 1048576) :
    Calls Try.prog 13 #[v] w (MadeRow w (extO l).length 2 (extCs (extO l))) := by
  obtain ⟨a, c, rfl, -⟩ := id h.2
  have HV := Lib.hid h
  clear h
  cases ho : okL l with
  | false =>
    rw [extO_no l ho]
    go_enter Try.func13, Try.ntmps13
    go_wp2_with fail
    refine (implRightL _ l w HV.out hn).mono ?_
    rintro e w ⟨rfl, rfl⟩
    rw [ho]
    go_wp2_with fail
    go_ret
    exact ⟨_, rfl, own_nil _ _ _ _ _, Below.refl _ _⟩
  | true =>
    rw [extO_yes l ho]
    go_enter Try.func13, Try.ntmps13
    go_wp2_with fail
    refine (implRightL _ l w HV.out hn).mono ?_
    rintro e w ⟨rfl, rfl⟩
    rw [ho]
    go_wp2_with fail
    refine ((callsIn_wide (n := 3)).1 (runs_in Fence.wide 3 trivial rfl a l.length c w)).mono ?_
    rintro e w1 ⟨rfl, rfl⟩
    have bx := bx_new w 23 #[.slice a l.length c]
    have hb := below_alloc1 w (.cells #[.slice a l.length c] 23)
    go_wp2_with fail
    refine (collect_any w.heap.size _ l ho _ (by simp) (bx.cell 0) (lowL_of_rd (HV.out.below hb (Nat.le_refl _)))).mono ?_
    rintro e w2 ⟨v2, rfl, ho2, hb2⟩
    obtain ⟨a2, c2, rfl, -⟩ := id ho2.2
    have HO := Lib.hid (ho2.lower (lo' := w.heap.size) (by simp))
    have HB := Lib.hid (hb.trans (hb2.mono (by simp)))
    clear ho2 hb2 hb bx
    go_wp2_with fail
    go_ret
    exact ⟨_, rfl, HO.out, HB.out⟩
end Go.Proofs.Ytmhmjofmafeidaa
