/- The bit mask of a list: the program's BitsOf and the model's. -/
import Derived.Test.YtmhmjofmafeidaaAMask
namespace Go.Proofs.Ytmhmjofmafeidaa
open Go.RowKit

def BoRel (l : List Int) (n i : Value) : Prop := ∃ k : Nat, k ≤ l.length ∧ n = .int .i64 ((maskT l k : Nat) : Int) ∧ i = .int .i64 k
set_option maxRecDepth 100000 in
set_option maxHeartbeats 1000000 in
theorem implBitsOf (v : Value) (l : List Int) (w : World) (h : Rd w v l.length 1 (ints l)) (hn : l.length ≤ 1048576) :
    Calls Try.prog 24 #[v] w fun e w' => e = .returned (.int .i64 (maskL l)) ∧ w' = w := by
  have HR := Lib.hid h
  obtain ⟨_, a, c, rfl, hc⟩ := h
  have HC := Lib.hid hc
  clear hc
  cases hok : okL l with
  | false =>
    have HM : maskL l = -1 := by unfold maskL; rw [hok]; rfl
    rw [HM]
    go_enter Try.func24, Try.ntmps24
    go_wp2_with fail
    refine (implRightL _ l w HR.out hn).mono ?_
    rintro e w1 ⟨rfl, rfl⟩
    rw [hok]
    go_wp2_with fail
    go_ret
    exact ⟨rfl, rfl⟩
  | true =>
    have HM : maskL l = ((maskT l l.length : Nat) : Int) := by unfold maskL; rw [hok]; rfl
    rw [HM]
    clear HM
    have HO := Lib.hid hok
    go_enter Try.func24, Try.ntmps24
    go_wp2_with fail
    refine (implRightL _ l w HR.out hn).mono ?_
    rintro e w1 ⟨rfl, rfl⟩
    rw [hok]
    clear hok
    go_wp2_with fail
    go_loopw [3, 11] (fun n i wr => BoRel l n i ∧ wr = w1) (fun _ i _ => l.length - (intOf i).toNat)
    case atStart => exact ⟨⟨0, by omega, rfl, rfl⟩, rfl⟩
    case round =>
      obtain ⟨⟨k, hk, rfl, rfl⟩, rfl⟩ := hrel
      by_cases hlt : k < l.length
      · obtain ⟨b, off, rfl, hbl, hcell⟩ := HC.out (by omega)
        have hc1 : wr.cell? ⟨b, off + k, none⟩ = some (.int .i64 l[k]) := by rw [hcell k (by omega), ints_at l k hlt]
        clear hcell
        have HS := Lib.hid (or_step l HO.out k hlt)
        have hx := okL_at l HO.out k hlt
        go_wp2_with fail
        go_roundw
        case rel => exact ⟨⟨k + 1, by omega, by rw [HS.out], by go_num⟩, trivial⟩
        case measure => simp [intOf]; omega
      · obtain rfl : k = l.length := by omega
        have d1 : decide ((l.length : Int) < (l.length : Int)) = false := decide_eq_false (by omega)
        go_wp2_with fail
        go_ret
        exact ⟨rfl, rfl⟩
set_option maxRecDepth 100000 in
set_option maxHeartbeats 1000000 in
theorem specBitsOf (v : Value) (l : List Int) (w : World) (h : Rd w v l.length 1 (ints l)) (hn : l.length ≤ 1048576) :
    Calls Try.prog 25 #[v] w fun e w' => e = .returned (.int .i64 (maskL l)) ∧ Still w w' := by
  have HR := Lib.hid h
  obtain ⟨_, a, c, rfl, hc⟩ := h
  have HC := Lib.hid hc
  clear hc
  cases hok : okL l with
  | false =>
    have HM : maskL l = -1 := by unfold maskL; rw [hok]; rfl
    rw [HM]
    go_enter Try.func25, Try.ntmps25
    go_wp2_with fail
    refine (specRightL _ l w HR.out hn).mono ?_
    rintro e w1 ⟨rfl, hst⟩
    rw [hok]
    go_wp2_with fail
    go_ret
    exact ⟨rfl, hst⟩
  | true =>
    have HM : maskL l = ((maskT l l.length : Nat) : Int) := by unfold maskL; rw [hok]; rfl
    rw [HM]
    clear HM
    have HO := Lib.hid hok
    go_enter Try.func25, Try.ntmps25
    go_wp2_with fail
    refine (specRightL _ l w HR.out hn).mono ?_
    rintro e w1 ⟨rfl, hst⟩
    rw [hok]
    clear hok
    have HST := Lib.hid hst
    clear hst
    go_wp2_with fail
    go_loopw [3, 4] (fun n i wr => BoRel l n i ∧ wr = w1) (fun _ i _ => l.length - (intOf i).toNat)
    case atStart => exact ⟨⟨0, by omega, rfl, rfl⟩, rfl⟩
    case round =>
      obtain ⟨⟨k, hk, rfl, rfl⟩, rfl⟩ := hrel
      by_cases hlt : k < l.length
      · obtain ⟨b, off, rfl, hbl, hcell⟩ := HC.out (by omega)
        have hc1 : wr.cell? ⟨b, off + k, none⟩ = some (.int .i64 l[k]) := by rw [(HST.out.below w.heap.size).cell (p := ⟨b, off + k, none⟩) hbl, hcell k (by omega), ints_at l k hlt]
        clear hcell
        have HS := Lib.hid (maskT_succ l k hlt)
        have hx := okL_at l HO.out k hlt
        have hp := wrap_pow _ hx.1 hx.2
        have hp1 := pow_small _ hx.1 hx.2
        have hp2 := maskT_top l HO.out k (by omega)
        generalize 2 ^ l[k].toNat = P at *
        go_wp2_with fail
        go_roundw
        case rel => exact ⟨⟨k + 1, by omega, by rw [HS.out, Int.natCast_add], by go_num⟩, trivial⟩
        case measure => simp [intOf]; omega
      · obtain rfl : k = l.length := by omega
        have d1 : decide ((l.length : Int) < (l.length : Int)) = false := decide_eq_false (by omega)
        go_wp2_with fail
        go_ret
        exact ⟨rfl, HST.out⟩
end Go.Proofs.Ytmhmjofmafeidaa
