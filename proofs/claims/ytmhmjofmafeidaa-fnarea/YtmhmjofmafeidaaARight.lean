/- Whether a list of the area is valid: the program's ListRight and the model's. -/
import Derived.Test.YtmhmjofmafeidaaAInts
import Derived.Test.YtmhmjofmafeidaaAMath
import Derived.Test.YtmhmjofmafeidaaSRight
namespace Go.Proofs.Ytmhmjofmafeidaa
open Go.RowKit

def LrRel (l : List Int) (p i : Value) : Prop := ∃ k : Nat, k ≤ l.length ∧ p = .int .i64 (prev l k) ∧ i = .int .i64 k ∧ okL l = okF (prev l k) (l.drop k)
set_option maxRecDepth 100000 in
set_option maxHeartbeats 1000000 in
theorem implRightL (v : Value) (l : List Int) (w : World) (h : Rd w v l.length 1 (ints l)) (hn : l.length ≤ 1048576) :
    Calls Try.prog 27 #[v] w fun e w' => e = .returned (.bool (okL l)) ∧ w' = w := by
  obtain ⟨_, a, c, rfl, hc⟩ := h
  have HC := Lib.hid hc
  clear hc
  obtain ⟨ok, hok⟩ : ∃ ok, ok = okL l := ⟨_, rfl⟩
  rw [← hok]
  have HO := Lib.hid hok
  clear hok
  go_enter Try.func27, Try.ntmps27
  go_wp2_with fail
  go_loopw [3, 8] (fun p i wr => LrRel l p i ∧ wr = w) (fun _ i _ => l.length - (intOf i).toNat)
  case atStart => exact ⟨⟨0, by omega, rfl, rfl, rfl⟩, rfl⟩
  case round =>
    obtain ⟨⟨k, hk, rfl, rfl, hok⟩, rfl⟩ := hrel
    have HK := Lib.hid hok
    clear hok
    by_cases hlt : k < l.length
    · obtain ⟨b, off, rfl, hbl, hcell⟩ := HC.out (by omega)
      have hc1 : wr.cell? ⟨b, off + k, none⟩ = some (.int .i64 l[k]) := by rw [hcell k (by omega), ints_at l k hlt]
      clear hcell
      have HS := Lib.hid (okF_step l k hlt)
      have HP := Lib.hid (prev_succ l k hlt)
      generalize hp : prev l k = p at *
      generalize hx : l[k] = x at *
      have e0 : (k : Int) < (l.length : Int) := by omega
      have e1 : (0 : Int) ≤ (k : Int) := by omega
      by_cases h1 : p < x
      · by_cases h2 : x < 24
        · have d1 : decide (x ≤ p) = false := decide_eq_false (by omega)
          have d2 : decide (24 ≤ x) = false := decide_eq_false (by omega)
          go_wp2_with fail
          go_roundw
          case rel => exact ⟨⟨k + 1, by omega, by rw [HP.out], by go_num, by rw [HK.out, HS.out]; simp [h1, h2]⟩, trivial⟩
          case measure => simp [intOf]; omega
        · have d1 : decide (x ≤ p) = false := decide_eq_false (by omega)
          have d2 : (24 : Int) ≤ x := by omega
          have HF : ok = false := by rw [HO.out, HK.out, HS.out]; simp [h2]
          clear h2
          go_wp2_with fail
          go_ret
          exact ⟨by rw [HF]; rfl, rfl⟩
      · have d1 : x ≤ p := by omega
        have HF : ok = false := by rw [HO.out, HK.out, HS.out]; simp [h1]
        clear h1
        go_wp2_with fail
        go_ret
        exact ⟨by rw [HF]; rfl, rfl⟩
    · obtain rfl : k = l.length := by omega
      have HF : ok = true := by rw [HO.out, HK.out, okF_end]
      have d1 : decide ((l.length : Int) < (l.length : Int)) = false := decide_eq_false (by omega)
      go_wp2_with fail
      go_ret
      exact ⟨by rw [HF]; rfl, rfl⟩

def LsRel (l : List Int) (w : World) (i : Value) (wr : World) : Prop := ∃ k : Nat, k ≤ l.length ∧ i = .int .i64 k ∧ okL l = okF (prev l k) (l.drop k) ∧ -1 ≤ prev l k ∧ Still w wr
set_option maxRecDepth 100000 in
set_option maxHeartbeats 1000000 in
theorem specRightL (v : Value) (l : List Int) (w : World) (h : Rd w v l.length 1 (ints l)) (hn : l.length ≤ 1048576) :
    Calls Try.prog 28 #[v] w fun e w' => e = .returned (.bool (okL l)) ∧ Still w w' := by
  obtain ⟨_, a, c, rfl, hc⟩ := h
  have HC := Lib.hid hc
  clear hc
  obtain ⟨ok, hok⟩ : ∃ ok, ok = okL l := ⟨_, rfl⟩
  rw [← hok]
  have HO := Lib.hid hok
  clear hok
  by_cases hbig : 24 < l.length
  · have HF : ok = false := by
      rw [HO.out]
      cases he : okL l with
      | false => rfl
      | true => have := okL_len l he; omega
    have d0 : (24 : Int) < (l.length : Int) := by omega
    go_enter Try.func28, Try.ntmps28
    go_wp2_with fail
    go_ret
    exact ⟨by rw [HF]; rfl, Still.refl _⟩
  have d0 : decide ((24 : Int) < (l.length : Int)) = false := decide_eq_false (by omega)
  go_enter Try.func28, Try.ntmps28
  go_wp2_with fail
  go_loopw [3] (fun i wr => LsRel l w i wr) (fun i _ => l.length - (intOf i).toNat)
  case atStart => exact ⟨0, by omega, rfl, rfl, by simp [prev], Still.refl _⟩
  case round =>
    obtain ⟨k, hk, rfl, hok, hp0, hst⟩ := hrel
    have HK := Lib.hid hok
    clear hok
    by_cases hlt : k < l.length
    · obtain ⟨b, off, rfl, hbl, hcell⟩ := HC.out (by omega)
      have hc1 : wr.cell? ⟨b, off + k, none⟩ = some (.int .i64 l[k]) := by
        rw [(hst.below w.heap.size).cell (p := ⟨b, off + k, none⟩) hbl, hcell k (by omega), ints_at l k hlt]
      have hc2 : 0 < k → wr.cell? ⟨b, off + (k - 1), none⟩ = some (.int .i64 (prev l k)) := by
        intro h0
        obtain ⟨j, rfl⟩ : ∃ j, k = j + 1 := ⟨k - 1, by omega⟩
        rw [(hst.below w.heap.size).cell (p := ⟨b, off + (j + 1 - 1), none⟩) hbl, hcell (j + 1 - 1) (by omega), Nat.add_sub_cancel, ints_at l j (by omega), prev_succ l j (by omega)]
      clear hcell
      have HS := Lib.hid (okF_step l k hlt)
      have HP := Lib.hid (prev_succ l k hlt)
      have HST := Lib.hid hst
      have hz : k = 0 → prev l k = -1 := fun h => by subst h; rfl
      clear hst
      generalize hp : prev l k = p at *
      generalize hx : l[k] = x at *
      have e0 : (k : Int) < (l.length : Int) := by omega
      have e1 : (0 : Int) ≤ (k : Int) := by omega
      by_cases h1 : 0 ≤ x ∧ x < 24
      · by_cases h2 : p < x
        · have HG : okL l = okF (prev l (k + 1)) (l.drop (k + 1)) := by rw [HK.out, HS.out]; simp [h2, h1.2]
          have HQ : -1 ≤ prev l (k + 1) := by rw [HP.out]; omega
          have hg := Lib.hid (And.intro HG HQ)
          clear HG HQ
          by_cases h0 : 0 < k
          · have c2 := hc2 h0
            have d1 : decide (x ≤ p) = false := decide_eq_false (by omega)
            have d2 : (0 : Int) < (k : Int) := by omega
            have e3 : (k : Int) - 1 < (l.length : Int) := by omega
            have e4 : (1 : Int) ≤ (k : Int) := by omega
            have e5 : ((k : Int) - 1).toNat = k - 1 := by omega
            have e6 : IntKind.i64.wrap ((k : Int) - 1) = (k : Int) - 1 := IntWalk.i64_in _ (by omega)
            clear hc2 hz
            go_wp2_with fail
            go_quiet ((go_at_call 56; exact Calls.quiet_of_same (is_yes x 0 23 _ (by omega) (by omega))))
            go_wp2_with fail
            go_roundw
            case rel => exact ⟨k + 1, by omega, by go_num, hg.out.1, hg.out.2, HST.out.trans ⟨_, rfl⟩⟩
            case measure => simp [intOf]; omega
          · have d2 : decide (0 < k) = false := decide_eq_false (by omega)
            clear hc2 hz h0
            go_wp2_with fail
            go_quiet ((go_at_call 56; exact Calls.quiet_of_same (is_yes x 0 23 _ (by omega) (by omega))))
            go_wp2_with fail
            go_roundw
            case rel => exact ⟨k + 1, by omega, by go_num, hg.out.1, hg.out.2, HST.out.trans ⟨_, rfl⟩⟩
            case measure => simp [intOf]; omega
        · have HF : ok = false := by rw [HO.out, HK.out, HS.out]; simp [h2]
          have h0 : 0 < k := by
            rcases Nat.eq_zero_or_pos k with h | h
            · have := hz h; omega
            · exact h
          have c2 := hc2 h0
          have d1 : x ≤ p := by omega
          have d2 : (0 : Int) < (k : Int) := by omega
          have e3 : (k : Int) - 1 < (l.length : Int) := by omega
          have e4 : (1 : Int) ≤ (k : Int) := by omega
          have e5 : ((k : Int) - 1).toNat = k - 1 := by omega
          have e6 : IntKind.i64.wrap ((k : Int) - 1) = (k : Int) - 1 := IntWalk.i64_in _ (by omega)
          clear hc2 hz h2
          go_wp2_with fail
          go_quiet ((go_at_call 56; exact Calls.quiet_of_same (is_yes x 0 23 _ (by omega) (by omega))))
          go_wp2_with fail
          go_ret
          exact ⟨by rw [HF]; rfl, HST.out.trans ⟨_, rfl⟩⟩
      · have HF : ok = false := by
          rw [HO.out, HK.out, HS.out]
          by_cases h2 : x < 24
          · have h3 : ¬ p < x := by omega
            simp [h3]
          · simp [h2]
        clear hc2 hz
        go_wp2_with fail
        go_quiet ((go_at_call 56; exact Calls.quiet_of_same (is_no x 0 23 _ (by omega))))
        go_wp2_with fail
        go_ret
        exact ⟨by rw [HF]; rfl, HST.out.trans ⟨_, rfl⟩⟩
    · obtain rfl : k = l.length := by omega
      have HF : ok = true := by rw [HO.out, HK.out, okF_end]
      have HST := Lib.hid hst
      clear hst
      go_wp2_with fail
      go_ret
      exact ⟨by rw [HF]; rfl, HST.out⟩
end Go.Proofs.Ytmhmjofmafeidaa
