/- The program's Torn, and its exact law. -/
import Derived.Test.YtkeimgglikdbfaaM1
namespace Go.Proofs.Ytkeimgglikdbfaa
open Go.RowKit

set_option maxHeartbeats 1000000 in
set_option maxRecDepth 100000 in
theorem implTorn (old fresh : ByteArray) (fate : Int) (w : World) (h0 : old.size ≤ maxLen) (h1 : fresh.size ≤ maxLen) (hl : -9223372036854775808 ≤ fate) (hh : fate ≤ 9223372036854775807) :
    Calls Try.prog 21 #[.string old, .string fresh, .int .i64 fate] w fun e w' => e = .returned (.string (torn old fresh fate)) ∧ w' = w := by
  unfold maxLen at h0 h1
  obtain ⟨T, hT⟩ : ∃ T, T = torn old fresh fate := ⟨_, rfl⟩
  rw [← hT]
  unfold torn at hT
  have HT := Lib.hid hT
  clear hT
  by_cases ho : 8000 < old.size
  · have e : T = ByteArray.empty := by rw [HT.out, if_pos (.inl ho)]
    clear HT
    rw [e]
    clear e
    have d0 : decide ((8000 : Int) < (old.size : Int)) = true := decide_eq_true (by omega)
    go_enter Try.func21, Try.ntmps21
    go_wp2
    go_ret
    exact ⟨rfl, rfl⟩
  have d0 : decide ((8000 : Int) < (old.size : Int)) = false := decide_eq_false (by omega)
  by_cases hf : 8000 < fresh.size
  · have e : T = ByteArray.empty := by rw [HT.out, if_pos (.inr hf)]
    clear HT
    rw [e]
    clear e
    have d1 : decide ((8000 : Int) < (fresh.size : Int)) = true := decide_eq_true (by omega)
    go_enter Try.func21, Try.ntmps21
    go_wp2
    go_ret
    exact ⟨rfl, rfl⟩
  have d1 : decide ((8000 : Int) < (fresh.size : Int)) = false := decide_eq_false (by omega)
  have HT2 := Lib.hid (HT.out.trans (if_neg (by omega)))
  clear HT
  by_cases h2 : fate < 1
  · have e : T = old := by rw [HT2.out, if_pos h2]
    clear HT2
    rw [e]
    clear e
    go_enter Try.func21, Try.ntmps21
    go_wp2
    go_ret
    exact ⟨rfl, rfl⟩
  have d2 : decide (fate < 1) = false := decide_eq_false h2
  have HT3 := Lib.hid (HT2.out.trans (if_neg h2))
  clear HT2
  by_cases h3 : fate = 1
  · have e : T = fresh := by rw [HT3.out, if_pos h3]
    clear HT3
    rw [e]
    clear e
    subst h3
    go_enter Try.func21, Try.ntmps21
    go_wp2
    go_ret
    exact ⟨rfl, rfl⟩
  have d3 : decide (fate < 2) = false := decide_eq_false (by omega)
  have HT4 := Lib.hid (HT3.out.trans (if_neg h3))
  clear HT3
  have m0 : IntKind.i64.wrap (fate - 2) = fate - 2 := IntWalk.i64_in _ (by omega)
  have g0 : 0 ≤ fate - 2 := by omega
  by_cases h4 : (fresh.size : Int) < fate - 2
  · have e : T = fresh := by rw [HT4.out, if_pos h4]
    clear HT4
    rw [e]
    clear e
    have d4 : min (fate - 2) (fresh.size : Int) = (fresh.size : Int) := by omega
    go_enter Try.func21, Try.ntmps21
    go_wp2
    go_ret
    exact ⟨by simp, rfl⟩
  have d4 : min (fate - 2) (fresh.size : Int) = fate - 2 := by omega
  have e : T = fresh.extract 0 (fate - 2).toNat := by rw [HT4.out, if_neg h4]
  clear HT4
  rw [e]
  clear e
  have g1 : fate - 2 ≤ (fresh.size : Int) := by omega
  clear hl hh h0 h1
  go_enter Try.func21, Try.ntmps21
  go_wp2
  go_ret
  exact ⟨by simp, rfl⟩

end Go.Proofs.Ytkeimgglikdbfaa
