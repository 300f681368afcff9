/- impl.MetaBytes, and the law of MetaBytes. -/
import Derived.Test.YthkbllkhomjmbaaDoorSMeta
import Derived.Test.YthkbllkhomjmbaaDoorJoin
namespace Go.Proofs.YthkbllkhomjmbaaDoor
open Go.RowKit

set_option maxHeartbeats 1000000 in
set_option maxRecDepth 100000 in
theorem implMetaB (g : Int) (t : ByteArray) (w : World) (ht : t.size ≤ maxLen) :
    Calls Tryd.prog 113 #[.int .i64 g, .string t] w fun e w' => e = .returned (.string (metaB g t)) ∧ Below w.heap.size w w' := by
  unfold maxLen at ht
  obtain ⟨T, hT⟩ : ∃ T, T = metaB g t := ⟨_, rfl⟩
  rw [← hT]
  unfold metaB at hT
  have HT := Lib.hid hT
  clear hT
  by_cases hg : 1 ≤ g ∧ g ≤ 1000000
  · by_cases h80 : t.size ≤ 80
    · have e : T = sealS (metaRaw g t) := by rw [HT.out, if_pos ⟨hg, h80⟩]
      clear HT
      rw [e]
      clear e
      obtain ⟨g0, g1⟩ := hg
      have d0 : decide ((80 : Int) < (t.size : Int)) = false := decide_eq_false (by omega)
      have d1 : decide (g < 1) = false := decide_eq_false (by omega)
      have d2 : decide ((1000000 : Int) < g) = false := decide_eq_false (by omega)
      have hz := metaRaw_size g0 g1 h80
      have s0 := putS_size g (by omega) (by omega)
      have s1 := putS_size t.size (by omega) (by omega)
      go_enter Tryd.func113, Tryd.ntmps113
      go_wp2_with fail
      refine (implPut g _ (by omega) (by omega)).mono ?_
      rintro e w2 ⟨rfl, hb2⟩
      go_wp2_with fail
      refine (implText_any t _ (by omega)).mono ?_
      rintro e w3 ⟨rfl, hb3⟩
      have hb := hb2.trans (hb3.mono hb2.size)
      clear hb2 hb3
      go_wp2_with fail
      refine (joined_two (putS g) (putS t.size ++ t) _ (by unfold metaRaw at hz; rw [ByteArray.size_append] at hz; omega)).mono ?_
      rintro e w5 ⟨rfl, hb5⟩
      have hb6 := hb.trans (hb5.mono hb.size)
      clear hb hb5
      go_wp2_with fail
      refine (implSeal_any (metaRaw g t) _ (by omega)).mono ?_
      rintro e w4 ⟨rfl, hb4⟩
      have hbb := hb6.trans (hb4.mono hb6.size)
      clear hb6 hb4
      go_wp2_with fail
      go_ret
      exact ⟨rfl, hbb⟩
    · have e : T = ByteArray.empty := by rw [HT.out, if_neg (fun r => h80 r.2)]
      clear HT
      rw [e]
      clear e
      obtain ⟨g0, g1⟩ := hg
      have d0 : decide ((80 : Int) < (t.size : Int)) = true := decide_eq_true (by omega)
      have d1 : decide (g < 1) = false := decide_eq_false (by omega)
      have d2 : decide ((1000000 : Int) < g) = false := decide_eq_false (by omega)
      go_enter Tryd.func113, Tryd.ntmps113
      go_wp2_with fail
      go_ret
      exact ⟨rfl, Below.refl _ _⟩
  · have e : T = ByteArray.empty := by rw [HT.out, if_neg (fun r => hg r.1)]
    clear HT
    rw [e]
    clear e
    by_cases h1 : g < 1
    · have d1 : decide (g < 1) = true := decide_eq_true h1
      go_enter Tryd.func113, Tryd.ntmps113
      go_wp2_with fail
      go_ret
      exact ⟨rfl, Below.refl _ _⟩
    · have d1 : decide (g < 1) = false := decide_eq_false h1
      have d2 : decide ((1000000 : Int) < g) = true := decide_eq_true (by omega)
      go_enter Tryd.func113, Tryd.ntmps113
      go_wp2_with fail
      go_ret
      exact ⟨rfl, Below.refl _ _⟩

end Go.Proofs.YthkbllkhomjmbaaDoor
