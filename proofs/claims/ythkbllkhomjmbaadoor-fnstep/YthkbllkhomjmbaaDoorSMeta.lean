/- The model's MetaBytes. -/
import Derived.Test.YthkbllkhomjmbaaDoorText
import Derived.Test.YthkbllkhomjmbaaDoorSeal
import Derived.Test.YthkbllkhomjmbaaDoorSRight
namespace Go.Proofs.YthkbllkhomjmbaaDoor
open Go.RowKit

def sealS (t : ByteArray) : ByteArray := t ++ fourS (crcF 0 t)
def metaRaw (g : Int) (t : ByteArray) : ByteArray := putS g ++ (putS t.size ++ t)
def metaB (g : Int) (t : ByteArray) : ByteArray := if (1 ≤ g ∧ g ≤ 1000000) ∧ t.size ≤ 80 then sealS (metaRaw g t) else ByteArray.empty
theorem metaRaw_size {g : Int} {t : ByteArray} (h0 : 1 ≤ g) (h1 : g ≤ 1000000) (ht : t.size ≤ 80) : (metaRaw g t).size ≤ 100 := by
  unfold metaRaw
  have := putS_size g (by omega) (by omega)
  have := putS_size t.size (by omega) (by omega)
  rw [ByteArray.size_append, ByteArray.size_append]; omega
theorem metaB_size (g : Int) (t : ByteArray) : (metaB g t).size ≤ 104 := by
  unfold metaB
  split
  · rename_i h
    unfold sealS
    rw [ByteArray.size_append, fourS_size]
    have := metaRaw_size h.1.1 h.1.2 h.2
    omega
  · simp
set_option maxHeartbeats 1000000 in
set_option maxRecDepth 100000 in
theorem specMetaB (g : Int) (t : ByteArray) (w : World) (ht : t.size ≤ maxLen) :
    Calls Tryd.prog 89 #[.int .i64 g, .string t] w fun e w' => e = .returned (.string (metaB g t)) ∧ Below w.heap.size w w' := by
  unfold maxLen at ht
  obtain ⟨T, hT⟩ : ∃ T, T = metaB g t := ⟨_, rfl⟩
  rw [← hT]
  unfold metaB at hT
  have HT := Lib.hid hT
  clear hT
  by_cases hg : 1 ≤ g ∧ g ≤ 1000000
  · by_cases h80 : t.size ≤ 80
    · have e : T = sealS (metaRaw g t) := by rw [HT.out, if_pos ⟨hg, h80⟩]
      clear HT
      rw [e]
      clear e
      obtain ⟨g0, g1⟩ := hg
      have d0 : decide ((80 : Int) < (t.size : Int)) = false := decide_eq_false (by omega)
      have hz := metaRaw_size g0 g1 h80
      have s0 := putS_size g (by omega) (by omega)
      have s1 := putS_size t.size (by omega) (by omega)
      go_enter Tryd.func89, Tryd.ntmps89
      go_wp2_with fail
      refine (is_yes g 1 1000000 w g0 g1).mono ?_
      rintro e w1 ⟨rfl, rfl⟩
      go_wp2_with fail
      refine (specPut g _ (by omega) (by omega)).mono ?_
      rintro e w2 ⟨rfl, hb2⟩
      go_wp2_with fail
      refine (specText_any t _ (by omega)).mono ?_
      rintro e w3 ⟨rfl, hb3⟩
      have hb := hb2.trans (hb3.mono hb2.size)
      clear hb2 hb3
      go_wp2_with fail
      refine (specSeal_any (metaRaw g t) _ (by omega)).mono ?_
      rintro e w4 ⟨rfl, hb4⟩
      have hbb := hb.trans (hb4.mono hb.size)
      clear hb hb4
      go_wp2_with fail
      go_ret
      exact ⟨rfl, hbb⟩
    · have e : T = ByteArray.empty := by rw [HT.out, if_neg (fun r => h80 r.2)]
      clear HT
      rw [e]
      clear e
      obtain ⟨g0, g1⟩ := hg
      have d0 : decide ((80 : Int) < (t.size : Int)) = true := decide_eq_true (by omega)
      go_enter Tryd.func89, Tryd.ntmps89
      go_wp2_with fail
      refine (is_yes g 1 1000000 w g0 g1).mono ?_
      rintro e w1 ⟨rfl, rfl⟩
      go_wp2_with fail
      go_ret
      exact ⟨rfl, Below.refl _ _⟩
  · have e : T = ByteArray.empty := by rw [HT.out, if_neg (fun r => hg r.1)]
    clear HT
    rw [e]
    clear e
    have hout : g < 1 ∨ 1 ≤ g ∧ 1000000 < g := by omega
    have HO := Lib.hid hout
    clear hg hout
    go_enter Tryd.func89, Tryd.ntmps89
    go_wp2_with fail
    refine (is_no g 1 1000000 w HO.out).mono ?_
    rintro e w1 ⟨rfl, rfl⟩
    go_wp2_with fail
    go_ret
    exact ⟨rfl, Below.refl _ _⟩
end Go.Proofs.YthkbllkhomjmbaaDoor
