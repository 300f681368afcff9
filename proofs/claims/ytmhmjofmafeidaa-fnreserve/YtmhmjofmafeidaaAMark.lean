/- Slices of numbers in the laws: marked, and looked at. -/
import Derived.Test.YtmhmjofmafeidaaABits
import Derived.Test.YtmhmjofmafeidaaLMark
namespace Go.Proofs.Ytmhmjofmafeidaa
open Go.RowKit

def iMark (k j : Nat) : Value := .int .i64 ((k + j : Nat) : Int)
def iMarks (k n : Nat) : List Value := (List.range n).map (iMark k)
def iMarked (k i : Nat) (xs : List Value) : List Value := (List.range xs.length).map fun j => if j < i then iMark k j else xs.getD j undef
theorem iMarked_length (k i : Nat) (xs : List Value) : (iMarked k i xs).length = xs.length := by simp [iMarked]
theorem iMarked_zero (k : Nat) (xs : List Value) : iMarked k 0 xs = xs := by
  apply List.ext_getElem
  · simp [iMarked]
  · intro j h1 h2; simp [iMarked, h2]
theorem iMarked_all (k : Nat) (xs : List Value) : iMarked k xs.length xs = iMarks k xs.length := by
  apply List.ext_getElem
  · simp [iMarked, iMarks]
  · intro j h1 h2; simp [iMarked] at h1; simp [iMarked, iMarks, h1]
theorem iMarked_set (k i : Nat) (xs : List Value) : (iMarked k i xs).set i (iMark k i) = iMarked k (i + 1) xs := by
  apply List.ext_getElem
  · simp [iMarked]
  · intro j h1 h2
    rw [List.getElem_set]
    by_cases hj : i = j
    · subst hj; simp [iMarked]
    · rw [if_neg hj]; simp only [iMarked, List.getElem_map, List.getElem_range]
      by_cases hji : j < i
      · rw [if_pos hji, if_pos (by omega)]
      · rw [if_neg hji, if_neg (by omega)]
theorem iMarks_at (k n j : Nat) (h : j < n) : (iMarks k n)[j]? = some (iMark k j) := by simp [iMarks, h]
def IMarkRel (lo : Nat) (v : Value) (k n : Nat) (xs : List Value) (w : World) (q i : Value) (wr : World) : Prop :=
  ∃ j : Nat, j ≤ n ∧ q = .int .i64 ((k + j : Nat) : Int) ∧ i = .int .i64 j ∧ Own wr lo v n 1 (iMarked k j xs) ∧ w.grownBy wr (blk v n)
set_option maxRecDepth 100000 in
set_option maxHeartbeats 1000000 in
theorem markIs_any (lo : Nat) (v : Value) (n k : Nat) (xs : List Value) (w : World) (h : Own w lo v n 1 xs) (hn : n ≤ 1048576) (h0 : 1 ≤ k) (h1 : k ≤ 1000000000) :
    Calls Try.prog 35 #[v, .int .i64 k] w (Marked lo v n 1 (iMarks k n) ((k + n : Nat) : Int) w) := by
  have hlx : xs.length = n := by simpa using h.1
  obtain ⟨a, c, rfl, _⟩ := h.2
  have HO := Lib.hid h
  have HX := Lib.hid hlx
  clear h hlx
  go_enter Try.func35, Try.ntmps35
  go_wp2_with fail
  go_loopw [1, 5] (fun q i wr => IMarkRel lo (.slice a n c) k n xs w q i wr) (fun _ i _ => n - (intOf i).toNat)
  case atStart => exact ⟨0, by omega, rfl, rfl, by rw [iMarked_zero]; exact HO.out, World.grownBy.refl w _⟩
  case round =>
    clear HO
    obtain ⟨j, hj, rfl, rfl, hown, hg⟩ := hrel
    by_cases hlt : j < n
    · obtain ⟨b, off, rfl, hlo, hbl, hc, hf⟩ := hown.get (by omega)
      rw [blk_pos (by omega)] at hg
      have hc1 := hc j (by omega)
      have hf1 := hf j (by omega)
      rw [List.getElem?_eq_getElem (by rw [iMarked_length, HX.out]; omega)] at hc1
      generalize (iMarked k j xs)[j]'(by rw [iMarked_length, HX.out]; omega) = v0 at hc1
      have HO1 := Lib.hid (hown.set j (iMark k j) (by omega) ⟨v0, hc1⟩)
      have HG1 := Lib.hid (grown_set hg (b := b) (i := off + j) (x := iMark k j))
      rw [iMarked_set] at HO1
      unfold iMark at HO1 HG1
      clear hown hg hc hf
      go_wp2_with fail
      go_roundw
      case rel => exact ⟨j + 1, by omega, by go_num, by go_num, HO1.out, by rw [blk_pos (by omega)]; exact HG1.out⟩
      case measure => simp [intOf]; omega
    · obtain rfl : j = n := by omega
      have HOWN := Lib.hid hown
      have HG := Lib.hid hg
      clear hown hg
      go_wp2_with fail
      go_ret
      refine ⟨rfl, ?_, HG.out⟩
      have := HOWN.out
      rw [← HX.out, iMarked_all, HX.out] at this
      exact this
set_option maxRecDepth 100000 in
set_option maxHeartbeats 1000000 in
theorem heldIs_any (v : Value) (n k : Nat) (w : World) (h : Rd w v n 1 (iMarks k n)) (hn : n ≤ 1048576) (h0 : 1 ≤ k) (h1 : k ≤ 1000000000) :
    Calls Try.prog 43 #[v, .int .i64 k] w (Held ((k + n : Nat) : Int) w) := by
  obtain ⟨_, a, c, rfl, hc⟩ := h
  have HC := Lib.hid hc
  clear hc
  go_enter Try.func43, Try.ntmps43
  go_wp2_with fail
  go_loopw [1, 5] (fun q i wr => HeldRel k n w q i wr) (fun _ i _ => n - (intOf i).toNat)
  case atStart => exact ⟨0, by omega, rfl, rfl, Below.refl _ _⟩
  case round =>
    obtain ⟨j, hj, rfl, rfl, hbel⟩ := hrel
    by_cases hlt : j < n
    · obtain ⟨b, off, rfl, hbl, hcell⟩ := HC.out (by omega)
      have hc1 : wr.cell? ⟨b, off + j, none⟩ = some (.int .i64 ((k + j : Nat) : Int)) := by
        rw [hbel.cell (p := ⟨b, off + j, none⟩) hbl, hcell j (by omega), iMarks_at k n j hlt]; rfl
      have HBEL := Lib.hid hbel
      clear hcell hbel
      have e0 : (j : Int) < (n : Int) := by omega
      have e1 : (0 : Int) ≤ (j : Int) := by omega
      go_wp2_with fail
      go_roundw
      case rel => exact ⟨j + 1, by omega, by go_num, by go_num, HBEL.out⟩
      case measure => simp [intOf]; omega
    · obtain rfl : j = n := by omega
      have HBEL := Lib.hid hbel
      clear hbel
      go_wp2_with fail
      go_ret
      exact ⟨rfl, HBEL.out⟩
end Go.Proofs.Ytmhmjofmafeidaa
