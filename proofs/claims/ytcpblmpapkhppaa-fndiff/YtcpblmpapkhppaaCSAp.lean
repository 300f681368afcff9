/- The specification's ImageApply. -/
import Derived.Test.YtcpblmpapkhppaaCSMk
import Derived.Test.YtcpblmpapkhppaaBSCode
import Derived.Test.YtcpblmpapkhppaaSSync
namespace Go.Proofs.Ytcpblmpapkhppaa
open Go.RowKit

/-- What ImageApply answers. -/
noncomputable def applyR (image : List ByteArray) (l : List stpT) : List ByteArray × Int :=
  if 400 < image.length ∨ 400 < l.length then ([], 2) else if imgB image = false then ([], 1) else if codeS l (image.length : Int) ≠ 0 then ([], codeS l (image.length : Int)) else (applyL image l, 0)
theorem applyR_size {image : List ByteArray} {l : List stpT} (h : 400 < image.length ∨ 400 < l.length) : applyR image l = ([], 2) := by unfold applyR; rw [if_pos h]
theorem applyR_form {image : List ByteArray} {l : List stpT} (h : ¬ (400 < image.length ∨ 400 < l.length)) (h2 : imgB image = false) : applyR image l = ([], 1) := by unfold applyR; rw [if_neg h, if_pos h2]
theorem applyR_code {image : List ByteArray} {l : List stpT} (h : ¬ (400 < image.length ∨ 400 < l.length)) (h2 : imgB image = true) (h3 : codeS l (image.length : Int) ≠ 0) : applyR image l = ([], codeS l (image.length : Int)) := by unfold applyR; rw [if_neg h, if_neg (by simp [h2]), if_pos h3]
theorem applyR_ok {image : List ByteArray} {l : List stpT} (h : ¬ (400 < image.length ∨ 400 < l.length)) (h2 : imgB image = true) (h3 : codeS l (image.length : Int) = 0) : applyR image l = (applyL image l, 0) := by unfold applyR; rw [if_neg h, if_neg (by simp [h2]), if_neg (by simp [h3])]
theorem applyR_len (image : List ByteArray) (l : List stpT) : (applyR image l).1.length ≤ 8 := by
  unfold applyR
  split
  · simp
  split
  · simp
  split
  · simp
  · rename_i h2 _
    have := (imgB_iff image).1 (by simpa using h2)
    rw [show (applyL image l, (0 : Int)).1 = applyL image l from rfl, applyL_length]; exact this.1.2
theorem code_ok {l : List stpT} {n : Int} (h : codeS l n = 0) : (1 ≤ n ∧ n ≤ 8) ∧ l.length ≤ 20 ∧ ∀ s ∈ l, stepB n s.1 s.2.1 s.2.2.1 s.2.2.2 = true := by
  have hf : ¬ FormBad l n := fun hf => by rw [codeS_form hf] at h; cases h
  refine ⟨Classical.byContradiction fun h' => hf (.inl h'), Classical.byContradiction fun h' => hf (.inr (.inl (by omega))), fun s hs => ?_⟩
  cases hb : stepB n s.1 s.2.1 s.2.2.1 s.2.2.2 with
  | true => rfl
  | false => exact absurd (.inr (.inr ⟨s, hs, by unfold wrongS; rw [hb]; rfl⟩)) hf
theorem applyT_no {image : List ByteArray} {l : List stpT} {k : Nat} (h : k < l.length) (h5 : l[k].1 = 5) : applyL image (l.take (k + 1)) = applyL image (l.take k) := by
  rw [List.take_succ_eq_append_getElem h, applyL_snoc]
  unfold put1; rw [if_pos h5]
theorem applyT_yes {image : List ByteArray} {l : List stpT} {k : Nat} (h : k < l.length) (h5 : l[k].1 ≠ 5) : applyL image (l.take (k + 1)) = (applyL image (l.take k)).set l[k].2.1.toNat (makeS l[k] (image.getD l[k].2.2.1.toNat ⟨#[]⟩)) := by
  rw [List.take_succ_eq_append_getElem h, applyL_snoc]
  unfold put1; rw [if_neg h5]
/-- An answer with a slice of strings that is the call's own. -/
def OwnZ (w : World) (o : List ByteArray × Int) (e : Ending) (w' : World) : Prop := ∃ v, e = .returned (.agg #[v, .int .i64 o.2]) ∧ Own w' w.heap.size v o.1.length 1 (strs o.1) ∧ Below w.heap.size w w'
def ApRel (image : List ByteArray) (l : List stpT) (w : World) (ov : Value) (i : Value) (wr : World) : Prop :=
  ∃ k : Nat, k ≤ l.length ∧ i = .int .i64 k ∧ Own wr w.heap.size ov image.length 1 (strs (applyL image (l.take k))) ∧ Below w.heap.size w wr

end Go.Proofs.Ytcpblmpapkhppaa
