/- The program's FlashRead. -/
import Derived.Test.YtocjjkjjojdpdaaIClosed
import Derived.Test.YtocjjkjjojdpdaaIRight
namespace Go.Proofs.Ytocjjkjjojdpdaa
open Go.RowKit

theorem listOf_self (l : List D) (h : ∀ i j (hj : j < l.length) (hi : i < j), l[i].1 ≠ l[j].1) : listOf (mapOf l) (l.map (·.1)) = l := by
  unfold listOf
  rw [List.map_map]
  apply List.ext_getElem
  · simp
  · intro k h1 h2
    have := mapOf_hit l h k h2
    simp [this]
theorem mem_keys {F : FM} (hr : Right F) : ∀ x ∈ F.dir.map (·.1), (mapOf F.dir x).isSome = true ∧ 0 ≤ x ∧ x ≤ 1048576 := by
  intro x hx
  obtain ⟨d, hd, rfl⟩ := List.mem_map.1 hx
  obtain ⟨k, hk, rfl⟩ := List.mem_iff_getElem.1 hd
  have := hr.at0 k hk
  have := hr.at1 k hk
  have := hr.most
  exact ⟨by rw [mapOf_hit F.dir hr.once k hk]; rfl, by omega, by omega⟩
theorem get_map_hit {F : FM} (hr : Right F) {x : Int} {s : ByteArray} (h : mapOf F.dir x = some s) : getOf F x = s := by
  by_cases he : ∃ k, ∃ (hk : k < F.dir.length), F.dir[k].1 = x
  · obtain ⟨k, hk, rfl⟩ := he
    rw [get_hit hk (fun j _ hjk => hr.once j k hk hjk) rfl]
    rw [mapOf_hit F.dir hr.once k hk] at h
    exact Option.some.inj h
  · rw [mapOf_miss F.dir x (fun d hd e => by obtain ⟨k, hk, rfl⟩ := List.mem_iff_getElem.1 hd; exact he ⟨k, hk, e⟩)] at h
    cases h
theorem get_map_miss {F : FM} (hr : Right F) {x : Int} (h : mapOf F.dir x = none) (h0 : x.toNat < F.sec.length) : getOf F x = F.sec[x.toNat] := by
  refine get_miss (fun j hj e => ?_) h0
  have := mapOf_hit F.dir hr.once j hj
  rw [e, h] at this; cases this

theorem BoxOut.below {n B : Nat} {sv dv : Value} {w1 w2 : World} (h : BoxOut n sv dv w1) (hb : Below B w1 w2) (hB : n + 2 ≤ B) : BoxOut n sv dv w2 := by
  obtain ⟨h0, h1, h2, h3, h4, h5, h6, h7, h8, h9⟩ := h
  have c : ∀ k j, k < n + 2 → w2.cell? ⟨k, j, none⟩ = w1.cell? ⟨k, j, none⟩ := fun k j hk => hb.cell (p := ⟨k, j, none⟩) (by simp; omega)
  have f : ∀ k j, k < n + 2 → w2.frozen? ⟨k, j, none⟩ = w1.frozen? ⟨k, j, none⟩ := fun k j hk => hb.frozen (p := ⟨k, j, none⟩) (by simp; omega)
  refine ⟨(c _ _ (by omega)).trans h0, (c _ _ (by omega)).trans h1, ?_, ?_, ?_, ?_, (f _ _ (by omega)).trans h6, (f _ _ (by omega)).trans h7, (f _ _ (by omega)).trans h8, (f _ _ (by omega)).trans h9⟩
  · rw [c _ _ (by omega)]; exact h2
  · rw [c _ _ (by omega)]; exact h3
  · rw [c _ _ (by omega)]; exact h4
  · rw [c _ _ (by omega)]; exact h5
theorem noFits : FFits noFlash := ⟨by simp [noFlash], by simp [noFlash]⟩
theorem read_fits {F : FM} {x : Int} (h : FFits F) : FFits (readOf F x).fl := by
  unfold readOf
  split
  · split
    · exact h
    · exact noFits
  · exact noFits

end Go.Proofs.Ytocjjkjjojdpdaa
