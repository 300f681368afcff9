/- A drawn flash that is appended to. -/
import Derived.Test.YtkeimgglikdbfaaFState
namespace Go.Proofs.Ytkeimgglikdbfaa
open Go.RowKit
theorem grown_two {w w' : World} {s : Option Nat} (h : w.grownBy w' s) : Two s none w w' := ⟨h.os, h.tape, h.output, h.size, fun k hk h1 _ => h.block k hk h1⟩
theorem dirs_snocG (l : List D) (d : D) : dirs (l ++ [d]) = dirs l ++ [.int .i64 d.1, .string d.2] := by
  induction l with
  | nil => rfl
  | cons e l ih => simp only [List.cons_append, dirs]; rw [ih]
theorem FSt.growD {b : Nat} {a : Option Addr} {len cap : Nat} {w : World} {m : Nat} {F : FM} {sv dv : Value} {w1 w2 : World} (h : FSt b a len cap w m F sv dv w1) (hb : b < w.heap.size) (hm : w.heap.size < m) (d : D) (g c : Nat)
    (hg : Gr w2 (w.heap.size + 1) 63 2 (.slice (some ⟨g, 0, none⟩) (F.dir.length + 1) c) (F.dir.length + 1) (dirs F.dir ++ [.int .i64 d.1, .string d.2])) (hgr : w1.grownBy w2 (blk dv F.dir.length)) (hloc : blk dv F.dir.length = some g ∨ w1.heap.size ≤ g) :
    FSt b a len cap w m ⟨F.sec, F.dir ++ [d]⟩ sv (.slice (some ⟨g, 0, none⟩) (F.dir.length + 1) c) (w2.setCell ⟨m, 1, none⟩ (.slice (some ⟨g, 0, none⟩) (F.dir.length + 1) c)) := by
  have hlo : ∀ k, blk dv F.dir.length = some k → w.heap.size + 1 ≤ k ∧ k < w1.heap.size ∧ k ≠ m := fun k hk => ⟨(h.fg.in k (.inr hk)).1, (h.fg.in k (.inr hk)).2, h.ap k (.inr hk)⟩
  have hne : ∀ n, (n = m ∨ n ≤ w.heap.size) → some n ≠ blk dv F.dir.length := fun n hn e => by have := hlo n e.symm; omega
  have hgm : g ≠ m := by
    rcases hloc with e | e
    · exact (hlo g e).2.2
    · have := h.box.lt; omega
  have hsv : ∀ k, blk sv F.sec.length = some k → some k ≠ blk dv F.dir.length ∧ some k ≠ none := fun k hk => ⟨fun e => h.fg.2.2.1 k hk e.symm, by simp⟩
  have hsm : ∀ k, blk sv F.sec.length = some k → k ≠ m := fun k hk => h.ap k (.inl hk)
  have hb' : blk (.slice (some ⟨g, 0, none⟩) (F.dir.length + 1) c) (F.dir.length + 1) = some g := blk_pos (by omega)
  have hel : (F.dir ++ [d]).length = F.dir.length + 1 := by simp
  have hgo : ∀ k, blk (.slice (some ⟨g, 0, none⟩) (F.dir.length + 1) c) (F.dir.length + 1) = some k → k ≠ m := fun k hk => by rw [hb'] at hk; cases hk; exact hgm
  refine ⟨(h.ans.grown hgr (hne _ (.inr (Nat.le_refl _)))).other _ _ (by show _ ≠ m; omega), (h.box.grown hgr (hne _ (.inl rfl))).set (j := 1) _, ⟨(h.fg.1.two (grown_two hgr) hsv).other ⟨m, 1, none⟩ _ hsm, ?_, ?_, (h.fg.2.2.2.1.two (grown_two hgr) hsv).other ⟨m, 1, none⟩ _ hsm, ?_⟩, ?_, (h.src.grown hgr (hne b (.inr (by omega))).symm).other _ _ (by show b ≠ m; omega), (h.kept.grown hgr fun j e => by have := hlo j e; omega).high ⟨m, 1, none⟩ _ (by show _ ≤ m; omega)⟩
  · show Own _ _ _ (F.dir ++ [d]).length 2 (dirs (F.dir ++ [d]))
    rw [hel, dirs_snocG]
    exact hg.own.other ⟨m, 1, none⟩ _ hgo
  · intro k hk
    show blk _ (F.dir ++ [d]).length ≠ some k
    rw [hel, hb']
    intro e
    cases e
    rcases hloc with e | e
    · exact h.fg.2.2.1 _ hk e
    · have := (h.fg.in _ (.inl hk)).2; omega
  · show Gr _ _ _ 2 _ (F.dir ++ [d]).length (dirs (F.dir ++ [d]))
    rw [hel, dirs_snocG]
    exact hg.other ⟨m, 1, none⟩ _ hgo
  · intro k hk
    rcases hk with hk | hk
    · exact hsm k hk
    · have hk : blk (.slice (some ⟨g, 0, none⟩) (F.dir.length + 1) c) (F.dir ++ [d]).length = some k := hk
      rw [hel] at hk
      exact hgo k hk
theorem strs_snoc (l : List ByteArray) (x : ByteArray) : strs (l ++ [x]) = strs l ++ [.string x] := by simp [strs]
theorem FSt.growS {b : Nat} {a : Option Addr} {len cap : Nat} {w : World} {m : Nat} {F : FM} {sv dv : Value} {w1 w2 : World} (h : FSt b a len cap w m F sv dv w1) (hb : b < w.heap.size) (hm : w.heap.size < m) (d : ByteArray) (g c : Nat)
    (hg : Gr w2 (w.heap.size + 1) 9 1 (.slice (some ⟨g, 0, none⟩) (F.sec.length + 1) c) (F.sec.length + 1) (strs F.sec ++ [.string d])) (hgr : w1.grownBy w2 (blk sv F.sec.length)) (hloc : blk sv F.sec.length = some g ∨ w1.heap.size ≤ g) :
    FSt b a len cap w m ⟨F.sec ++ [d], F.dir⟩ (.slice (some ⟨g, 0, none⟩) (F.sec.length + 1) c) dv (w2.setCell ⟨m, 0, none⟩ (.slice (some ⟨g, 0, none⟩) (F.sec.length + 1) c)) := by
  have hlo : ∀ k, blk sv F.sec.length = some k → w.heap.size + 1 ≤ k ∧ k < w1.heap.size ∧ k ≠ m := fun k hk => ⟨(h.fg.in k (.inl hk)).1, (h.fg.in k (.inl hk)).2, h.ap k (.inl hk)⟩
  have hne : ∀ n, (n = m ∨ n ≤ w.heap.size) → some n ≠ blk sv F.sec.length := fun n hn e => by have := hlo n e.symm; omega
  have hgm : g ≠ m := by
    rcases hloc with e | e
    · exact (hlo g e).2.2
    · have := h.box.lt; omega
  have hdv : ∀ k, blk dv F.dir.length = some k → some k ≠ blk sv F.sec.length ∧ some k ≠ none := fun k hk => ⟨fun e => h.fg.2.2.1 k e.symm hk, by simp⟩
  have hdm : ∀ k, blk dv F.dir.length = some k → k ≠ m := fun k hk => h.ap k (.inr hk)
  have hb' : blk (.slice (some ⟨g, 0, none⟩) (F.sec.length + 1) c) (F.sec.length + 1) = some g := blk_pos (by omega)
  have hel : (F.sec ++ [d]).length = F.sec.length + 1 := by simp
  have hgo : ∀ k, blk (.slice (some ⟨g, 0, none⟩) (F.sec.length + 1) c) (F.sec.length + 1) = some k → k ≠ m := fun k hk => by rw [hb'] at hk; cases hk; exact hgm
  refine ⟨(h.ans.grown hgr (hne _ (.inr (Nat.le_refl _)))).other _ _ (by show _ ≠ m; omega), (h.box.grown hgr (hne _ (.inl rfl))).set (j := 0) _, ⟨?_, (h.fg.2.1.two (grown_two hgr) hdv).other ⟨m, 0, none⟩ _ hdm, ?_, ?_, (h.fg.2.2.2.2.two (grown_two hgr) hdv).other ⟨m, 0, none⟩ _ hdm⟩, ?_, (h.src.grown hgr (hne b (.inr (by omega))).symm).other _ _ (by show b ≠ m; omega), (h.kept.grown hgr fun j e => by have := hlo j e; omega).high ⟨m, 0, none⟩ _ (by show _ ≤ m; omega)⟩
  · show Own _ _ _ (F.sec ++ [d]).length 1 (strs (F.sec ++ [d]))
    rw [hel, strs_snoc]
    exact hg.own.other ⟨m, 0, none⟩ _ hgo
  · intro k hk
    have hk : blk (.slice (some ⟨g, 0, none⟩) (F.sec.length + 1) c) (F.sec ++ [d]).length = some k := hk
    rw [hel, hb'] at hk
    cases hk
    intro e
    rcases hloc with q | q
    · exact h.fg.2.2.1 _ q e
    · have := (h.fg.in _ (.inr e)).2; omega
  · show Gr _ _ _ 1 _ (F.sec ++ [d]).length (strs (F.sec ++ [d]))
    rw [hel, strs_snoc]
    exact hg.other ⟨m, 0, none⟩ _ hgo
  · intro k hk
    rcases hk with hk | hk
    · have hk : blk (.slice (some ⟨g, 0, none⟩) (F.sec.length + 1) c) (F.sec ++ [d]).length = some k := hk
      rw [hel] at hk
      exact hgo k hk
    · exact hdm k hk
end Go.Proofs.Ytkeimgglikdbfaa
