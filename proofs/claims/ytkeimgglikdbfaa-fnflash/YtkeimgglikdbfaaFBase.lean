/- The draws of a flash: what a drawn flash keeps to; the region of its loop. -/
import Derived.Test.YtkeimgglikdbfaaGWrite
import Derived.Test.YtkeimgglikdbfaaGFSync
import Derived.Test.YtkeimgglikdbfaaGNew
import Derived.Test.YtkeimgglikdbfaaDraws
import Derived.Test.YtkeimgglikdbfaaRInv
namespace Go.Proofs.Ytkeimgglikdbfaa
open Go.RowKit

/-- The bounds of a flash that is being drawn. -/
structure Bd (F : FM) : Prop where
  least : 1 ≤ F.sec.length
  most : F.sec.length ≤ 40
  dirty : F.dir.length ≤ 41
  sec : ∀ s ∈ F.sec, s.size ≤ 97
  dir : ∀ d ∈ F.dir, d.2.size ≤ 97
theorem putD_mem (a : Int) (x : ByteArray) : ∀ (l : List D), ∀ d ∈ putD l a x, d ∈ l ∨ d.2 = x
  | [], d, h => by simp [putD] at h; exact .inr (by rw [h])
  | e :: l, d, h => by
    unfold putD at h
    split at h
    · rcases List.mem_cons.1 h with rfl | h
      · exact .inr rfl
      · exact .inl (List.mem_cons_of_mem _ h)
    · rcases List.mem_cons.1 h with rfl | h
      · exact .inl (List.mem_cons_self)
      · rcases putD_mem a x l d h with h | h
        · exact .inl (List.mem_cons_of_mem _ h)
        · exact .inr h
theorem putD_len (a : Int) (x : ByteArray) : ∀ (l : List D), (putD l a x).length ≤ l.length + 1
  | [] => by simp [putD]
  | e :: l => by
    unfold putD
    split
    · simp
    · have := putD_len a x l; simp; omega
theorem syncL_mem (dir : List D) : ∀ (sec : List ByteArray), ∀ s ∈ syncL sec dir, s ∈ sec ∨ ∃ d ∈ dir, s = d.2 := by
  induction dir with
  | nil => intro sec s h; exact .inl h
  | cons d dir ih =>
    intro sec s h
    rcases ih _ s h with h | ⟨e, he, rfl⟩
    · rcases List.mem_or_eq_of_mem_set h with h | h
      · exact .inl h
      · exact .inr ⟨d, List.mem_cons_self, h⟩
    · exact .inr ⟨e, List.mem_cons_of_mem _ he, rfl⟩
theorem Bd.write {F : FM} (h : Bd F) {a : Int} {x : ByteArray} (h0 : (writeOf F a x).code = 0) : Bd (writeOf F a x).fl := by
  unfold writeOf at h0 ⊢
  split
  · rename_i h1; rw [if_pos h1] at h0; simp [illOf] at h0
  · rename_i h1
    rw [if_neg h1] at h0
    split
    · rename_i h2
      rw [if_pos h2] at h0
      split
      · refine ⟨h.least, h.most, ?_, h.sec, fun d hd => ?_⟩
        · have := putD_len a x F.dir; have := h2.1.dirty; have := h2.1.most; show (putD F.dir a x).length ≤ 41; omega
        · rcases putD_mem a x F.dir d hd with hd | hd
          · exact h.dir d hd
          · rw [hd]; have := h2.2; omega
      · rename_i h3; rw [if_neg h3] at h0; simp [illOf] at h0
    · rename_i h2; rw [if_neg h2] at h0; simp [illOf] at h0
theorem Bd.sync {F : FM} (h : Bd F) (h0 : (fsyncOf F).code = 0) : Bd (fsyncOf F).fl := by
  unfold fsyncOf at h0 ⊢
  split
  · refine ⟨?_, ?_, by simp [syncOf], fun s hs => ?_, fun d hd => by simp [syncOf] at hd⟩
    · show 1 ≤ (syncL F.sec F.dir).length; rw [syncL_length]; exact h.least
    · show (syncL F.sec F.dir).length ≤ 40; rw [syncL_length]; exact h.most
    · rcases syncL_mem F.dir F.sec s hs with hs | ⟨d, hd, rfl⟩
      · exact h.sec s hs
      · exact h.dir d hd
  · rename_i h1; rw [if_neg h1] at h0; simp [illOf] at h0
theorem Bd.fits {F : FM} (h : Bd F) : FFits F := ⟨by have := h.most; omega, by have := h.dirty; omega⟩
theorem Bd.ss {F : FM} (h : Bd F) : ∀ s ∈ F.sec, s.size ≤ 1048576 := fun s hs => by have := h.sec s hs; omega
theorem Bd.ds {F : FM} (h : Bd F) : ∀ d ∈ F.dir, d.2.size ≤ 1048576 := fun d hd => by have := h.dir d hd; omega
theorem bd_new {n : Int} (h0 : 1 ≤ n) (h1 : n ≤ 40) : Bd (freshOf n) := by
  unfold freshOf
  rw [if_pos ⟨h0, h1⟩]
  refine ⟨by simp; omega, by simp; omega, by simp, fun s hs => ?_, fun d hd => by simp at hd⟩
  have := (List.mem_replicate.1 hs).2
  rw [this]; simp

theorem Kept.two {b : Nat} {w w' : World} (h : Kept b w w') : Two (some b) none w w' := ⟨h.os, h.tape, h.output, h.size, fun k hk h1 _ => h.block k hk h1⟩
theorem Bx.kept {w w' : World} {n b : Nat} {T : TypeId} {vs : Array Value} (h : Bx w n T vs) (hk : Kept b w w') (hn : n ≠ b) : Bx w' n T vs := (hk.block n h.lt (fun e => hn (Option.some.inj e))).trans h
theorem below_kept {b : Nat} {w w' : World} (h : Below w.heap.size w w') : Kept b w w' := ⟨h.os, h.tape, h.output, h.size, fun k hk _ => h.block k hk⟩
theorem FG.kept {w w' : World} {lo b : Nat} {sv dv : Value} {F : FM} (h : FG w lo sv dv F) (hk : Kept b w w') (hb : b < lo) : FG w' lo sv dv F := by
  have hne : ∀ k, (blk sv F.sec.length = some k ∨ blk dv F.dir.length = some k) → some k ≠ some b ∧ some k ≠ none := fun k e => ⟨fun q => by have := (h.in k e).1; have := Option.some.inj q; omega, by simp⟩
  exact ⟨h.1.two hk.two fun k e => hne k (.inl e), h.2.1.two hk.two fun k e => hne k (.inr e), h.2.2.1, h.2.2.2.1.two hk.two fun k e => hne k (.inl e), h.2.2.2.2.two hk.two fun k e => hne k (.inr e)⟩
theorem FG.apart {w : World} {lo : Nat} {sv dv : Value} {F : FM} (h : FG w lo sv dv F) (p : Addr) (x : Value) (hp : ∀ k, (blk sv F.sec.length = some k ∨ blk dv F.dir.length = some k) → k ≠ p.block) : FG (w.setCell p x) lo sv dv F :=
  ⟨h.1.other p x (fun k hk => hp k (.inl hk)), h.2.1.other p x (fun k hk => hp k (.inr hk)), h.2.2.1, h.2.2.2.1.other p x (fun k hk => hp k (.inl hk)), h.2.2.2.2.other p x (fun k hk => hp k (.inr hk))⟩
theorem Src.below {w w' : World} {b : Nat} {a : Option Addr} {len cap : Nat} (h : Src w b a len cap) (hb : Below w.heap.size w w') : Src w' b a len cap := by
  obtain ⟨k, m, s, h1, h2, h3⟩ := h
  exact ⟨k, m, s, h1, (hb.block b (lt_of_some h2)).trans h2, h3⟩
theorem Src.other {w : World} {b : Nat} {a : Option Addr} {len cap : Nat} (h : Src w b a len cap) (p : Addr) (x : Value) (hp : b ≠ p.block) : Src (w.setCell p x) b a len cap := by
  obtain ⟨k, m, s, h1, h2, h3⟩ := h
  exact ⟨k, m, s, h1, (Below.heap_setCell w p x b hp).trans h2, h3⟩
theorem Src.drew {w : World} {b : Nat} {a : Option Addr} {len cap : Nat} (h : Src w b a len cap) : Src w.drew b a len cap := h
/-- Four cells written anew. -/
def set4 (w : World) (p : Nat) (x y z u : Value) : World := (((w.setCell ⟨p, 0, none⟩ x).setCell ⟨p, 1, none⟩ y).setCell ⟨p, 2, none⟩ z).setCell ⟨p, 3, none⟩ u
theorem Bx.set4 {w : World} {p : Nat} {T : TypeId} {a b c d : Value} (h : Bx w p T #[a, b, c, d]) (x y z u : Value) : Bx (set4 w p x y z u) p T #[x, y, z, u] := (((h.set (j := 0) x).set (j := 1) y).set (j := 2) z).set (j := 3) u
theorem FG.set4 {w : World} {lo p : Nat} {sv dv : Value} {F : FM} (h : FG w lo sv dv F) (hp : ∀ k, (blk sv F.sec.length = some k ∨ blk dv F.dir.length = some k) → k ≠ p) (x y z u : Value) : FG (Go.Proofs.Ytkeimgglikdbfaa.set4 w p x y z u) lo sv dv F :=
  (((h.apart ⟨p, 0, none⟩ x hp).apart ⟨p, 1, none⟩ y hp).apart ⟨p, 2, none⟩ z hp).apart ⟨p, 3, none⟩ u hp
theorem Src.set4 {w : World} {b p : Nat} {a : Option Addr} {len cap : Nat} (h : Src w b a len cap) (hp : b ≠ p) (x y z u : Value) : Src (Go.Proofs.Ytkeimgglikdbfaa.set4 w p x y z u) b a len cap :=
  (((h.other ⟨p, 0, none⟩ x hp).other ⟨p, 1, none⟩ y hp).other ⟨p, 2, none⟩ z hp).other ⟨p, 3, none⟩ u hp
theorem Kept.high {b : Nat} {w w1 : World} (h : Kept b w w1) (p : Addr) (x : Value) (hp : w.heap.size ≤ p.block) : Kept b w (w1.setCell p x) :=
  ⟨h.os, h.tape, h.output, by simpa using h.size, fun k hk hne => (Below.heap_setCell w1 p x k (by omega)).trans (h.block k hk hne)⟩
theorem Kept.set4 {b : Nat} {w w1 : World} {p : Nat} (h : Kept b w w1) (hp : w.heap.size ≤ p) (x y z u : Value) : Kept b w (Go.Proofs.Ytkeimgglikdbfaa.set4 w1 p x y z u) :=
  (((h.high ⟨p, 0, none⟩ x hp).high ⟨p, 1, none⟩ y hp).high ⟨p, 2, none⟩ z hp).high ⟨p, 3, none⟩ u hp

def fr5 (a0 : Act) (v5 v16 v17 v18 v19 v20 v21 v22 v23 : Value) : Act := ((((((((a0.put (some 5) v5).put (some 16) v16).put (some 17) v17).put (some 18) v18).put (some 19) v19).put (some 20) v20).put (some 21) v21).put (some 22) v22).put (some 23) v23
theorem fr5_eq (a0 : Act) (v5 v16 v17 v18 v19 v20 v21 v22 v23 : Value) : fr5 a0 v5 v16 v17 v18 v19 v20 v21 v22 v23 = ((((((((a0.put (some 5) v5).put (some 16) v16).put (some 17) v17).put (some 18) v18).put (some 19) v19).put (some 20) v20).put (some 21) v21).put (some 22) v22).put (some 23) v23 := rfl
attribute [irreducible] fr5
abbrev Ptr (n : Nat) : Value := .pointer (some ⟨n, 0, none⟩)
def Apart (sv dv : Value) (F : FM) (p : Nat) : Prop := ∀ k, (blk sv F.sec.length = some k ∨ blk dv F.dir.length = some k) → k ≠ p
/-- What stands in the loop's region, by what has come up. -/
structure J5 (W : World) (T : TypeId) (b : Nat) (a : Option Addr) (len cap : Nat) (A : Value) (Z : Array Value) (P : OM → Prop) (l : Nat → Bool) (w1 : World) (v5 v16 v17 v18 v19 v20 v21 v22 v23 : Value) : Prop where
  kept : Kept b W w1
  src : Src w1 b a len cap
  n9 : ∀ i, i < 9 → l 9 = true → l i = true
  k0 : l 0 = true → v16 = A
  k1 : l 1 = true → v17 = Ptr b
  k2 : l 2 = true → ∃ x : Int, v18 = .int .i64 x
  k3 : l 3 = true → v19 = Ptr b
  k4 : l 4 = true → v20 = Ptr b
  k5 : l 5 = true → ∃ n : Nat, n < 5 ∧ v21 = .int .i64 (n : Int)
  k6 : l 6 = true → ∃ s : ByteArray, s.size ≤ 5 ∧ v22 = .string s
  k7 : l 7 = true → ∃ O sv dv, P O ∧ v23 = .agg #[sv, dv, .string O.data, .int .i64 O.code] ∧ FG w1 W.heap.size sv dv O.fl ∧ ∀ p, l 8 = true → v5 = Ptr p → Apart sv dv O.fl p
  k8 : l 8 = true → l 9 = false → ∃ p, v5 = Ptr p ∧ W.heap.size ≤ p ∧ Bx w1 p T Z
  k9 : l 9 = true → ∃ p O sv dv, v5 = Ptr p ∧ W.heap.size ≤ p ∧ P O ∧ Bx w1 p T #[sv, dv, .string O.data, .int .i64 O.code] ∧ FG w1 W.heap.size sv dv O.fl ∧ Apart sv dv O.fl p
section
variable {W : World} {T : TypeId} {b : Nat} {a : Option Addr} {len cap : Nat} {A : Value} {Z : Array Value} {P : OM → Prop} {l : Nat → Bool} {w1 w2 : World} {v5 v16 v17 v18 v19 v20 v21 v22 v23 : Value}
theorem J5.off (h : J5 W T b a len cap A Z P l w1 v5 v16 v17 v18 v19 v20 v21 v22 v23) {i : Nat} (hi : i < 9) (hl : l i = false) : l 9 = false := by
  cases h9 : l 9 with
  | false => rfl
  | true => rw [h.n9 i hi h9] at hl; cases hl
theorem J5.keep (h : J5 W T b a len cap A Z P l w1 v5 v16 v17 v18 v19 v20 v21 v22 v23) (hk : Kept b w1 w2) (hs : Src w2 b a len cap) (hb : b < W.heap.size) : J5 W T b a len cap A Z P l w2 v5 v16 v17 v18 v19 v20 v21 v22 v23 := by
  refine ⟨h.kept.trans hk, hs, h.n9, h.k0, h.k1, h.k2, h.k3, h.k4, h.k5, h.k6, fun e => ?_, fun e e' => ?_, fun e => ?_⟩
  · obtain ⟨O, sv, dv, q1, q2, q3, q4⟩ := h.k7 e
    exact ⟨O, sv, dv, q1, q2, q3.kept hk hb, q4⟩
  · obtain ⟨p, q1, q2, q3⟩ := h.k8 e e'
    exact ⟨p, q1, q2, q3.kept hk (by omega)⟩
  · obtain ⟨p, O, sv, dv, q1, q2, q3, q4, q5, q6⟩ := h.k9 e
    exact ⟨p, O, sv, dv, q1, q2, q3, q4.kept hk (by omega), q5.kept hk hb, q6⟩
theorem n9_add {i : Nat} (hi : i < 9) (h : ∀ i, i < 9 → l 9 = true → l i = true) : ∀ j, j < 9 → (9 == i || l 9) = true → (j == i || l j) = true := fun j hj e => by
  have : (9 == i) = false := by simp; omega
  rw [this, Bool.false_or] at e
  rw [h j hj e]; simp
end
end Go.Proofs.Ytkeimgglikdbfaa
