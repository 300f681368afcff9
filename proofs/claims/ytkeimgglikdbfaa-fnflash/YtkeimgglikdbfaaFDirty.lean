/- The region that appends to a drawn flash's Dirty. -/
import Derived.Test.YtkeimgglikdbfaaFGrow
namespace Go.Proofs.Ytkeimgglikdbfaa
open Go.RowKit
def fr17 (a0 : Act) (v54 v55 v56 v57 v58 v59 v60 v61 : Value) : Act := ((((((((a0.put (some 54) v54).put (some 55) v55).put (some 56) v56).put (some 57) v57).put (some 58) v58).put (some 59) v59).put (some 60) v60).put (some 61) v61)
theorem fr17_eq (a0 : Act) (v54 v55 v56 v57 v58 v59 v60 v61 : Value) : fr17 a0 v54 v55 v56 v57 v58 v59 v60 v61 = ((((((((a0.put (some 54) v54).put (some 55) v55).put (some 56) v56).put (some 57) v57).put (some 58) v58).put (some 59) v59).put (some 60) v60).put (some 61) v61) := rfl
attribute [irreducible] fr17
structure J17 (b : Nat) (a : Option Addr) (len cap : Nat) (w : World) (m : Nat) (F : FM) (sv dv : Value) (l : Nat → Bool) (w1 : World) (v54 v55 v56 v57 v58 v59 v60 v61 : Value) : Prop where
  m6 : ∀ i, (i = 1 ∨ i = 3 ∨ i = 5) → l 6 = true → l i = true
  m8 : l 8 = true → l 6 = true
  st : l 6 = false → FSt b a len cap w m F sv dv w1
  k0 : l 0 = true → v54 = .pointer (some ⟨m, 1, none⟩)
  k1 : l 1 = true → v55 = dv
  k2 : l 2 = true → v56 = Ptr b
  k3 : l 3 = true → ∃ x : Int, v57 = .int .i64 x
  k4 : l 4 = true → ∃ x : Int, v58 = .agg #[.int .i64 x, .string { data := #[] }]
  k5 : l 5 = true → l 6 = false → ∃ (x : Int) (p : Nat), v59 = .slice (some ⟨p, 0, none⟩) 1 1 ∧ p ≠ b ∧ Bx w1 p 63 #[.int .i64 x, .string { data := #[] }]
  k6 : l 6 = true → l 8 = false → ∃ (x : Int) (g c : Nat) (w0 : World), v60 = .slice (some ⟨g, 0, none⟩) (F.dir.length + 1) c ∧ FSt b a len cap w m F sv dv w0 ∧ Gr w1 (w.heap.size + 1) 63 2 (.slice (some ⟨g, 0, none⟩) (F.dir.length + 1) c) (F.dir.length + 1) (dirs F.dir ++ [.int .i64 x, .string { data := #[] }]) ∧ w0.grownBy w1 (blk dv F.dir.length) ∧ (blk dv F.dir.length = some g ∨ w0.heap.size ≤ g)
  k7 : l 7 = true → v61 = .pointer (some ⟨m, 1, none⟩)
  k8 : l 8 = true → ∃ (x : Int) (g c : Nat), FSt b a len cap w m ⟨F.sec, F.dir ++ [(x, ⟨#[]⟩)]⟩ sv (.slice (some ⟨g, 0, none⟩) (F.dir.length + 1) c) w1
section
variable {b : Nat} {a : Option Addr} {len cap : Nat} {w : World} {m : Nat} {F : FM} {sv dv : Value} {l : Nat → Bool} {w1 w2 : World} {v54 v55 v56 v57 v58 v59 v60 v61 : Value}
theorem J17.off (h : J17 b a len cap w m F sv dv l w1 v54 v55 v56 v57 v58 v59 v60 v61) {i : Nat} (hi : i = 1 ∨ i = 3 ∨ i = 5) (hl : l i = false) : l 6 = false := by
  cases h6 : l 6 with
  | false => rfl
  | true => rw [h.m6 i hi h6] at hl; cases hl
theorem J17.off8 (h : J17 b a len cap w m F sv dv l w1 v54 v55 v56 v57 v58 v59 v60 v61) (hl : l 6 = false) : l 8 = false := by
  cases h8 : l 8 with
  | false => rfl
  | true => rw [h.m8 h8] at hl; cases hl
theorem m6_add {i : Nat} (hi : i ≠ 6) (h : ∀ i, (i = 1 ∨ i = 3 ∨ i = 5) → l 6 = true → l i = true) : ∀ j, (j = 1 ∨ j = 3 ∨ j = 5) → (6 == i || l 6) = true → (j == i || l j) = true := fun j hj e => by
  have : (6 == i) = false := by simp; omega
  rw [this, Bool.false_or] at e
  rw [h j hj e]; simp
theorem J17.keep (h : J17 b a len cap w m F sv dv l w1 v54 v55 v56 v57 v58 v59 v60 v61) (h6 : l 6 = false) (hk : Kept b w1 w2) (hs : Src w2 b a len cap) (hb : b < w.heap.size) (hm : w.heap.size < m) : J17 b a len cap w m F sv dv l w2 v54 v55 v56 v57 v58 v59 v60 v61 :=
  ⟨h.m6, h.m8, fun e => (h.st e).keep hk hs hb hm, h.k0, h.k1, h.k2, h.k3, h.k4, fun e e' => (by obtain ⟨x, p, q1, q2, q3⟩ := h.k5 e e'; exact ⟨x, p, q1, q2, q3.kept hk q2⟩), fun e => (by rw [h6] at e; cases e), h.k7, fun e => (by rw [h.off8 h6] at e; cases e)⟩
theorem J17.p0 (h : J17 b a len cap w m F sv dv l w1 v54 v55 v56 v57 v58 v59 v60 v61) : J17 b a len cap w m F sv dv (fun j => j == 0 || l j) w1 (.pointer (some ⟨m, 1, none⟩)) v55 v56 v57 v58 v59 v60 v61 := ⟨m6_add (by decide) h.m6, h.m8, h.st, fun _ => rfl, h.k1, h.k2, h.k3, h.k4, h.k5, h.k6, h.k7, h.k8⟩
theorem J17.p1 (h : J17 b a len cap w m F sv dv l w1 v54 v55 v56 v57 v58 v59 v60 v61) : J17 b a len cap w m F sv dv (fun j => j == 1 || l j) w1 v54 dv v56 v57 v58 v59 v60 v61 := ⟨m6_add (by decide) h.m6, h.m8, h.st, h.k0, fun _ => rfl, h.k2, h.k3, h.k4, h.k5, h.k6, h.k7, h.k8⟩
theorem J17.p2 (h : J17 b a len cap w m F sv dv l w1 v54 v55 v56 v57 v58 v59 v60 v61) : J17 b a len cap w m F sv dv (fun j => j == 2 || l j) w1 v54 v55 (Ptr b) v57 v58 v59 v60 v61 := ⟨m6_add (by decide) h.m6, h.m8, h.st, h.k0, h.k1, fun _ => rfl, h.k3, h.k4, h.k5, h.k6, h.k7, h.k8⟩
theorem J17.p3 (h : J17 b a len cap w m F sv dv l w1 v54 v55 v56 v57 v58 v59 v60 v61) (x : Int) : J17 b a len cap w m F sv dv (fun j => j == 3 || l j) w1 v54 v55 v56 (.int .i64 x) v58 v59 v60 v61 := ⟨m6_add (by decide) h.m6, h.m8, h.st, h.k0, h.k1, h.k2, fun _ => ⟨x, rfl⟩, h.k4, h.k5, h.k6, h.k7, h.k8⟩
theorem J17.p4 (h : J17 b a len cap w m F sv dv l w1 v54 v55 v56 v57 v58 v59 v60 v61) (x : Int) : J17 b a len cap w m F sv dv (fun j => j == 4 || l j) w1 v54 v55 v56 v57 (.agg #[.int .i64 x, .string { data := #[] }]) v59 v60 v61 := ⟨m6_add (by decide) h.m6, h.m8, h.st, h.k0, h.k1, h.k2, h.k3, fun _ => ⟨x, rfl⟩, h.k5, h.k6, h.k7, h.k8⟩
theorem J17.p7 (h : J17 b a len cap w m F sv dv l w1 v54 v55 v56 v57 v58 v59 v60 v61) : J17 b a len cap w m F sv dv (fun j => j == 7 || l j) w1 v54 v55 v56 v57 v58 v59 v60 (.pointer (some ⟨m, 1, none⟩)) := ⟨m6_add (by decide) h.m6, h.m8, h.st, h.k0, h.k1, h.k2, h.k3, h.k4, h.k5, h.k6, fun _ => rfl, h.k8⟩
theorem J17.p5 (h : J17 b a len cap w m F sv dv l w1 v54 v55 v56 v57 v58 v59 v60 v61) (hl : l 5 = false) (x : Int) (hb : b < w.heap.size) (hm : w.heap.size < m) : J17 b a len cap w m F sv dv (fun j => j == 5 || l j) (w1.alloc (.cells #[.int .i64 x, .string { data := #[] }] 63)) v54 v55 v56 v57 v58 (.slice (some ⟨w1.heap.size, 0, none⟩) 1 1) v60 v61 := by
  have h6 := h.off (by decide) hl
  refine ⟨m6_add (by decide) h.m6, h.m8, fun e => (h.st e).next (below_alloc1 _ _) hb hm, h.k0, h.k1, h.k2, h.k3, h.k4, fun _ _ => ⟨x, _, rfl, (by have := (h.st h6).src.lt; omega), bx_new _ _ _⟩, fun e => ?_, h.k7, fun e => ?_⟩
  · have e : l 6 = true := e
    rw [h6] at e; cases e
  · have e : l 8 = true := e
    rw [h.off8 h6] at e; cases e
theorem J17.p6 (h : J17 b a len cap w m F sv dv l w1 v54 v55 v56 v57 v58 v59 v60 v61) (hl : l 6 = false) (hall : ∀ i, (i = 1 ∨ i = 3 ∨ i = 5) → l i = true) (x : Int) (g c : Nat) (hg : Gr w2 (w.heap.size + 1) 63 2 (.slice (some ⟨g, 0, none⟩) (F.dir.length + 1) c) (F.dir.length + 1) (dirs F.dir ++ [.int .i64 x, .string { data := #[] }])) (hgr : w1.grownBy w2 (blk dv F.dir.length)) (hloc : blk dv F.dir.length = some g ∨ w1.heap.size ≤ g) : J17 b a len cap w m F sv dv (fun j => j == 6 || l j) w2 v54 v55 v56 v57 v58 v59 (.slice (some ⟨g, 0, none⟩) (F.dir.length + 1) c) v61 := by
  refine ⟨fun i hi _ => by rw [hall i hi]; simp, fun _ => rfl, fun e => ?_, h.k0, h.k1, h.k2, h.k3, h.k4, fun _ e => ?_, fun _ _ => ⟨x, g, c, w1, rfl, h.st hl, hg, hgr, hloc⟩, h.k7, fun e => ?_⟩
  · have e : true = false := e
    cases e
  · have e : true = false := e
    cases e
  · have e : l 8 = true := e
    rw [h.off8 hl] at e; cases e
theorem J17.p8 (h : J17 b a len cap w m F sv dv l w1 v54 v55 v56 v57 v58 v59 v60 v61) (hl : l 8 = false) (h6 : l 6 = true) (hb : b < w.heap.size) (hm : w.heap.size < m) : ∃ (g c : Nat) (du : Value), v60 = .slice (some ⟨g, 0, none⟩) (F.dir.length + 1) c ∧ Bx w1 m 26 #[sv, dv] ∧ J17 b a len cap w m F sv dv (fun j => j == 8 || l j) (w1.setCell ⟨m, 1, none⟩ (.slice (some ⟨g, 0, none⟩) (F.dir.length + 1) c)) v54 v55 v56 v57 v58 v59 v60 v61 := by
  obtain ⟨x, g, c, w0, q1, q2, q3, q4, q5⟩ := h.k6 h6 hl
  refine ⟨g, c, dv, q1, q2.box.grown q4 (fun e => q2.ap m (.inr e.symm) rfl), ⟨m6_add (by decide) h.m6, fun _ => h6, fun e => ?_, h.k0, h.k1, h.k2, h.k3, h.k4, fun _ e => ?_, fun _ e => ?_, h.k7, fun _ => ⟨x, g, c, q2.growD hb hm (x, ⟨#[]⟩) g c q3 q4 q5⟩⟩⟩
  · have e : l 6 = false := e
    rw [h6] at e; cases e
  · have e : l 6 = false := e
    rw [h6] at e; cases e
  · have e : true = false := e
    cases e
end
end Go.Proofs.Ytkeimgglikdbfaa
