/- Ground texts of this claim, in one. -/
import Derived.ArgAppend
import Derived.Deep.AppendLies
import Derived.Maps.AppendAt
import Derived.Test.YtcckpkcjekcajaaDoorBase
import Derived.Test.YtcckpkcjekcajaaDoorLBox
import Derived.Test.YtcckpkcjekcajaaDoorSRight
namespace Go.Proofs.YtcckpkcjekcajaaDoor
open Go.RowKit

/-- What is left of a write. -/
def torn (old fresh : ByteArray) (fate : Int) : ByteArray :=
  if 8000 < old.size ∨ 8000 < fresh.size then ByteArray.empty
  else if fate < 1 then old
  else if fate = 1 then fresh
  else if (fresh.size : Int) < fate - 2 then fresh
  else fresh.extract 0 (fate - 2).toNat

end Go.Proofs.YtcckpkcjekcajaaDoor

namespace Go.Proofs.YtcckpkcjekcajaaDoor
open Go.RowKit

/-- Its run, the source read as xs. -/
theorem run_append_copy {P : Program} (w : World) (t ty e : TypeId) (i : TypeInfo) (z : Value) (sz bytes : Nat) (ht : P.underlying t = some (.slice e)) (hi : P.info? e = some i) (hz : i.zero = some z) (hsize : i.size = sz) (hby : i.bytes = bytes) (hzs : z.cells.size = sz) (hsz : 0 < sz)
    (g : Addr) (src : Value) (n : Nat) (xs : List Value) (hr : Rd w src n sz xs) (h63 : n ≤ maxLen) (hbytes : n * bytes ≤ 140737488355328) :
    ∃ v' w', (Builtin.append_ #[t, t] ty #[.slice (some g) 0 0, src]).run P w = .ok v' w' ∧ Own w' w.heap.size v' n sz xs ∧ w.grownBy w' none := by
  obtain ⟨hl, a, c, rfl, hc⟩ := hr
  by_cases h0 : 0 < n
  · obtain ⟨b, off, rfl, hbl, hcell⟩ := hc h0
    obtain ⟨v', w', h1, h2, h3⟩ := run_append_arg_grows (P := P) w t ty e i z sz bytes ht hi hz hsize hby hzs hsz g 0 0 [] (by simp) (by simp) ⟨b, off, none⟩ n c xs hl (fun j u hj => by
      have hj' : j < n * sz := by have := (List.getElem?_eq_some_iff.1 hj).1; omega
      rw [Addr.add_lit, hcell j hj', hj]) (by omega) (by omega) (by rw [Nat.zero_add]; exact hbytes)
    refine ⟨v', w', h1, ?_, h3⟩
    have := own_of_row h2
    simpa using this
  · obtain rfl : n = 0 := by omega
    have hx : xs = [] := List.eq_nil_of_length_eq_zero (by omega)
    subst hx
    refine ⟨.slice (some g) 0 0, w, ?_, ⟨by simp, _, _, rfl, fun h => absurd h (Nat.lt_irrefl 0)⟩, World.grownBy.refl w none⟩
    cases hsize
    have hfc : (Builtin.firstCells i.size 0 (.slice a 0 c)).run P w = .ok #[] w := by
      cases a with
      | none => exact run_firstCells_none w i.size 0 0 c
      | some a => exact run_firstCells_some w i.size 0 a 0 c [] (by simp) (by simp)
    simp [Builtin.append_, run_underlying ht, sizeOf, typeInfo, hi, Builtin.lenOf, Result.andThen, hfc, storeCells]
/-- For a region that draws. -/
theorem step_append_copy {P : Program} {w : World} {ops : Array Oper} {o : Oper} {a : Act} {K : Act → World → Prop} {Q : Exit → Act → World → Prop} {E : Prop} (hgd : o.guard = none) (s x : Operand) (t : TypeId)
    (ho : o.op = .call { callee := .builtin .append, args := #[s, x], argTypes := #[t, t] })
    (e : TypeId) (i : TypeInfo) (z : Value) (sz bytes : Nat) (ht : P.underlying t = some (.slice e)) (hi : P.info? e = some i) (hz : i.zero = some z) (hsize : i.size = sz) (hby : i.bytes = bytes) (hzs : z.cells.size = sz) (hsz : 0 < sz)
    (g : Addr) (hs : a.eval s = .slice (some g) 0 0) (src : Value) (hx : a.eval x = src) (n : Nat) (xs : List Value) (hr : Rd w src n sz xs) (h63 : n ≤ maxLen) (hbytes : n * bytes ≤ 140737488355328)
    (h : ∀ ad cap w', Own w' w.heap.size (.slice ad n cap) n sz xs → Below w.heap.size w w' → K (a.put o.dst (.slice ad n cap)) w') :
    if Region.wanted o (yielded ops a.tmps) = true then Oper.wp P o a w K Q else E := by
  have hw : Region.wanted o (yielded ops a.tmps) = true := by simp [Region.wanted, hgd]
  rw [if_pos hw]
  obtain ⟨v', w', hrun, h1, h2⟩ := run_append_copy (P := P) w t o.type e i z sz bytes ht hi hz hsize hby hzs hsz g src n xs hr h63 hbytes
  obtain ⟨ad, cap, rfl, _⟩ := id h1.2
  unfold Oper.wp
  simp [execOp, ho, resolve, invoke, builtin, hs, hx, hrun, Result.andThen]
  exact h ad cap w' h1 ⟨h2.os, h2.tape, h2.output, h2.size, fun k hk => h2.block k hk (by simp)⟩

theorem keep_alloc {W w1 : World} (hb : Below W.heap.size W w1) (o : Obj) : Below W.heap.size W (w1.alloc o) := hb.alloc hb.size o
theorem keep_next {W w1 w2 : World} (hb : Below W.heap.size W w1) (hn : Below w1.heap.size w1 w2) : Below W.heap.size W w2 := hb.trans (hn.mono hb.size)
theorem keepN {W w1 w2 : World} {n : Nat} {sv dv : Value} (hz : n + 2 ≤ W.heap.size) (hn : Below w1.heap.size w1 w2) (h : w1.cell? ⟨n, 0, none⟩ = some sv ∧ w1.cell? ⟨n, 1, none⟩ = some dv ∧ (w1.cell? ⟨n + 1, 0, none⟩).isSome = true ∧ (w1.cell? ⟨n + 1, 1, none⟩).isSome = true ∧ w1.frozen? ⟨n + 1, 0, none⟩ = false ∧ w1.frozen? ⟨n + 1, 1, none⟩ = false ∧ Below (n + 1) W w1) :
    w2.cell? ⟨n, 0, none⟩ = some sv ∧ w2.cell? ⟨n, 1, none⟩ = some dv ∧ (w2.cell? ⟨n + 1, 0, none⟩).isSome = true ∧ (w2.cell? ⟨n + 1, 1, none⟩).isSome = true ∧ w2.frozen? ⟨n + 1, 0, none⟩ = false ∧ w2.frozen? ⟨n + 1, 1, none⟩ = false ∧ Below (n + 1) W w2 := by
  obtain ⟨h0, h1, h2, h3, h4, h5, h6⟩ := h
  have hs := h6.size
  exact ⟨(hn.cell (p := ⟨n, 0, none⟩) (by simp; omega)).trans h0, (hn.cell (p := ⟨n, 1, none⟩) (by simp; omega)).trans h1, (hn.cell (p := ⟨n + 1, 0, none⟩) (by simp; omega)).symm ▸ h2, (hn.cell (p := ⟨n + 1, 1, none⟩) (by simp; omega)).symm ▸ h3, (hn.frozen (p := ⟨n + 1, 0, none⟩) (by simp; omega)).trans h4, (hn.frozen (p := ⟨n + 1, 1, none⟩) (by simp; omega)).trans h5, h6.trans (hn.mono (by omega))⟩
theorem alloc_below (w : World) (o : Obj) : Below w.heap.size w (w.alloc o) := (Below.refl _ w).alloc (Nat.le_refl _) o
theorem drew_below (w : World) : Below w.heap.size w w.drew := (Below.refl _ w).drew
theorem keepSet {W w1 : World} {n : Nat} {sv dv x y : Value} (h : w1.cell? ⟨n, 0, none⟩ = some sv ∧ w1.cell? ⟨n, 1, none⟩ = some dv ∧ (w1.cell? ⟨n + 1, 0, none⟩).isSome = true ∧ (w1.cell? ⟨n + 1, 1, none⟩).isSome = true ∧ w1.frozen? ⟨n + 1, 0, none⟩ = false ∧ w1.frozen? ⟨n + 1, 1, none⟩ = false ∧ Below (n + 1) W w1) :
    ((w1.setCell ⟨n + 1, 0, none⟩ x).setCell ⟨n + 1, 1, none⟩ y).cell? ⟨n, 0, none⟩ = some sv ∧ ((w1.setCell ⟨n + 1, 0, none⟩ x).setCell ⟨n + 1, 1, none⟩ y).cell? ⟨n, 1, none⟩ = some dv ∧ (((w1.setCell ⟨n + 1, 0, none⟩ x).setCell ⟨n + 1, 1, none⟩ y).cell? ⟨n + 1, 0, none⟩).isSome = true ∧ (((w1.setCell ⟨n + 1, 0, none⟩ x).setCell ⟨n + 1, 1, none⟩ y).cell? ⟨n + 1, 1, none⟩).isSome = true ∧ ((w1.setCell ⟨n + 1, 0, none⟩ x).setCell ⟨n + 1, 1, none⟩ y).frozen? ⟨n + 1, 0, none⟩ = false ∧ ((w1.setCell ⟨n + 1, 0, none⟩ x).setCell ⟨n + 1, 1, none⟩ y).frozen? ⟨n + 1, 1, none⟩ = false ∧ Below (n + 1) W ((w1.setCell ⟨n + 1, 0, none⟩ x).setCell ⟨n + 1, 1, none⟩ y) := by
  obtain ⟨h0, h1, h2, h3, h4, h5, h6⟩ := h
  refine ⟨?_, ?_, ?_, ?_, by simpa using h4, by simpa using h5, (h6.setCell (p := ⟨n + 1, 0, none⟩) (Nat.le_refl _) x).setCell (p := ⟨n + 1, 1, none⟩) (Nat.le_refl _) y⟩
  · rw [World.cell?_setCell_other (h := by simp), World.cell?_setCell_other (h := by simp)]; exact h0
  · rw [World.cell?_setCell_other (h := by simp), World.cell?_setCell_other (h := by simp)]; exact h1
  · rw [World.cell?_setCell_other (h := by simp), World.cell?_setCell_same' w1 _ x h2]; rfl
  · rw [World.cell?_setCell_same' _ _ y (by rw [World.cell?_setCell_other (h := by simp)]; exact h3)]; rfl

end Go.Proofs.YtcckpkcjekcajaaDoor

namespace Go.Proofs.YtcckpkcjekcajaaDoor
open Go.RowKit

/-- An answer over a flash. -/
structure OM where
  fl : FM
  data : ByteArray
  code : Int
def OMade (w : World) (O : OM) (e : Ending) (w' : World) : Prop := ∃ sv dv, e = .returned (.agg #[sv, dv, .string O.data, .int .i64 O.code]) ∧ FOwn w' w.heap.size sv dv O.fl ∧ Below w.heap.size w w'
def noFlash : FM := ⟨[], []⟩
def illOf (code : Int) : OM := ⟨noFlash, ByteArray.empty, code⟩
theorem own_nil (w : World) (lo sz : Nat) (a : Option Addr) (c : Nat) : Own w lo (.slice a 0 c) 0 sz [] := ⟨by simp, _, _, rfl, fun h => absurd h (Nat.lt_irrefl 0)⟩
theorem noFlash_own (w : World) (lo : Nat) : FOwn w lo (.slice none 0 0) (.slice none 0 0) noFlash := ⟨own_nil w lo 1 none 0, own_nil w lo 2 none 0, fun k hk => by simp [blk, noFlash] at hk⟩

def freshOf (n : Int) : FM := if 1 ≤ n ∧ n ≤ 40 then ⟨List.replicate n.toNat ByteArray.empty, []⟩ else noFlash
/-- What is read of a sector that is there. -/
def getOf (F : FM) (at_ : Int) : ByteArray := match F.dir.find? (fun d => d.1 == at_) with
  | some d => d.2
  | none => F.sec.getD at_.toNat ByteArray.empty
theorem get_hit {F : FM} {at_ : Int} {k : Nat} (h : k < F.dir.length) (hb : ∀ j (hj : j < F.dir.length), j < k → F.dir[j].1 ≠ at_) (he : F.dir[k].1 = at_) : getOf F at_ = F.dir[k].2 := by
  have e : F.dir.find? (fun d => d.1 == at_) = some F.dir[k] := List.find?_eq_some_iff_getElem.2 ⟨by simpa using he, k, h, rfl, fun j hj => by simpa using hb j (by omega) hj⟩
  unfold getOf
  rw [e]
theorem get_miss {F : FM} {at_ : Int} (hb : ∀ j (hj : j < F.dir.length), F.dir[j].1 ≠ at_) (h0 : at_.toNat < F.sec.length) : getOf F at_ = F.sec[at_.toNat] := by
  have e : F.dir.find? (fun d => d.1 == at_) = none := List.find?_eq_none.2 fun d hd => by
    obtain ⟨j, hj, rfl⟩ := List.getElem_of_mem hd
    simpa using hb j hj
  unfold getOf
  rw [e]
  simp [h0]
def GetRel (F : FM) (at_ : Int) (W : World) (i : Value) (wr : World) : Prop := ∃ k : Nat, k ≤ F.dir.length ∧ i = .int .i64 k ∧ (∀ j (hj : j < F.dir.length), j < k → F.dir[j].1 ≠ at_) ∧ Still W wr

end Go.Proofs.YtcckpkcjekcajaaDoor

namespace Go.Proofs.YtcckpkcjekcajaaDoor
open Go.RowKit

open Classical in
noncomputable def readOf (F : FM) (at_ : Int) : OM :=
  if Right F then (if 0 ≤ at_ ∧ at_ < F.sec.length then ⟨F, getOf F at_, 0⟩ else illOf 8) else illOf 1

theorem FOwn.other {w : World} {lo : Nat} {sv dv : Value} {F : FM} (h : FOwn w lo sv dv F) (p : Addr) (x : Value) (hp : p.block < lo) : FOwn (w.setCell p x) lo sv dv F :=
  ⟨h.1.other p x (fun k hk => by have := (h.1.blk k hk).1; omega), h.2.1.other p x (fun k hk => by have := (h.2.1.blk k hk).1; omega), h.2.2⟩
/-- The four cells of an answer's block. -/
theorem out_cells {K : Nat} {W w' : World} {T : TypeId} {a b c d : Value} (hb : Below K (W.alloc (.cells #[a, b, c, d] T)) w') (hK : W.heap.size < K) :
    (w'.cell? ⟨W.heap.size, 0, none⟩ = some a ∧ w'.cell? ⟨W.heap.size, 1, none⟩ = some b ∧ w'.cell? ⟨W.heap.size, 2, none⟩ = some c ∧ w'.cell? ⟨W.heap.size, 3, none⟩ = some d) ∧
    w'.frozen? ⟨W.heap.size, 0, none⟩ = false ∧ w'.frozen? ⟨W.heap.size, 1, none⟩ = false ∧ w'.frozen? ⟨W.heap.size, 2, none⟩ = false ∧ w'.frozen? ⟨W.heap.size, 3, none⟩ = false := by
  have hc : ∀ j, w'.cell? ⟨W.heap.size, j, none⟩ = (#[a, b, c, d] : Array Value)[j]? := fun j => (hb.cell (p := ⟨W.heap.size, j, none⟩) hK).trans (World.cell?_alloc_new (w := W) #[a, b, c, d] T j)
  have hf : ∀ j, w'.frozen? ⟨W.heap.size, j, none⟩ = false := fun j => (hb.frozen (p := ⟨W.heap.size, j, none⟩) hK).trans (frozen_of_row _ W.heap.size j _ _ (heap_alloc_new W _))
  exact ⟨⟨hc 0, hc 1, hc 2, hc 3⟩, hf 0, hf 1, hf 2, hf 3⟩

/-- A boxed flash at n, an answer's block behind it. -/
def BoxOut (n : Nat) (sv dv : Value) (w : World) : Prop := w.cell? ⟨n, 0, none⟩ = some sv ∧ w.cell? ⟨n, 1, none⟩ = some dv ∧ (w.cell? ⟨n + 1, 0, none⟩).isSome = true ∧ (w.cell? ⟨n + 1, 1, none⟩).isSome = true ∧ (w.cell? ⟨n + 1, 2, none⟩).isSome = true ∧ (w.cell? ⟨n + 1, 3, none⟩).isSome = true ∧ w.frozen? ⟨n + 1, 0, none⟩ = false ∧ w.frozen? ⟨n + 1, 1, none⟩ = false ∧ w.frozen? ⟨n + 1, 2, none⟩ = false ∧ w.frozen? ⟨n + 1, 3, none⟩ = false
theorem boxOut_new (w : World) (sv dv a b c d : Value) (T U : TypeId) : BoxOut w.heap.size sv dv ((w.alloc (.cells #[sv, dv] T)).alloc (.cells #[a, b, c, d] U)) := by
  have e : (w.alloc (.cells #[sv, dv] T)).heap.size = w.heap.size + 1 := by simp
  obtain ⟨⟨c0, c1, c2, c3⟩, f0, f1, f2, f3⟩ := out_cells (Below.refl ((w.alloc (.cells #[sv, dv] T)).heap.size + 1) ((w.alloc (.cells #[sv, dv] T)).alloc (.cells #[a, b, c, d] U))) (Nat.lt_succ_self _)
  rw [e] at c0 c1 c2 c3 f0 f1 f2 f3
  obtain ⟨k0, k1⟩ := two_cells ((Below.refl (w.heap.size + 1) (w.alloc (.cells #[sv, dv] T))).alloc (by simp) (.cells #[a, b, c, d] U)) (Nat.lt_succ_self _)
  exact ⟨k0, k1, by rw [c0]; rfl, by rw [c1]; rfl, by rw [c2]; rfl, by rw [c3]; rfl, f0, f1, f2, f3⟩
theorem BoxOut.next {n : Nat} {sv dv : Value} {w1 w2 : World} (h : BoxOut n sv dv w1) (hz : n + 2 ≤ w1.heap.size) (hn : Below w1.heap.size w1 w2) : BoxOut n sv dv w2 := by
  obtain ⟨h0, h1, h2, h3, h4, h5, h6, h7, h8, h9⟩ := h
  have c : ∀ k j, k < n + 2 → w2.cell? ⟨k, j, none⟩ = w1.cell? ⟨k, j, none⟩ := fun k j hk => hn.cell (p := ⟨k, j, none⟩) (by simp; omega)
  have f : ∀ k j, k < n + 2 → w2.frozen? ⟨k, j, none⟩ = w1.frozen? ⟨k, j, none⟩ := fun k j hk => hn.frozen (p := ⟨k, j, none⟩) (by simp; omega)
  refine ⟨(c _ _ (by omega)).trans h0, (c _ _ (by omega)).trans h1, ?_, ?_, ?_, ?_, (f _ _ (by omega)).trans h6, (f _ _ (by omega)).trans h7, (f _ _ (by omega)).trans h8, (f _ _ (by omega)).trans h9⟩
  · rw [c _ _ (by omega)]; exact h2
  · rw [c _ _ (by omega)]; exact h3
  · rw [c _ _ (by omega)]; exact h4
  · rw [c _ _ (by omega)]; exact h5
theorem BoxOut.set {n j : Nat} {sv dv x : Value} {w : World} (h : BoxOut n sv dv w) : BoxOut n sv dv (w.setCell ⟨n + 1, j, none⟩ x) := by
  obtain ⟨h0, h1, h2, h3, h4, h5, h6, h7, h8, h9⟩ := h
  have c : ∀ i, (w.cell? ⟨n + 1, i, none⟩).isSome = true → ((w.setCell ⟨n + 1, j, none⟩ x).cell? ⟨n + 1, i, none⟩).isSome = true := fun i hi => by
    by_cases e : i = j
    · subst e; rw [World.cell?_setCell_same' w _ x hi]; rfl
    · rw [World.cell?_setCell_other (h := by simp [e])]; exact hi
  exact ⟨by rw [World.cell?_setCell_other (h := by simp)]; exact h0, by rw [World.cell?_setCell_other (h := by simp)]; exact h1, c 0 h2, c 1 h3, c 2 h4, c 3 h5, by simpa using h6, by simpa using h7, by simpa using h8, by simpa using h9⟩

/-- The same, for a drawn region. -/
def BoxIn (n : Nat) (sv dv : Value) (w0 w : World) : Prop := w.cell? ⟨n, 0, none⟩ = some sv ∧ w.cell? ⟨n, 1, none⟩ = some dv ∧ (w.cell? ⟨n + 1, 0, none⟩).isSome = true ∧ (w.cell? ⟨n + 1, 1, none⟩).isSome = true ∧ (w.cell? ⟨n + 1, 2, none⟩).isSome = true ∧ (w.cell? ⟨n + 1, 3, none⟩).isSome = true ∧ w.frozen? ⟨n + 1, 0, none⟩ = false ∧ w.frozen? ⟨n + 1, 1, none⟩ = false ∧ w.frozen? ⟨n + 1, 2, none⟩ = false ∧ w.frozen? ⟨n + 1, 3, none⟩ = false ∧ Below n w0 w ∧ n + 2 ≤ w.heap.size
theorem BoxIn.box {n : Nat} {sv dv : Value} {w0 w : World} (h : BoxIn n sv dv w0 w) : BoxOut n sv dv w := by
  obtain ⟨h0, h1, h2, h3, h4, h5, h6, h7, h8, h9, -, -⟩ := h
  exact ⟨h0, h1, h2, h3, h4, h5, h6, h7, h8, h9⟩
theorem BoxOut.inn {n : Nat} {sv dv : Value} {w0 w : World} (h : BoxOut n sv dv w) (hb : Below n w0 w) (hz : n + 2 ≤ w.heap.size) : BoxIn n sv dv w0 w := by
  obtain ⟨h0, h1, h2, h3, h4, h5, h6, h7, h8, h9⟩ := h
  exact ⟨h0, h1, h2, h3, h4, h5, h6, h7, h8, h9, hb, hz⟩
theorem BoxIn.below {n : Nat} {sv dv : Value} {w0 w : World} (h : BoxIn n sv dv w0 w) : Below n w0 w := h.2.2.2.2.2.2.2.2.2.2.1
theorem BoxIn.size {n : Nat} {sv dv : Value} {w0 w : World} (h : BoxIn n sv dv w0 w) : n + 2 ≤ w.heap.size := h.2.2.2.2.2.2.2.2.2.2.2
theorem BoxIn.next {n : Nat} {sv dv : Value} {w0 w1 w2 : World} (hn : Below w1.heap.size w1 w2) (h : BoxIn n sv dv w0 w1) : BoxIn n sv dv w0 w2 :=
  (h.box.next h.size hn).inn (h.below.trans (hn.mono (by have := h.size; omega))) (Nat.le_trans h.size hn.size)
theorem BoxIn.set {n j : Nat} {sv dv x : Value} {w0 w : World} (h : BoxIn n sv dv w0 w) : BoxIn n sv dv w0 (w.setCell ⟨n + 1, j, none⟩ x) :=
  h.box.set.inn (h.below.setCell (p := ⟨n + 1, j, none⟩) (by simp) x) (by simpa using h.size)

end Go.Proofs.YtcckpkcjekcajaaDoor

namespace Go.Proofs.YtcckpkcjekcajaaDoor
open Go.RowKit

/-- 'append([]T{}, src...)' outside a drawn region. -/
theorem wpList_append_copy {P : Program} (w : World) {ops : Array Oper} {rest : List Oper} {o : Oper} {a : Act} {Q : Exit → Act → World → Prop} (hg : o.guard = none) (s x : Operand) (t : TypeId)
    (hop : o.op = Op.call { callee := Callee.builtin Builtin.append, args := #[s, x], argTypes := #[t, t] })
    (e : TypeId) (i : TypeInfo) (z : Value) (sz bytes : Nat) (ht : P.underlying t = some (.slice e)) (hi : P.info? e = some i) (hz : i.zero = some z) (hsize : i.size = sz) (hby : i.bytes = bytes) (hzs : z.cells.size = sz) (hsz : 0 < sz)
    (g : Addr) (hs : a.eval s = .slice (some g) 0 0) (src : Value) (hx : a.eval x = src) (n : Nat) (xs : List Value) (hr : Rd w src n sz xs) (h63 : n ≤ maxLen) (hbytes : n * bytes ≤ 140737488355328)
    (hK : ∀ ad cap w', Own w' w.heap.size (.slice ad n cap) n sz xs → Below w.heap.size w w' → wpList P ops Q rest (a.put o.dst (.slice ad n cap)) w') :
    wpList P ops Q (o :: rest) a w := by
  refine wpList_plain hg fun K hK' => ?_
  obtain ⟨v', w', hrun, h1, h2⟩ := run_append_copy (P := P) w t o.type e i z sz bytes ht hi hz hsize hby hzs hsz g src n xs hr h63 hbytes
  obtain ⟨ad, cap, rfl, _⟩ := id h1.2
  unfold Oper.wp
  simp [execOp, hop, resolve, invoke, builtin, hs, hx, hrun, Result.andThen]
  exact hK' _ _ (hK ad cap w' h1 ⟨h2.os, h2.tape, h2.output, h2.size, fun k hk => h2.block k hk (by simp)⟩)

def syncL (sec : List ByteArray) (dir : List D) : List ByteArray := dir.foldl (fun s d => s.set d.1.toNat d.2) sec
theorem syncL_length (dir : List D) : ∀ sec : List ByteArray, (syncL sec dir).length = sec.length := by
  induction dir with
  | nil => intro sec; rfl
  | cons d dir ih => intro sec; exact (ih _).trans (by simp)
theorem syncL_step (sec : List ByteArray) (dir : List D) (k : Nat) (h : k < dir.length) : syncL sec (dir.take (k + 1)) = (syncL sec (dir.take k)).set dir[k].1.toNat dir[k].2 := by
  unfold syncL
  rw [List.take_succ_eq_append_getElem h, List.foldl_append]
  rfl
theorem strs_set (l : List ByteArray) (i : Nat) (x : ByteArray) : strs (l.set i x) = (strs l).set i (.string x) := by simp [strs, List.map_set]
def syncOf (F : FM) : FM := ⟨syncL F.sec F.dir, []⟩
theorem grown_drew {w w' : World} {r : Option Nat} (h : w.grownBy w' r) : w.grownBy w'.drew r := ⟨h.os, h.tape, h.output, h.size, h.block⟩
theorem grown_keeps {w w' : World} {b k : Nat} (h : w.grownBy w' (some b)) (hk : k < w.heap.size) (hne : k ≠ b) (j : Nat) : w'.cell? ⟨k, j, none⟩ = w.cell? ⟨k, j, none⟩ ∧ w'.frozen? ⟨k, j, none⟩ = w.frozen? ⟨k, j, none⟩ := by
  have e := h.block k hk (by simp; omega)
  exact ⟨by simp only [World.cell?, e], by simp only [World.frozen?, e]⟩
def SyncRel (F : FM) (W : World) (lo b off cap : Nat) (i : Value) (wr : World) : Prop :=
  ∃ k : Nat, k ≤ F.dir.length ∧ i = .int .i64 k ∧ Own wr lo (.slice (some ⟨b, off, none⟩) F.sec.length cap) F.sec.length 1 (strs (syncL F.sec (F.dir.take k))) ∧ W.grownBy wr (some b)

end Go.Proofs.YtcckpkcjekcajaaDoor

namespace Go.Proofs.YtcckpkcjekcajaaDoor
open Go.RowKit

theorem four_cells {w w1 : World} {K : Nat} {T : TypeId} {a b c d : Value} (hb : Below K (w.alloc (.cells #[a, b, c, d] T)) w1) (hK : w.heap.size < K) :
    w1.cell? ⟨w.heap.size, 0, none⟩ = some a ∧ w1.cell? ⟨w.heap.size, 1, none⟩ = some b ∧ w1.cell? ⟨w.heap.size, 2, none⟩ = some c ∧ w1.cell? ⟨w.heap.size, 3, none⟩ = some d := (out_cells hb hK).1

end Go.Proofs.YtcckpkcjekcajaaDoor

namespace Go.Proofs.YtcckpkcjekcajaaDoor
open Go.RowKit

/-- What a slice of the call's own may be appended to by. -/
def Grow (w : World) (lo e sz : Nat) (v : Value) (n : Nat) (xs : List Value) : Prop := (0 < n → w.ownsRow lo e sz v n xs) ∧ (n = 0 → ∃ a, v = .slice (some a) 0 0)
theorem Grow.lower {w : World} {lo lo' e sz n : Nat} {v : Value} {xs : List Value} (h : Grow w lo e sz v n xs) (hl : lo' ≤ lo) : Grow w lo' e sz v n xs := by
  refine ⟨fun h0 => ?_, h.2⟩
  obtain ⟨h1, h2 | ⟨g, cap, cur, q1, q2, q3⟩⟩ := h.1 h0
  · exact ⟨h1, .inl h2⟩
  · exact ⟨h1, .inr ⟨g, cap, cur, q1, by omega, q3⟩⟩
theorem Grow.keep {w w' : World} {lo e sz n : Nat} {v : Value} {xs : List Value} (h : Grow w lo e sz v n xs) (hk : ∀ k, lo ≤ k → k < w.heap.size → w'.heap[k]? = w.heap[k]?) : Grow w' lo e sz v n xs := by
  refine ⟨fun h0 => ?_, h.2⟩
  obtain ⟨h1, h2 | ⟨g, cap, cur, q1, q2, q3, q4⟩⟩ := h.1 h0
  · exact ⟨h1, .inl h2⟩
  · exact ⟨h1, .inr ⟨g, cap, cur, q1, q2, (hk g q2 (Array.getElem?_eq_some_iff.1 q3).1).trans q3, q4⟩⟩
theorem Grow.below {w w' : World} {lo e sz n B : Nat} {v : Value} {xs : List Value} (h : Grow w lo e sz v n xs) (hb : Below B w w') (hB : w.heap.size ≤ B) : Grow w' lo e sz v n xs :=
  h.keep fun k _ hk => hb.block k (by omega)
theorem Grow.set {w : World} {lo e sz n b i : Nat} {v x : Value} {xs : List Value} (h : Grow w lo e sz v n xs) (hp : b < lo) : Grow (w.setCell ⟨b, i, none⟩ x) lo e sz v n xs :=
  h.keep fun k h1 h2 => (grown_set (World.grownBy.refl w (some b)) (i := i) (x := x)).block k h2 (by simp; omega)
theorem run_append_copyA {P : Program} (w : World) (t ty e : TypeId) (i : TypeInfo) (z : Value) (sz bytes : Nat) (ht : P.underlying t = some (.slice e)) (hi : P.info? e = some i) (hz : i.zero = some z) (hsize : i.size = sz) (hby : i.bytes = bytes) (hzs : z.cells.size = sz) (hsz : 0 < sz)
    (g : Addr) (src : Value) (n : Nat) (xs : List Value) (hr : Rd w src n sz xs) (h63 : n ≤ maxLen) (hbytes : n * bytes ≤ 140737488355328) :
    ∃ v' w', (Builtin.append_ #[t, t] ty #[.slice (some g) 0 0, src]).run P w = .ok v' w' ∧ Own w' w.heap.size v' n sz xs ∧ Grow w' w.heap.size e sz v' n xs ∧ w.grownBy w' none := by
  obtain ⟨hl, a, c, rfl, hc⟩ := hr
  by_cases h0 : 0 < n
  · obtain ⟨b, off, rfl, hbl, hcell⟩ := hc h0
    obtain ⟨v', w', h1, h2, h3⟩ := run_append_arg_grows (P := P) w t ty e i z sz bytes ht hi hz hsize hby hzs hsz g 0 0 [] (by simp) (by simp) ⟨b, off, none⟩ n c xs hl (fun j u hj => by
      have hj' : j < n * sz := by have := (List.getElem?_eq_some_iff.1 hj).1; omega
      rw [Addr.add_lit, hcell j hj', hj]) (by omega) (by omega) (by rw [Nat.zero_add]; exact hbytes)
    rw [Nat.zero_add, List.nil_append] at h2
    exact ⟨v', w', h1, own_of_row h2, ⟨fun _ => h2, fun e => absurd e (by omega)⟩, h3⟩
  · obtain rfl : n = 0 := by omega
    have hx : xs = [] := List.eq_nil_of_length_eq_zero (by omega)
    subst hx
    refine ⟨.slice (some g) 0 0, w, ?_, ⟨by simp, _, _, rfl, fun h => absurd h (Nat.lt_irrefl 0)⟩, ⟨fun h => absurd h (Nat.lt_irrefl 0), fun _ => ⟨_, rfl⟩⟩, World.grownBy.refl w none⟩
    cases hsize
    have hfc : (Builtin.firstCells i.size 0 (.slice a 0 c)).run P w = .ok #[] w := by
      cases a with
      | none => exact run_firstCells_none w i.size 0 0 c
      | some a => exact run_firstCells_some w i.size 0 a 0 c [] (by simp) (by simp)
    simp [Builtin.append_, run_underlying ht, sizeOf, typeInfo, hi, Builtin.lenOf, Result.andThen, hfc, storeCells]
def FMadeA (e : TypeId) (w : World) (F : FM) (x : Ending) (w' : World) : Prop := ∃ sv dv, x = .returned (.agg #[sv, dv]) ∧ FOwn w' w.heap.size sv dv F ∧ Grow w' w.heap.size e 2 dv F.dir.length (dirs F.dir) ∧ Below w.heap.size w w'
/-- For a region that draws. -/
theorem step_append_copyA {P : Program} {w : World} {ops : Array Oper} {o : Oper} {a : Act} {K : Act → World → Prop} {Q : Exit → Act → World → Prop} {E : Prop} (hgd : o.guard = none) (s x : Operand) (t : TypeId)
    (ho : o.op = .call { callee := .builtin .append, args := #[s, x], argTypes := #[t, t] })
    (e : TypeId) (i : TypeInfo) (z : Value) (sz bytes : Nat) (ht : P.underlying t = some (.slice e)) (hi : P.info? e = some i) (hz : i.zero = some z) (hsize : i.size = sz) (hby : i.bytes = bytes) (hzs : z.cells.size = sz) (hsz : 0 < sz)
    (g : Addr) (hs : a.eval s = .slice (some g) 0 0) (src : Value) (hx : a.eval x = src) (n : Nat) (xs : List Value) (hr : Rd w src n sz xs) (h63 : n ≤ maxLen) (hbytes : n * bytes ≤ 140737488355328)
    (h : ∀ ad cap w', Own w' w.heap.size (.slice ad n cap) n sz xs → Grow w' w.heap.size e sz (.slice ad n cap) n xs → Below w.heap.size w w' → K (a.put o.dst (.slice ad n cap)) w') :
    if Region.wanted o (yielded ops a.tmps) = true then Oper.wp P o a w K Q else E := by
  have hw : Region.wanted o (yielded ops a.tmps) = true := by simp [Region.wanted, hgd]
  rw [if_pos hw]
  obtain ⟨v', w', hrun, h1, h3, h2⟩ := run_append_copyA (P := P) w t o.type e i z sz bytes ht hi hz hsize hby hzs hsz g src n xs hr h63 hbytes
  obtain ⟨ad, cap, rfl, _⟩ := id h1.2
  unfold Oper.wp
  simp [execOp, ho, resolve, invoke, builtin, hs, hx, hrun, Result.andThen]
  exact h ad cap w' h1 h3 ⟨h2.os, h2.tape, h2.output, h2.size, fun k hk => h2.block k hk (by simp)⟩

end Go.Proofs.YtcckpkcjekcajaaDoor

namespace Go.Proofs.YtcckpkcjekcajaaDoor
open Go.RowKit

def putD : List D → Int → ByteArray → List D
  | [], a, x => [(a, x)]
  | d :: l, a, x => if d.1 = a then (d.1, x) :: l else d :: putD l a x
theorem put_hit (a : Int) (x : ByteArray) : ∀ (l : List D) (k : Nat) (h : k < l.length) (_ : ∀ j (hj : j < l.length), j < k → l[j].1 ≠ a) (_ : l[k].1 = a), putD l a x = l.set k (a, x)
  | d :: l, 0, _, _, he => by
    have he' : d.1 = a := he
    simp [putD, he']
  | d :: l, k + 1, h, hb, he => by
    have h0 : d.1 ≠ a := hb 0 (by simp) (by omega)
    have ih := put_hit a x l k (by simpa using h) (fun j hj hjk => hb (j + 1) (by simpa using hj) (by omega)) he
    simp [putD, h0, ih]
theorem put_miss (a : Int) (x : ByteArray) : ∀ (l : List D) (_ : ∀ j (hj : j < l.length), l[j].1 ≠ a), putD l a x = l ++ [(a, x)]
  | [], _ => rfl
  | d :: l, hb => by
    have h0 : d.1 ≠ a := hb 0 (by simp)
    have ih := put_miss a x l (fun j hj => hb (j + 1) (by simpa using hj))
    simp [putD, h0, ih]
theorem dirs_set (a : Int) (x : ByteArray) : ∀ (l : List D) (k : Nat) (h : k < l.length) (_ : l[k].1 = a), dirs (l.set k (a, x)) = (dirs l).set (k * 2 + 1) (.string x)
  | d :: l, 0, _, he => by
    have he' : d.1 = a := he
    simp [dirs, he']
  | d :: l, k + 1, h, he => by
    rw [show (k + 1) * 2 + 1 = k * 2 + 1 + 1 + 1 by omega]
    simp only [List.set_cons_succ, dirs]
    rw [dirs_set a x l k (by simpa using h) he]
theorem dirs_append (a : Int) (x : ByteArray) : ∀ l : List D, dirs (l ++ [(a, x)]) = dirs l ++ [.int .i64 a, .string x]
  | [] => rfl
  | d :: l => by simp only [List.cons_append, dirs]; rw [dirs_append a x l]
def putOf (F : FM) (a : Int) (x : ByteArray) : FM := ⟨F.sec, putD F.dir a x⟩

theorem run_append_grow {P : Program} (w : World) (t ty e : TypeId) (i : TypeInfo) (z : Value) (sz bytes : Nat) (ht : P.underlying t = some (.slice e)) (hi : P.info? e = some i) (hz : i.zero = some z) (hsize : i.size = sz) (hby : i.bytes = bytes) (hzs : z.cells.size = sz) (hsz : 0 < sz)
    (lo : Nat) (v : Value) (n : Nat) (xs : List Value) (hl : xs.length = n * sz) (hg : Grow w lo e sz v n xs) (ad : Addr) (m c : Nat) (news : List Value) (hm : 0 < m) (hn : news.length = m * sz) (hnews : ∀ j u, news[j]? = some u → w.cell? (ad.add j) = some u) (h1 : ∀ u ∈ news, u.oneCell' = true)
    (h63 : n + m ≤ maxLen) (hbytes : (n + m) * bytes ≤ 140737488355328) (hlo : lo ≤ w.heap.size) :
    ∃ v' w', (Builtin.append_ #[t, t] ty #[v, .slice (some ad) m c]).run P w = .ok v' w' ∧ Own w' lo v' (n + m) sz (xs ++ news) ∧ w.grownBy w' (blk v n) ∧ (∀ k, blk v' (n + m) = some k → blk v n = some k ∨ w.heap.size ≤ k) := by
  by_cases h0 : 0 < n
  · obtain ⟨v', w', r1, r2, r3, -, r5⟩ := run_append_own_at (P := P) (w := w) lo t ty e i z sz bytes ht hi hz hsize hby hzs hsz v n xs (hg.1 h0) ad m c news hn hnews h1 h63 hbytes hlo
    have e1 : blk v n = v.ownBlock := by unfold blk; rw [if_neg (by omega)]
    have e2 : blk v' (n + m) = v'.ownBlock := by unfold blk; rw [if_neg (by omega)]
    rw [e1]
    exact ⟨v', w', r1, own_of_row r2, r3, fun k hk => by
      rw [e2] at hk
      rcases r5 with r | r
      · exact .inl (r.symm.trans hk)
      · exact .inr (Nat.le_of_eq (Option.some.inj (r.symm.trans hk)))⟩
  · obtain rfl : n = 0 := by omega
    have hx : xs = [] := List.eq_nil_of_length_eq_zero (by omega)
    subst hx
    obtain ⟨g, rfl⟩ := hg.2 rfl
    obtain ⟨v', w', r1, r2, r3⟩ := run_append_arg_grows (P := P) w t ty e i z sz bytes ht hi hz hsize hby hzs hsz g 0 0 [] (by simp) (by simp) ad m c news hn hnews (by omega) h63 hbytes
    refine ⟨v', w', r1, (own_of_row r2).lower hlo, r3, fun k hk => .inr ((own_of_row r2).blk k hk).1⟩
theorem wpList_append_grow {P : Program} (w : World) {ops : Array Oper} {rest : List Oper} {o : Oper} {a : Act} {Q : Exit → Act → World → Prop} (hgd : o.guard = none) (s x : Operand) (t : TypeId)
    (hop : o.op = Op.call { callee := Callee.builtin Builtin.append, args := #[s, x], argTypes := #[t, t] })
    (e : TypeId) (i : TypeInfo) (z : Value) (sz bytes : Nat) (ht : P.underlying t = some (.slice e)) (hi : P.info? e = some i) (hz : i.zero = some z) (hsize : i.size = sz) (hby : i.bytes = bytes) (hzs : z.cells.size = sz) (hsz : 0 < sz)
    (lo : Nat) (v : Value) (hs : a.eval s = v) (n : Nat) (xs : List Value) (hl : xs.length = n * sz) (hg : Grow w lo e sz v n xs) (ad : Addr) (m c : Nat) (hx : a.eval x = .slice (some ad) m c) (news : List Value) (hm : 0 < m) (hn : news.length = m * sz) (hnews : ∀ j u, news[j]? = some u → w.cell? (ad.add j) = some u) (h1 : ∀ u ∈ news, u.oneCell' = true)
    (h63 : n + m ≤ maxLen) (hbytes : (n + m) * bytes ≤ 140737488355328) (hlo : lo ≤ w.heap.size)
    (hK : ∀ ad' cap w', Own w' lo (.slice ad' (n + m) cap) (n + m) sz (xs ++ news) → w.grownBy w' (blk v n) → (∀ k, blk (.slice ad' (n + m) cap) (n + m) = some k → blk v n = some k ∨ w.heap.size ≤ k) → wpList P ops Q rest (a.put o.dst (.slice ad' (n + m) cap)) w') :
    wpList P ops Q (o :: rest) a w := by
  refine wpList_plain hgd fun K hK' => ?_
  obtain ⟨v', w', hrun, r1, r2, r3⟩ := run_append_grow (P := P) w t o.type e i z sz bytes ht hi hz hsize hby hzs hsz lo v n xs hl hg ad m c news hm hn hnews h1 h63 hbytes hlo
  obtain ⟨ad', cap, rfl, _⟩ := id r1.2
  unfold Oper.wp
  simp [execOp, hop, resolve, invoke, builtin, hs, hx, hrun, Result.andThen]
  exact hK' _ _ (hK ad' cap w' r1 r2 r3)
theorem grown_keep {w w' : World} {r : Option Nat} {k : Nat} (h : w.grownBy w' r) (hk : k < w.heap.size) (hne : r ≠ some k) (j : Nat) : w'.cell? ⟨k, j, none⟩ = w.cell? ⟨k, j, none⟩ ∧ w'.frozen? ⟨k, j, none⟩ = w.frozen? ⟨k, j, none⟩ := by
  have e := h.block k hk (fun q => hne q.symm)
  exact ⟨by simp only [World.cell?, e], by simp only [World.frozen?, e]⟩
def PutRel (F : FM) (at_ : Int) (i : Value) : Prop := ∃ k : Nat, k ≤ F.dir.length ∧ i = .int .i64 k ∧ ∀ j (hj : j < F.dir.length), j < k → F.dir[j].1 ≠ at_

end Go.Proofs.YtcckpkcjekcajaaDoor

namespace Go.Proofs.YtcckpkcjekcajaaDoor
open Go.RowKit

def Gr (w : World) (lo e sz : Nat) (v : Value) (n : Nat) (xs : List Value) : Prop := (0 < n ∧ w.ownsRow lo e sz v n xs) ∨ (n = 0 ∧ xs = [] ∧ (v = .slice none 0 0 ∨ ∃ a, v = .slice (some a) 0 0))
section
variable {w w' : World} {lo lo' e sz n : Nat} {v : Value} {xs : List Value}
theorem ownsRow_keep (h : w.ownsRow lo e sz v n xs) (hk : ∀ k, lo ≤ k → k < w.heap.size → v.ownBlock = some k → w'.heap[k]? = w.heap[k]?) : w'.ownsRow lo e sz v n xs := by
  refine ⟨h.1, ?_⟩
  rcases h.2 with h0 | ⟨g, cap, cur, rfl, h1, h2, h3⟩
  · exact .inl h0
  · exact .inr ⟨g, cap, cur, rfl, h1, (hk g h1 (Array.getElem?_eq_some_iff.1 h2).1 rfl).trans h2, h3⟩
theorem Gr.of_grow (h : Grow w lo e sz v n xs) (hl : xs.length = n * sz) : Gr w lo e sz v n xs := by
  by_cases h0 : 0 < n
  · exact .inl ⟨h0, h.1 h0⟩
  · obtain rfl : n = 0 := by omega
    exact .inr ⟨rfl, List.eq_nil_of_length_eq_zero (by omega), .inr (h.2 rfl)⟩
theorem Gr.keep (h : Gr w lo e sz v n xs) (hk : ∀ k, lo ≤ k → k < w.heap.size → blk v n = some k → w'.heap[k]? = w.heap[k]?) : Gr w' lo e sz v n xs := by
  rcases h with ⟨h0, h⟩ | h
  · exact .inl ⟨h0, ownsRow_keep h fun k h1 h2 h3 => hk k h1 h2 (by unfold blk; rw [if_neg (by omega)]; exact h3)⟩
  · exact .inr h
theorem Gr.below {B : Nat} (h : Gr w lo e sz v n xs) (hb : Below B w w') (hB : w.heap.size ≤ B) : Gr w' lo e sz v n xs := h.keep fun k _ hk _ => hb.block k (by omega)
theorem Gr.two {s d : Option Nat} (h : Gr w lo e sz v n xs) (ht : Two s d w w') (hne : ∀ k, blk v n = some k → some k ≠ s ∧ some k ≠ d) : Gr w' lo e sz v n xs := h.keep fun k _ hk hb => ht.block k hk (hne k hb).1 (hne k hb).2
theorem Gr.lower (h : Gr w lo e sz v n xs) (hl : lo' ≤ lo) : Gr w lo' e sz v n xs := by
  rcases h with ⟨h0, h1, h2 | ⟨g, cap, cur, q1, q2, q3⟩⟩ | h
  · exact .inl ⟨h0, h1, .inl h2⟩
  · exact .inl ⟨h0, h1, .inr ⟨g, cap, cur, q1, by omega, q3⟩⟩
  · exact .inr h
theorem Gr.other (h : Gr w lo e sz v n xs) (p : Addr) (x : Value) (hp : ∀ k, blk v n = some k → k ≠ p.block) : Gr (w.setCell p x) lo e sz v n xs := h.keep fun k _ _ h3 => Below.heap_setCell w p x k (hp k h3)
theorem Gr.low (h : Gr w lo e sz v n xs) (p : Addr) (x : Value) (hp : p.block < lo) : Gr (w.setCell p x) lo e sz v n xs := h.keep fun k h1 _ _ => Below.heap_setCell w p x k (by omega)
theorem Gr.set {g cap : Nat} (h : Gr w lo e sz (.slice (some ⟨g, 0, none⟩) n cap) n xs) (h0 : 0 < n) (j : Nat) (u : Value) : Gr (w.setCell ⟨g, j, none⟩ u) lo e sz (.slice (some ⟨g, 0, none⟩) n cap) n (xs.set j u) := by
  rcases h with ⟨_, h⟩ | ⟨h, _⟩
  · exact .inl ⟨h0, (h.stored j u).1⟩
  · omega
theorem Gr.at0 {b off cap : Nat} (h : Gr w lo e sz (.slice (some ⟨b, off, none⟩) n cap) n xs) (h0 : 0 < n) : off = 0 := by
  rcases h with ⟨_, h⟩ | ⟨h, _⟩
  · rcases h.2 with ⟨_, h1⟩ | ⟨g, cap', cur, h1, _⟩
    · omega
    · simp only [Value.slice.injEq, Option.some.injEq, Addr.mk.injEq, and_true] at h1; exact h1.1.2
  · omega
theorem Gr.nil (w : World) (lo e sz : Nat) : Gr w lo e sz (.slice none 0 0) 0 [] := .inr ⟨rfl, rfl, .inl rfl⟩
theorem Gr.own (h : Gr w lo e sz v n xs) : Own w lo v n sz xs := by
  rcases h with ⟨_, h⟩ | ⟨rfl, rfl, rfl | ⟨a, rfl⟩⟩
  · exact own_of_row h
  · exact own_nil _ _ _ _ _
  · exact own_nil _ _ _ _ _
theorem run_append_gr {P : Program} (t ty : TypeId) (i : TypeInfo) (z : Value) (bytes : Nat) (ht : P.underlying t = some (.slice e)) (hi : P.info? e = some i) (hz : i.zero = some z) (hsize : i.size = sz) (hby : i.bytes = bytes) (hzs : z.cells.size = sz) (hsz : 0 < sz)
    (hl : xs.length = n * sz) (hg : Gr w lo e sz v n xs) (ad : Addr) (m c : Nat) (news : List Value) (hm : 0 < m) (hn : news.length = m * sz) (hnews : ∀ j u, news[j]? = some u → w.cell? (ad.add j) = some u) (h1 : ∀ u ∈ news, u.oneCell' = true)
    (h63 : n + m ≤ maxLen) (hbytes : (n + m) * bytes ≤ 140737488355328) (hlo : lo ≤ w.heap.size) :
    ∃ g cap w', (Builtin.append_ #[t, t] ty #[v, .slice (some ad) m c]).run P w = .ok (.slice (some ⟨g, 0, none⟩) (n + m) cap) w' ∧ Gr w' lo e sz (.slice (some ⟨g, 0, none⟩) (n + m) cap) (n + m) (xs ++ news) ∧ w.grownBy w' (blk v n) ∧ (blk v n = some g ∨ w.heap.size ≤ g) := by
  rcases hg with ⟨h0, hg⟩ | ⟨rfl, rfl, rfl | ⟨a, rfl⟩⟩
  · obtain ⟨v', w', r1, r2, r3, -, r5⟩ := run_append_own_at (P := P) (w := w) lo t ty e i z sz bytes ht hi hz hsize hby hzs hsz v n xs hg ad m c news hn hnews h1 h63 hbytes hlo
    obtain ⟨g, cap, rfl, _, _⟩ := r2.form (by omega)
    have e1 : blk v n = v.ownBlock := by unfold blk; rw [if_neg (by omega)]
    refine ⟨g, cap, w', r1, .inl ⟨by omega, r2⟩, by rw [e1]; exact r3, ?_⟩
    rcases r5 with r | r
    · exact .inl (by rw [e1, ← r]; rfl)
    · have := Option.some.inj (show some g = some w.heap.size from r)
      exact .inr (by omega)
  · obtain ⟨v', w', r1, r2, r3, -, r5⟩ := run_append_own_at (P := P) (w := w) lo t ty e i z sz bytes ht hi hz hsize hby hzs hsz (.slice none 0 0) 0 [] ⟨by simp, .inl ⟨rfl, rfl⟩⟩ ad m c news hn hnews h1 h63 hbytes hlo
    obtain ⟨g, cap, rfl, _, _⟩ := r2.form (by omega)
    refine ⟨g, cap, w', r1, .inl ⟨by omega, r2⟩, r3, .inr ?_⟩
    rcases r5 with r | r
    · cases r
    · have := Option.some.inj (show some g = some w.heap.size from r)
      omega
  · obtain ⟨v', w', r1, r2, r3⟩ := run_append_arg_grows (P := P) w t ty e i z sz bytes ht hi hz hsize hby hzs hsz a 0 0 [] (by simp) (by simp) ad m c news hn hnews (by omega) h63 hbytes
    obtain ⟨g, cap, rfl, hg1, _⟩ := r2.form (by omega)
    exact ⟨g, cap, w', r1, (show Gr w' w.heap.size e sz _ _ _ from .inl ⟨by omega, r2⟩).lower hlo, r3, .inr hg1⟩
theorem wpList_append_gr {P : Program} {ops : Array Oper} {rest : List Oper} {o : Oper} {a : Act} {Q : Exit → Act → World → Prop} (hgd : o.guard = none) (s x : Operand) (t : TypeId)
    (hop : o.op = Op.call { callee := Callee.builtin Builtin.append, args := #[s, x], argTypes := #[t, t] })
    (i : TypeInfo) (z : Value) (bytes : Nat) (ht : P.underlying t = some (.slice e)) (hi : P.info? e = some i) (hz : i.zero = some z) (hsize : i.size = sz) (hby : i.bytes = bytes) (hzs : z.cells.size = sz) (hsz : 0 < sz)
    (hs : a.eval s = v) (hl : xs.length = n * sz) (hg : Gr w lo e sz v n xs) (ad : Addr) (m c : Nat) (hx : a.eval x = .slice (some ad) m c) (news : List Value) (hm : 0 < m) (hn : news.length = m * sz) (hnews : ∀ j u, news[j]? = some u → w.cell? (ad.add j) = some u) (h1 : ∀ u ∈ news, u.oneCell' = true)
    (h63 : n + m ≤ maxLen) (hbytes : (n + m) * bytes ≤ 140737488355328) (hlo : lo ≤ w.heap.size)
    (hK : ∀ g cap w', Gr w' lo e sz (.slice (some ⟨g, 0, none⟩) (n + m) cap) (n + m) (xs ++ news) → w.grownBy w' (blk v n) → (blk v n = some g ∨ w.heap.size ≤ g) → wpList P ops Q rest (a.put o.dst (.slice (some ⟨g, 0, none⟩) (n + m) cap)) w') :
    wpList P ops Q (o :: rest) a w := by
  refine wpList_plain hgd fun K hK' => ?_
  obtain ⟨g, cap, w', hrun, r1, r2, r3⟩ := run_append_gr (P := P) t o.type i z bytes ht hi hz hsize hby hzs hsz hl hg ad m c news hm hn hnews h1 h63 hbytes hlo
  unfold Oper.wp
  simp [execOp, hop, resolve, invoke, builtin, hs, hx, hrun, Result.andThen]
  exact hK' _ _ (hK g cap w' r1 r2 r3)
theorem step_append_gr {P : Program} {ops : Array Oper} {o : Oper} {a : Act} {K : Act → World → Prop} {Q : Exit → Act → World → Prop} {E : Prop} (hgd : o.guard = none) (s x : Operand) (t : TypeId)
    (hop : o.op = Op.call { callee := Callee.builtin Builtin.append, args := #[s, x], argTypes := #[t, t] })
    (i : TypeInfo) (z : Value) (bytes : Nat) (ht : P.underlying t = some (.slice e)) (hi : P.info? e = some i) (hz : i.zero = some z) (hsize : i.size = sz) (hby : i.bytes = bytes) (hzs : z.cells.size = sz) (hsz : 0 < sz)
    (hs : a.eval s = v) (hl : xs.length = n * sz) (hg : Gr w lo e sz v n xs) (ad : Addr) (m c : Nat) (hx : a.eval x = .slice (some ad) m c) (news : List Value) (hm : 0 < m) (hn : news.length = m * sz) (hnews : ∀ j u, news[j]? = some u → w.cell? (ad.add j) = some u) (h1 : ∀ u ∈ news, u.oneCell' = true)
    (h63 : n + m ≤ maxLen) (hbytes : (n + m) * bytes ≤ 140737488355328) (hlo : lo ≤ w.heap.size)
    (hK : ∀ g cap w', Gr w' lo e sz (.slice (some ⟨g, 0, none⟩) (n + m) cap) (n + m) (xs ++ news) → w.grownBy w' (blk v n) → (blk v n = some g ∨ w.heap.size ≤ g) → K (a.put o.dst (.slice (some ⟨g, 0, none⟩) (n + m) cap)) w') :
    if Region.wanted o (yielded ops a.tmps) = true then Oper.wp P o a w K Q else E := by
  have hw : Region.wanted o (yielded ops a.tmps) = true := by simp [Region.wanted, hgd]
  rw [if_pos hw]
  obtain ⟨g, cap, w', hrun, r1, r2, r3⟩ := run_append_gr (P := P) t o.type i z bytes ht hi hz hsize hby hzs hsz hl hg ad m c news hm hn hnews h1 h63 hbytes hlo
  unfold Oper.wp
  simp [execOp, hop, resolve, invoke, builtin, hs, hx, hrun, Result.andThen]
  exact hK g cap w' r1 r2 r3
end
end Go.Proofs.YtcckpkcjekcajaaDoor
