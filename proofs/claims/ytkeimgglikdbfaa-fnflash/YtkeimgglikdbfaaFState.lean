/- The state of the draw of a flash. -/
import Derived.Test.YtkeimgglikdbfaaFSteps
namespace Go.Proofs.Ytkeimgglikdbfaa
open Go.RowKit

structure DF (F : FM) : Prop where
  most : F.sec.length ≤ 41
  dirty : F.dir.length ≤ 42
  sec : ∀ s ∈ F.sec, s.size ≤ 97
  dir : ∀ d ∈ F.dir, d.2.size ≤ 97
theorem Bd.df {F : FM} (h : Bd F) : DF F := ⟨by have := h.most; omega, by have := h.dirty; omega, h.sec, h.dir⟩
def DrawnF (b : Nat) (a : Option Addr) (len cap : Nat) (w : World) (e : Ending) (w' : World) : Prop :=
  ∃ F sv dv, DF F ∧ e = .returned (.agg #[sv, dv]) ∧ FG w' w.heap.size sv dv F ∧ Src w' b a len cap ∧ Kept b w w'
/-- The state of the loop: f's block is m, the answer's block w.heap.size. -/
structure FSt (b : Nat) (a : Option Addr) (len cap : Nat) (w : World) (m : Nat) (F : FM) (sv dv : Value) (wr : World) : Prop where
  ans : Bx wr w.heap.size 26 #[.slice none 0 0, .slice none 0 0]
  box : Bx wr m 26 #[sv, dv]
  fg : FG wr (w.heap.size + 1) sv dv F
  ap : Apart sv dv F m
  src : Src wr b a len cap
  kept : Kept b w wr
def FlashRel (b : Nat) (a : Option Addr) (len cap : Nat) (w : World) (m : Nat) (i : Value) (wr : World) : Prop :=
  ∃ (n : Nat) (F : FM) (sv dv : Value), n ≤ 8 ∧ i = .int .i64 (n : Int) ∧ Bd F ∧ FSt b a len cap w m F sv dv wr
theorem FSt.keep {b : Nat} {a : Option Addr} {len cap : Nat} {w : World} {m : Nat} {F : FM} {sv dv : Value} {w1 w2 : World} (h : FSt b a len cap w m F sv dv w1) (hk : Kept b w1 w2) (hs : Src w2 b a len cap) (hb : b < w.heap.size) (hm : w.heap.size < m) : FSt b a len cap w m F sv dv w2 :=
  ⟨h.ans.kept hk (by omega), h.box.kept hk (by omega), h.fg.kept hk (by omega), h.ap, hs, h.kept.trans hk⟩
theorem FSt.next {b : Nat} {a : Option Addr} {len cap : Nat} {w : World} {m : Nat} {F : FM} {sv dv : Value} {w1 w2 : World} (h : FSt b a len cap w m F sv dv w1) (hb2 : Below w1.heap.size w1 w2) (hb : b < w.heap.size) (hm : w.heap.size < m) : FSt b a len cap w m F sv dv w2 :=
  h.keep (below_kept hb2) (h.src.below hb2) hb hm

theorem FSt.store {b : Nat} {a : Option Addr} {len cap : Nat} {w : World} {m : Nat} {F : FM} {sv dv : Value} {w1 : World} (h : FSt b a len cap w m F sv dv w1) {lo : Nat} {G : FM} {su du : Value} (hg : FG w1 lo su du G) (h1 : m < lo) (hb : b < w.heap.size) (hm : w.heap.size < m) : FSt b a len cap w m G su du ((w1.setCell ⟨m, 0, none⟩ su).setCell ⟨m, 1, none⟩ du) := by
  have ap : Apart su du G m := fun k hk => by have := (hg.in k hk).1; omega
  refine ⟨(h.ans.other _ _ (by show _ ≠ m; omega)).other _ _ (by show _ ≠ m; omega), (h.box.set (j := 0) su).set (j := 1) du, ((hg.lower (by omega)).apart ⟨m, 0, none⟩ su ap).apart ⟨m, 1, none⟩ du ap, ap, (h.src.other _ _ (by show b ≠ m; omega)).other _ _ (by show b ≠ m; omega), (h.kept.high ⟨m, 0, none⟩ su (by show _ ≤ m; omega)).high ⟨m, 1, none⟩ du (by show _ ≤ m; omega)⟩
theorem Bx.set4o {w : World} {p q : Nat} {T : TypeId} {vs : Array Value} (h : Bx w p T vs) (hn : p ≠ q) (x y z u : Value) : Bx (Go.Proofs.Ytkeimgglikdbfaa.set4 w q x y z u) p T vs := (((h.other ⟨q, 0, none⟩ x hn).other ⟨q, 1, none⟩ y hn).other ⟨q, 2, none⟩ z hn).other ⟨q, 3, none⟩ u hn
theorem FSt.set4 {b : Nat} {a : Option Addr} {len cap : Nat} {w : World} {m : Nat} {F : FM} {sv dv : Value} {w1 : World} (h : FSt b a len cap w m F sv dv w1) {p : Nat} (hp : m < p) (ap : Apart sv dv F p) (hb : b < w.heap.size) (hm : w.heap.size < m) (x y z u : Value) : FSt b a len cap w m F sv dv (Go.Proofs.Ytkeimgglikdbfaa.set4 w1 p x y z u) :=
  ⟨h.ans.set4o (by omega) _ _ _ _, h.box.set4o (by omega) _ _ _ _, h.fg.set4 ap _ _ _ _, h.ap, h.src.set4 (by omega) _ _ _ _, h.kept.set4 (by omega) _ _ _ _⟩
theorem FSt.answer {b : Nat} {a : Option Addr} {len cap : Nat} {w : World} {m : Nat} {F : FM} {sv dv : Value} {w1 : World} (h : FSt b a len cap w m F sv dv w1) (hd : DF F) (hb : b < w.heap.size) :
    (Bx ((w1.setCell ⟨w.heap.size, 0, none⟩ sv).setCell ⟨w.heap.size, 1, none⟩ dv) w.heap.size 26 #[sv, dv]) ∧ DrawnF b a len cap w (.returned (.agg #[sv, dv])) ((w1.setCell ⟨w.heap.size, 0, none⟩ sv).setCell ⟨w.heap.size, 1, none⟩ dv) :=
  ⟨(h.ans.set (j := 0) sv).set (j := 1) dv, F, sv, dv, hd, rfl, ((h.fg.other ⟨w.heap.size, 0, none⟩ sv (Nat.lt_succ_self _)).other ⟨w.heap.size, 1, none⟩ dv (Nat.lt_succ_self _)).lower (Nat.le_succ _), (h.src.other _ _ (by show b ≠ w.heap.size; omega)).other _ _ (by show b ≠ w.heap.size; omega), (h.kept.high ⟨w.heap.size, 0, none⟩ sv (Nat.le_refl _)).high ⟨w.heap.size, 1, none⟩ dv (Nat.le_refl _)⟩
/-- Sectors = nil. -/
theorem FSt.bare {b : Nat} {a : Option Addr} {len cap : Nat} {w : World} {m : Nat} {F : FM} {sv dv : Value} {w1 : World} (h : FSt b a len cap w m F sv dv w1) (hb : b < w.heap.size) (hm : w.heap.size < m) : FSt b a len cap w m ⟨[], F.dir⟩ (.slice none 0 0) dv (w1.setCell ⟨m, 0, none⟩ (.slice none 0 0)) := by
  have ap : ∀ k, blk dv F.dir.length = some k → k ≠ m := fun k hk => h.ap k (.inr hk)
  refine ⟨h.ans.other _ _ (by show _ ≠ m; omega), h.box.set (j := 0) _, ⟨own_nil _ _ _ _ _, h.fg.2.1.other ⟨m, 0, none⟩ _ ap, fun k hk => by simp [blk] at hk, Gr.nil _ _ _ _, h.fg.2.2.2.2.other ⟨m, 0, none⟩ _ ap⟩, fun k hk => ?_, h.src.other _ _ (by show b ≠ m; omega), h.kept.high ⟨m, 0, none⟩ _ (by show _ ≤ m; omega)⟩
  rcases hk with hk | hk
  · simp [blk] at hk
  · exact ap k hk
end Go.Proofs.Ytkeimgglikdbfaa
