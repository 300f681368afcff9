/- The drawn lists of steps: spec.l01Src.l06Steps, l06Odd, spec.DrawStepsCode. -/
import Derived.Test.YtcpblmpapkhppaaBDraw3
import Derived.Test.YtcpblmpapkhppaaBSCode
import Derived.Test.YtcpblmpapkhppaaBWrites
namespace Go.Proofs.Ytcpblmpapkhppaa
open Go.RowKit

theorem Gr.kept {w w' : World} {lo e sz n b : Nat} {v : Value} {xs : List Value} (h : Gr w lo e sz v n xs) (hk : Kept b w w') (hb : b < lo) : Gr w' lo e sz v n xs :=
  h.keep fun k h1 hk' _ => hk.block k hk' (fun e => by have := Option.some.inj e; omega)
/-- A list of steps that has been drawn: of the call's own since w; the source lies in block b. -/
structure LSt (b : Nat) (a : Option Addr) (len cap : Nat) (w : World) (l : List stpT) (v : Value) (wr : World) : Prop where
  gr : Gr wr w.heap.size 40 4 v l.length (stpCs l)
  src : Src wr b a len cap
  kept : Kept b w wr
  small : ∀ d ∈ l, d.2.2.2.size ≤ 10
section
variable {b : Nat} {a : Option Addr} {len cap : Nat} {w : World} {l : List stpT} {v : Value} {w1 w2 : World}
theorem LSt.keep (h : LSt b a len cap w l v w1) (hk : Kept b w1 w2) (hs : Src w2 b a len cap) (hb : b < w.heap.size) : LSt b a len cap w l v w2 :=
  ⟨h.gr.kept hk hb, hs, h.kept.trans hk, h.small⟩
theorem LSt.next (h : LSt b a len cap w l v w1) (hb2 : Below w1.heap.size w1 w2) (hb : b < w.heap.size) : LSt b a len cap w l v w2 :=
  h.keep (below_kept hb2) (h.src.below hb2) hb
theorem LSt.grow (h : LSt b a len cap w l v w1) (hb : b < w.heap.size) (x : stpT) (hx : x.2.2.2.size ≤ 10) (g c : Nat)
    (hg : Gr w2 w.heap.size 40 4 (.slice (some ⟨g, 0, none⟩) (l.length + 1) c) (l.length + 1) (stpCs l ++ [.int .i64 x.1, .int .i64 x.2.1, .int .i64 x.2.2.1, .string x.2.2.2])) (hgr : w1.grownBy w2 (blk v l.length)) : LSt b a len cap w (l ++ [x]) (.slice (some ⟨g, 0, none⟩) (l ++ [x]).length c) w2 := by
  have hlo : ∀ k, blk v l.length = some k → w.heap.size ≤ k := fun k hk => (h.gr.own.blk k hk).1
  refine ⟨?_, h.src.grown hgr (fun e => by have := hlo b e; omega), ⟨hgr.os.trans h.kept.os, hgr.tape.trans h.kept.tape, hgr.output.trans h.kept.output, Nat.le_trans h.kept.size hgr.size, fun k hk hne => ?_⟩, ?_⟩
  · rw [List.length_append, stpCs_snoc]; exact hg
  · rw [hgr.block k (Nat.lt_of_lt_of_le hk h.kept.size) (fun e => by have := hlo k e.symm; omega)]
    exact h.kept.block k hk hne
  · intro d hd
    rcases List.mem_append.1 hd with h' | h'
    · exact h.small d h'
    · rw [List.mem_singleton.1 h']; exact hx
theorem LSt.from (h : LSt b a len cap w1 l v w2) (hk : Kept b w w1) : LSt b a len cap w l v w2 := ⟨h.gr.lower hk.size, h.src, hk.trans h.kept, h.small⟩
/-- A box that is no part of the list, written whole. -/
theorem LSt.four (h : LSt b a len cap w l v w1) {n : Nat} (hn : w.heap.size ≤ n) (hb : b < w.heap.size) (hl : ∀ k, blk v l.length = some k → k ≠ n) (x y z u : Value) : LSt b a len cap w l v ((((w1.setCell ⟨n, 0, none⟩ x).setCell ⟨n, 1, none⟩ y).setCell ⟨n, 2, none⟩ z).setCell ⟨n, 3, none⟩ u) :=
  ⟨(((h.gr.other ⟨n, 0, none⟩ x hl).other ⟨n, 1, none⟩ y hl).other ⟨n, 2, none⟩ z hl).other ⟨n, 3, none⟩ u hl, h.src.four (by omega) _ _ _ _, h.kept.four hn _ _ _ _, h.small⟩
end
/-- What a draw of a list of steps gives: no more than m. -/
def DrawnSt (b : Nat) (a : Option Addr) (len cap : Nat) (m : Nat) (w : World) (e : Ending) (w' : World) : Prop :=
  ∃ l v, l.length ≤ m ∧ e = .returned v ∧ LSt b a len cap w l v w'
theorem row_kept {w w1 : World} {T : TypeId} {x y z u : Value} (n : Nat) (hn : w.heap.size = n) (hb : Below (w.alloc (.cells #[x, y, z, u] T)).heap.size (w.alloc (.cells #[x, y, z, u] T)) w1) :
    ∀ j v, [x, y, z, u][j]? = some v → w1.cell? ((⟨n, 0, none⟩ : Addr).add j) = some v := by
  subst hn
  intro j v hj
  rw [Addr.add_lit]
  refine (hb.cell (p := ⟨w.heap.size, 0 + j, none⟩) (by simp)).trans ?_
  have := four_new w x y z u T j v hj
  rw [Addr.add_lit] at this
  exact this
theorem undrew {W w5 : World} (h : Below W.drew.heap.size W.drew w5) : Below W.heap.size W w5 := (Below.refl _ W).drew.trans h
theorem sizeKey (W : World) {V w5 : World} (_h : Below V.heap.size V w5) (k : Below W.heap.size W V) : W.heap.size ≤ V.heap.size := k.size
theorem one4 {x y z : Int} {u : ByteArray} : ∀ v ∈ [Value.int .i64 x, .int .i64 y, .int .i64 z, .string u], v.oneCell' = true := by
  intro v hv; simp at hv; rcases hv with rfl | rfl | rfl | rfl <;> rfl
theorem rd_snoc {w : World} {v : Value} {l : List stpT} {x : stpT} (h : Rd w v (l.length + 1) 4 (stpCs l ++ [.int .i64 x.1, .int .i64 x.2.1, .int .i64 x.2.2.1, .string x.2.2.2])) : Rd w v (l ++ [x]).length 4 (stpCs (l ++ [x])) := by
  rw [List.length_append, stpCs_snoc]; exact h
def StCut (W : World) (c : Value) (wx : World) : Prop := ∃ bb : Bool, c = .bool bb ∧ Below W.heap.size W wx
def StsRel (b : Nat) (a : Option Addr) (len cap : Nat) (w : World) (v y i : Value) (wr : World) : Prop :=
  ∃ (k : Nat) (l : List stpT) (q : Int), i = .int .i64 (k : Int) ∧ y = .int .i64 q ∧ l.length + k ≤ 6 ∧ 0 ≤ q ∧ q + 3 * k ≤ 18 ∧ LSt b a len cap w l v wr
def OddRel (b : Nat) (a : Option Addr) (len cap : Nat) (w : World) (v i : Value) (wr : World) : Prop :=
  ∃ (l : List stpT), i = .int .i64 (l.length : Int) ∧ l.length ≤ 21 ∧ LSt b a len cap w l v wr


end Go.Proofs.Ytcpblmpapkhppaa
