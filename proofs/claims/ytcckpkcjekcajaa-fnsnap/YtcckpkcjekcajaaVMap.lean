/- A map from numbers to numbers of the call's own, as a function. -/
import Derived.Test.YtcckpkcjekcajaaInts
import Derived.Test.YtcckpkcjekcajaaM2
import Derived.Test.YtcckpkcjekcajaaLBox
import Derived.Maps.OwnSet
import Derived.Maps.OwnOps
import Derived.Maps.StringElems
namespace Go.Proofs.Ytcckpkcjekcajaa
open Go.RowKit Go.Maps

theorem Try.keyI : Keyed Try.prog 2 := int_keyed Try.underlying2
theorem Try.zeroI (w : World) : (zeroValue 2).run Try.prog w = .ok (.int .i64 0) w := by kernel_rfl
/-- Block b is a map of at most N entries that holds m x at x. -/
def MapI (w : World) (b N : Nat) (m : Int → Option Int) : Prop :=
  ∃ D : DataW Unit, w.ownsMap Try.prog 2 (plainElem Try.prog 2) b N D ∧ (∀ x, Maps.has D (.int .i64 x) = (m x).isSome) ∧ ∀ x s, m x = some s → D.atKey (.int .i64 x) (.lit (.int .i64 0)) = .lit (.int .i64 s)
def updI (m : Int → Option Int) (x : Int) (s : Int) : Int → Option Int := fun y => if y = x then some s else m y
theorem MapI.lt {w : World} {b N : Nat} {m : Int → Option Int} (h : MapI w b N m) : b < w.heap.size := by obtain ⟨D, h1, _⟩ := h; exact h1.lt
theorem MapI.keep {w w' : World} {b N : Nat} {m : Int → Option Int} (h : MapI w b N m) (hk : w'.heap[b]? = w.heap[b]?) : MapI w' b N m := by
  obtain ⟨D, ⟨es, clock, h1, h2⟩, h3⟩ := h
  exact ⟨D, ⟨es, clock, hk.trans h1, h2⟩, h3⟩
theorem MapI.below {w w' : World} {B b N : Nat} {m : Int → Option Int} (h : MapI w b N m) (hb : Below B w w') (hB : w.heap.size ≤ B) : MapI w' b N m := h.keep (hb.block b (Nat.lt_of_lt_of_le h.lt hB))
theorem MapI.mono {w : World} {b N N' : Nat} {m : Int → Option Int} (h : MapI w b N m) (hn : N ≤ N') : MapI w b N' m := by
  obtain ⟨D, h1, h2⟩ := h; exact ⟨D, h1.mono hn, h2⟩
theorem MapI.to {w : World} {b N : Nat} {m m' : Int → Option Int} (h : MapI w b N m) (he : m = m') : MapI w b N m' := he ▸ h
theorem mapI_new (w : World) : MapI (w.alloc (.map #[] 0)) w.heap.size 0 (fun _ => none) :=
  ⟨.map [], World.ownsMap_made w _ _ _, fun x => by rw [Maps.has_eq]; rfl, fun x s e => by cases e⟩
theorem keyI_i64 (x : Int) (h0 : -9223372036854775808 ≤ x) (h1 : x ≤ 9223372036854775807) : keyOf Try.prog 2 (.int .i64 x) = some (.int .i64 x) :=
  Maps.keyOf_int_mk Try.underlying2 (WalkArith.wf_i64 ⟨by omega, by omega⟩)
theorem lookI_yes {w : World} {b N : Nat} {m : Int → Option Int} (h : MapI w b N m) (x s : Int) (hx : m x = some s) (h0 : -9223372036854775808 ≤ x) (h1 : x ≤ 9223372036854775807) :
    (Instr.lookup 67 (.map (some b)) (.int .i64 x) true).run Try.prog w = .ok (.tuple #[.int .i64 s, .bool true]) w := by
  obtain ⟨D, ho, hh, ha⟩ := h
  have hz : plainElem (H := Unit) Try.prog 2 (.int .i64 0) = some (.lit (.int .i64 0), []) := plainElem_int Try.underlying2 (by decide)
  have hat := ha x s hx
  have hhas := hh x
  rw [hx] at hhas
  obtain ⟨v, ps, hrun, hv⟩ := ho.look_ok Try.keyI Try.underlying67 (Try.zeroI w) hz (keyI_i64 x h0 h1)
  rw [hat] at hv
  obtain ⟨s', rfl, hz', _⟩ := plainElem_int_inv Try.underlying2 hv
  simp only [Prod.mk.injEq, DataW.lit.injEq, Lit.int.injEq] at hz'
  obtain ⟨⟨-, rfl⟩, -⟩ := hz'
  rw [hrun, hhas]; rfl
theorem lookI_no {w : World} {b N : Nat} {m : Int → Option Int} (h : MapI w b N m) (x : Int) (hx : m x = none) (h0 : -9223372036854775808 ≤ x) (h1 : x ≤ 9223372036854775807) :
    (Instr.lookup 67 (.map (some b)) (.int .i64 x) true).run Try.prog w = .ok (.tuple #[.int .i64 0, .bool false]) w := by
  obtain ⟨D, ho, hh, ha⟩ := h
  have hz : plainElem (H := Unit) Try.prog 2 (.int .i64 0) = some (.lit (.int .i64 0), []) := plainElem_int Try.underlying2 (by decide)
  have hhas := hh x
  rw [hx] at hhas
  obtain ⟨v, ps, hrun, hv⟩ := ho.look_ok Try.keyI Try.underlying67 (Try.zeroI w) hz (keyI_i64 x h0 h1)
  rw [atKey_of_not_has hhas] at hv
  obtain ⟨s', rfl, hz', _⟩ := plainElem_int_inv Try.underlying2 hv
  simp only [Prod.mk.injEq, DataW.lit.injEq, Lit.int.injEq] at hz'
  obtain ⟨⟨-, rfl⟩, -⟩ := hz'
  rw [hrun, hhas]; rfl
theorem litI_ne {x y : Int} (h : y ≠ x) : (Lit.int .i64 y) ≠ .int .i64 x := fun e => h (by injection e)
theorem runI_upd {w : World} {b N : Nat} {m : Int → Option Int} (h : MapI w b N m) (x s : Int) (h0 : -9223372036854775808 ≤ x) (h1 : x ≤ 9223372036854775807) (s0 : -9223372036854775808 ≤ s) (s1 : s ≤ 9223372036854775807) (hN : N < maxLen) :
    ∃ w', (Instr.mapUpdate 67 (.map (some b)) (.int .i64 x) (.int .i64 s)).run Try.prog w = .ok () w' ∧ MapI w' b (N + 1) (updI m x s) ∧ w.grownBy w' (some b) := by
  obtain ⟨D, ho, hh, ha⟩ := h
  have hkey := keyI_i64 x h0 h1
  obtain ⟨w', r1, r2, r3⟩ := ho.update Try.keyI Try.underlying67 hN hkey (plainElem_int (H := Unit) Try.underlying2 (WalkArith.wf_i64 (n := s) ⟨by omega, by omega⟩))
  have hm : IsMap D := ho.isMap
  have hk : WideAt.IsKeyLit (Lit.int .i64 x) := trivial
  refine ⟨w', r1, ⟨_, r2, fun y => ?_, fun y t hy => ?_⟩, r3⟩
  · unfold updI
    by_cases e : y = x
    · subst e; rw [has_put_same hm hk]; simp
    · rw [has_put_other (litI_ne e), if_neg e]; exact hh y
  · unfold updI at hy
    by_cases e : y = x
    · subst e; rw [if_pos rfl] at hy; cases hy; rw [atKey_put_same hm hk]
    · rw [if_neg e] at hy; rw [atKey_put_other (litI_ne e)]; exact ha y t hy
theorem wpList_updI (w : World) {ops : Array Oper} {rest : List Oper} {o : Oper} {a : Act} {Q : Exit → Act → World → Prop} (hg : o.guard = none) (mo xo vo : Operand) (hop : o.op = Op.mapUpdate 67 mo xo vo)
    (b N : Nat) (m : Int → Option Int) (hm : a.eval mo = .map (some b)) (h : MapI w b N m) (x : Int) (hx : a.eval xo = .int .i64 x) (s : Int) (hv : a.eval vo = .int .i64 s) (h0 : -9223372036854775808 ≤ x) (h1 : x ≤ 9223372036854775807) (s0 : -9223372036854775808 ≤ s) (s1 : s ≤ 9223372036854775807) (hN : N < maxLen)
    (hK : ∀ w', MapI w' b (N + 1) (updI m x s) → w.grownBy w' (some b) → wpList Try.prog ops Q rest (a.put o.dst undef) w') :
    wpList Try.prog ops Q (o :: rest) a w := by
  refine wpList_plain hg fun K' hK' => ?_
  obtain ⟨w', hrun, r1, r2⟩ := runI_upd h x s h0 h1 s0 s1 hN
  unfold Oper.wp
  simp [execOp, hop, hm, hx, hv, hrun, Result.andThen]
  exact hK' _ _ (hK w' r1 r2)
end Go.Proofs.Ytcckpkcjekcajaa
