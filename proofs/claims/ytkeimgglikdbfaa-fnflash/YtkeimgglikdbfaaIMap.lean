/- A map from numbers to texts of the call's own, as a function. -/
import Derived.Test.YtkeimgglikdbfaaInts
import Derived.Test.YtkeimgglikdbfaaM1
import Derived.Maps.OwnSet
import Derived.Maps.OwnOps
import Derived.Maps.StringElems
namespace Go.Proofs.Ytkeimgglikdbfaa
open Go.RowKit Go.Maps

theorem Try.key : Keyed Try.prog 2 := int_keyed Try.underlying2
theorem Try.zero9 (w : World) : (zeroValue 9).run Try.prog w = .ok (.string ByteArray.empty) w := by kernel_rfl
/-- Block b is a map of at most N entries that holds m x at x. -/
def MapAt (w : World) (b N : Nat) (m : Int → Option ByteArray) : Prop :=
  ∃ D : DataW Unit, w.ownsMap Try.prog 2 (plainElem Try.prog 9) b N D ∧ (∀ x, Maps.has D (.int .i64 x) = (m x).isSome) ∧ ∀ x s, m x = some s → D.atKey (.int .i64 x) (.lit (.string [])) = .lit (.string s.data.toList)
def upd (m : Int → Option ByteArray) (x : Int) (s : ByteArray) : Int → Option ByteArray := fun y => if y = x then some s else m y
def cut (m : Int → Option ByteArray) (x : Int) : Int → Option ByteArray := fun y => if y = x then none else m y
theorem MapAt.lt {w : World} {b N : Nat} {m : Int → Option ByteArray} (h : MapAt w b N m) : b < w.heap.size := by obtain ⟨D, h1, _⟩ := h; exact h1.lt
theorem MapAt.keep {w w' : World} {b N : Nat} {m : Int → Option ByteArray} (h : MapAt w b N m) (hk : w'.heap[b]? = w.heap[b]?) : MapAt w' b N m := by
  obtain ⟨D, ⟨es, clock, h1, h2⟩, h3⟩ := h
  exact ⟨D, ⟨es, clock, hk.trans h1, h2⟩, h3⟩
theorem MapAt.next {w w' : World} {b N : Nat} {m : Int → Option ByteArray} (h : MapAt w b N m) (hb : Below w.heap.size w w') : MapAt w' b N m := h.keep (hb.block b h.lt)
theorem MapAt.mono {w : World} {b N N' : Nat} {m : Int → Option ByteArray} (h : MapAt w b N m) (hn : N ≤ N') : MapAt w b N' m := by
  obtain ⟨D, h1, h2⟩ := h; exact ⟨D, h1.mono hn, h2⟩
theorem MapAt.not_cells {w : World} {b N : Nat} {m : Int → Option ByteArray} (h : MapAt w b N m) {cs : Array Value} {T : TypeId} {f : Nat × Nat} (hb : w.heap[b]? = some (.cells cs T f)) : False := by
  obtain ⟨D, ⟨es, clock, h1, _⟩, _⟩ := h
  rw [hb] at h1; cases h1
theorem mapAt_new (w : World) : MapAt (w.alloc (.map #[] 0)) w.heap.size 0 (fun _ => none) :=
  ⟨.map [], World.ownsMap_made w _ _ _, fun x => by rw [Maps.has_eq]; rfl, fun x s e => by cases e⟩
theorem key_i64 (x : Int) (h0 : -9223372036854775808 ≤ x) (h1 : x ≤ 9223372036854775807) : keyOf Try.prog 2 (.int .i64 x) = some (.int .i64 x) :=
  Maps.keyOf_int_mk Try.underlying2 (WalkArith.wf_i64 ⟨by omega, by omega⟩)
theorem bytes_ext {a b : ByteArray} (h : a.data.toList = b.data.toList) : a = b := by
  cases a; cases b; simp at h; simp [h]
theorem look_yes {w : World} {b N : Nat} {m : Int → Option ByteArray} (h : MapAt w b N m) (x : Int) (s : ByteArray) (hx : m x = some s) (h0 : -9223372036854775808 ≤ x) (h1 : x ≤ 9223372036854775807) (c : Bool) :
    (Instr.lookup 77 (.map (some b)) (.int .i64 x) c).run Try.prog w = .ok (if c then .tuple #[.string s, .bool true] else .string s) w := by
  obtain ⟨D, ho, hh, ha⟩ := h
  have hz : plainElem (H := Unit) Try.prog 9 (.string ByteArray.empty) = some (.lit (.string []), []) := plainElem_string Try.underlying9 (by simp [maxLen])
  have hat := ha x s hx
  have hhas := hh x
  rw [hx] at hhas
  cases c with
  | true =>
    obtain ⟨v, ps, hrun, hv⟩ := ho.look_ok Try.key Try.underlying77 (Try.zero9 w) hz (key_i64 x h0 h1)
    rw [hat] at hv
    obtain ⟨s', rfl, hz', _⟩ := plainElem_string_inv Try.underlying9 hv
    simp only [Prod.mk.injEq, DataW.lit.injEq, Lit.string.injEq] at hz'
    rw [bytes_ext hz'.1, hrun, hhas]; rfl
  | false =>
    obtain ⟨v, ps, hrun, hv⟩ := ho.lookup Try.key Try.underlying77 (Try.zero9 w) hz (key_i64 x h0 h1)
    rw [hat] at hv
    obtain ⟨s', rfl, hz', _⟩ := plainElem_string_inv Try.underlying9 hv
    simp only [Prod.mk.injEq, DataW.lit.injEq, Lit.string.injEq] at hz'
    rw [bytes_ext hz'.1, hrun]; rfl
theorem look_no {w : World} {b N : Nat} {m : Int → Option ByteArray} (h : MapAt w b N m) (x : Int) (hx : m x = none) (h0 : -9223372036854775808 ≤ x) (h1 : x ≤ 9223372036854775807) :
    (Instr.lookup 77 (.map (some b)) (.int .i64 x) true).run Try.prog w = .ok (.tuple #[.string ByteArray.empty, .bool false]) w := by
  obtain ⟨D, ho, hh, ha⟩ := h
  have hz : plainElem (H := Unit) Try.prog 9 (.string ByteArray.empty) = some (.lit (.string []), []) := plainElem_string Try.underlying9 (by simp [maxLen])
  have hhas := hh x
  rw [hx] at hhas
  obtain ⟨v, ps, hrun, hv⟩ := ho.look_ok Try.key Try.underlying77 (Try.zero9 w) hz (key_i64 x h0 h1)
  rw [atKey_of_not_has hhas] at hv
  obtain ⟨s', rfl, hz', _⟩ := plainElem_string_inv Try.underlying9 hv
  simp only [Prod.mk.injEq, DataW.lit.injEq, Lit.string.injEq] at hz'
  rw [show ByteArray.empty = s' from bytes_ext hz'.1, hrun, hhas]; rfl
theorem lit_ne {x y : Int} (h : y ≠ x) : (Lit.int .i64 y) ≠ .int .i64 x := fun e => h (by injection e)
theorem run_upd {w : World} {b N : Nat} {m : Int → Option ByteArray} (h : MapAt w b N m) (x : Int) (s : ByteArray) (h0 : -9223372036854775808 ≤ x) (h1 : x ≤ 9223372036854775807) (hs : s.size ≤ maxLen) (hN : N < maxLen) :
    ∃ w', (Instr.mapUpdate 77 (.map (some b)) (.int .i64 x) (.string s)).run Try.prog w = .ok () w' ∧ MapAt w' b (N + 1) (upd m x s) ∧ w.grownBy w' (some b) := by
  obtain ⟨D, ho, hh, ha⟩ := h
  have hkey := key_i64 x h0 h1
  obtain ⟨w', r1, r2, r3⟩ := ho.update Try.key Try.underlying77 hN hkey (plainElem_string (H := Unit) Try.underlying9 hs)
  have hm : IsMap D := ho.isMap
  have hk : WideAt.IsKeyLit (Lit.int .i64 x) := trivial
  refine ⟨w', r1, ⟨_, r2, fun y => ?_, fun y t hy => ?_⟩, r3⟩
  · unfold upd
    by_cases e : y = x
    · subst e; rw [has_put_same hm hk]; simp
    · rw [has_put_other (lit_ne e), if_neg e]; exact hh y
  · unfold upd at hy
    by_cases e : y = x
    · subst e; rw [if_pos rfl] at hy; cases hy; rw [atKey_put_same hm hk]
    · rw [if_neg e] at hy; rw [atKey_put_other (lit_ne e)]; exact ha y t hy
theorem run_cut {w : World} {b N : Nat} {m : Int → Option ByteArray} (h : MapAt w b N m) (x : Int) (h0 : -9223372036854775808 ≤ x) (h1 : x ≤ 9223372036854775807) (ty : TypeId) :
    ∃ w', (Builtin.delete_ #[77, 2] ty #[.map (some b), .int .i64 x]).run Try.prog w = .ok (.tuple #[]) w' ∧ MapAt w' b N (cut m x) ∧ w.grownBy w' (some b) := by
  obtain ⟨D, ho, hh, ha⟩ := h
  have hkey := key_i64 x h0 h1
  obtain ⟨w', r1, r2, r3⟩ := ho.drop Try.key Try.underlying77 hkey ty
  refine ⟨w', r1, ⟨_, r2, fun y => ?_, fun y t hy => ?_⟩, r3.grown⟩
  · unfold cut
    by_cases e : y = x
    · subst e; rw [has_del_same]; simp
    · rw [has_del_other (lit_ne e), if_neg e]; exact hh y
  · unfold cut at hy
    by_cases e : y = x
    · rw [if_pos e] at hy; cases hy
    · rw [if_neg e] at hy; rw [atKey_del_other (lit_ne e)]; exact ha y t hy
theorem wpList_upd (w : World) {ops : Array Oper} {rest : List Oper} {o : Oper} {a : Act} {Q : Exit → Act → World → Prop} (hg : o.guard = none) (mo xo vo : Operand) (hop : o.op = Op.mapUpdate 77 mo xo vo)
    (b N : Nat) (m : Int → Option ByteArray) (hm : a.eval mo = .map (some b)) (h : MapAt w b N m) (x : Int) (hx : a.eval xo = .int .i64 x) (s : ByteArray) (hv : a.eval vo = .string s) (h0 : -9223372036854775808 ≤ x) (h1 : x ≤ 9223372036854775807) (hs : s.size ≤ maxLen) (hN : N < maxLen)
    (hK : ∀ w', MapAt w' b (N + 1) (upd m x s) → w.grownBy w' (some b) → wpList Try.prog ops Q rest (a.put o.dst undef) w') :
    wpList Try.prog ops Q (o :: rest) a w := by
  refine wpList_plain hg fun K' hK' => ?_
  obtain ⟨w', hrun, r1, r2⟩ := run_upd h x s h0 h1 hs hN
  unfold Oper.wp
  simp [execOp, hop, hm, hx, hv, hrun, Result.andThen]
  exact hK' _ _ (hK w' r1 r2)
theorem wpList_cut (w : World) {ops : Array Oper} {rest : List Oper} {o : Oper} {a : Act} {Q : Exit → Act → World → Prop} (hg : o.guard = none) (mo xo : Operand) (hop : o.op = Op.call { callee := Callee.builtin Builtin.delete, args := #[mo, xo], argTypes := #[77, 2] })
    (b N : Nat) (m : Int → Option ByteArray) (hm : a.eval mo = .map (some b)) (h : MapAt w b N m) (x : Int) (hx : a.eval xo = .int .i64 x) (h0 : -9223372036854775808 ≤ x) (h1 : x ≤ 9223372036854775807)
    (hK : ∀ w', MapAt w' b N (cut m x) → w.grownBy w' (some b) → wpList Try.prog ops Q rest (a.put o.dst (.tuple #[])) w') :
    wpList Try.prog ops Q (o :: rest) a w := by
  refine wpList_plain hg fun K' hK' => ?_
  obtain ⟨w', hrun, r1, r2⟩ := run_cut h x h0 h1 o.type
  unfold Oper.wp
  simp [execOp, hop, resolve, invoke, builtin, hm, hx, hrun, Result.andThen]
  exact hK' _ _ (hK w' r1 r2)
end Go.Proofs.Ytkeimgglikdbfaa
