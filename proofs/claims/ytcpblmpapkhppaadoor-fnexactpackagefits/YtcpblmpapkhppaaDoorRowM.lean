/- A row of the call's own whose block may bear a conversion's mark ('[]byte(s)'), told cell by cell; appending one value to it. Free of any program. -/
import Derived.WalkKit
import Derived.WalkSpells
import Derived.Below
import Derived.ArgAppend
import Derived.Lib.ConvBytes
import Derived.Lib.Hide
namespace Go.Proofs.YtcpblmpapkhppaaDoor
open Go.RowKit

structure RowM (w : World) (base : Nat) (v : Value) (n : Nat) (xs : List Value) (g cap : Nat) : Prop where
  val : v = .slice (some ⟨g, 0, none⟩) n cap
  low : base ≤ g
  lt : g < w.heap.size
  fits : n ≤ cap
  len : xs.length = n
  cell : ∀ j, j < n → w.cell? ⟨g, j, none⟩ = xs[j]?
  there : ∀ j, j < cap → (w.cell? ⟨g, j, none⟩).isSome = true
  soft : ∀ j, j < cap → w.frozen? ⟨g, j, none⟩ = false
/-- v is such a row. -/
def RowA (w : World) (base : Nat) (v : Value) (n : Nat) (xs : List Value) : Prop := ∃ g cap, RowM w base v n xs g cap

theorem RowM.drew {w : World} {base n g cap : Nat} {v : Value} {xs : List Value} (h : RowM w base v n xs g cap) : RowM w.drew base v n xs g cap := ⟨h.val, h.low, h.lt, h.fits, h.len, h.cell, h.there, h.soft⟩
theorem RowM.below {w w' : World} {base n g cap B : Nat} {v : Value} {xs : List Value} (h : RowM w base v n xs g cap) (hb : Below B w w') (hg : g < B) : RowM w' base v n xs g cap :=
  ⟨h.val, h.low, Nat.lt_of_lt_of_le h.lt hb.size, h.fits, h.len, fun j hj => (hb.cell (p := ⟨g, j, none⟩) hg).trans (h.cell j hj), fun j hj => (hb.cell (p := ⟨g, j, none⟩) hg).symm ▸ h.there j hj, fun j hj => (hb.frozen (p := ⟨g, j, none⟩) hg).trans (h.soft j hj)⟩
theorem RowM.alloc {w : World} {base n g cap : Nat} {v : Value} {xs : List Value} (h : RowM w base v n xs g cap) (o : Obj) : RowM (w.alloc o) base v n xs g cap :=
  h.below ((Below.refl w.heap.size w).alloc (Nat.le_refl _) o) h.lt
theorem rowA_own {w : World} {base e n : Nat} {v : Value} {xs : List Value} (h : w.ownsRow base e 1 v n xs) (hn : 0 < n) : RowA w base v n xs := by
  rcases h.2 with ⟨_, h0⟩ | ⟨g, cap, cur, rfl, h1, h2, h3, h4, h5, h6⟩
  · omega
  · refine ⟨g, cap, rfl, h1, (Array.getElem?_eq_some_iff.1 h2).1, h3, by simpa using h.1, fun j hj => h.cellAt j (by omega), fun j hj => ?_, fun j _ => frozen_of_row w g j _ e h2⟩
    rw [cell_of_row w g j _ e (0, 0) h2, Array.getElem?_eq_getElem (by omega)]; rfl
theorem rowA_conv (w : World) (e : TypeId) (s : ByteArray) :
    RowM (Lib.bytesWorld w e s) w.heap.size (.slice (some ⟨w.heap.size, 0, none⟩) s.size (grownCap w s.size 0 e)) s.size (s.data.toList.map fun b => Value.int .u8 b.toNat) w.heap.size (grownCap w s.size 0 e) := by
  have hsz : (Lib.bytesCells w e s).size = grownCap w s.size 0 e := by
    have := grownCap_ge w s.size 0 e
    have hs : s.data.size = s.size := rfl
    simp [Lib.bytesCells, hs]; omega
  refine ⟨rfl, Nat.le_refl _, by rw [Lib.bytesWorld_size]; omega, grownCap_ge w s.size 0 e, by rw [List.length_map, Array.length_toList]; rfl, fun j hj => ?_, fun j hj => ?_, fun j hj => ?_⟩
  · rw [Lib.bytesWorld_cell w e s j hj, List.getElem?_map, List.getD_eq_getElem?_getD]
    have : j < s.data.toList.length := by rw [Array.length_toList]; exact hj
    rw [List.getElem?_eq_getElem this]; rfl
  · simp only [World.cell?, Lib.bytesWorld_at_new]
    rw [Array.getElem?_eq_getElem (by omega)]; rfl
  · simp only [World.frozen?, Lib.bytesWorld_at_new]
    simp; omega
theorem conv_below (w : World) (e : TypeId) (s : ByteArray) : Below w.heap.size w (Lib.bytesWorld w e s) :=
  ⟨rfl, rfl, rfl, by rw [Lib.bytesWorld_size]; omega, fun k hk => Lib.bytesWorld_at_old w e s k hk⟩

theorem other_cell (w : World) (g n j : Nat) (u : Value) (h : ¬ j = n) : (w.setCell ⟨g, n, none⟩ u).cell? ⟨g, j, none⟩ = w.cell? ⟨g, j, none⟩ :=
  World.cell?_setCell_other (h := fun e => h (Addr.mk.inj e).2.1.symm) ..
/-- One value appended to such a row; the world behind it under a name of its own. -/
theorem wpList_append_M {P : Program} (w : World) {ops : Array Oper} {rest : List Oper} {o : Oper} {a : Act} {Q : Exit → Act → World → Prop}
    (hgd : o.guard = none) (s x : Operand) (t : TypeId) (hop : o.op = Op.call { callee := Callee.builtin Builtin.append, args := #[s, x], argTypes := #[t, t] })
    (e : TypeId) (i : TypeInfo) (z : Value) (bytes : Nat) (h1 : P.underlying t = some (.slice e)) (h2 : P.info? e = some i) (h3 : i.zero = some z) (h4 : i.size = 1) (h5 : i.bytes = bytes) (h6 : z.cells.size = 1)
    (base n : Nat) (v : Value) (xs : List Value) (hs : a.eval s = v) (hrow : RowA w base v n xs)
    (ad : Addr) (c : Nat) (u : Value) (hx : a.eval x = .slice (some ad) 1 c) (hc : w.cell? ad = some u) (hu : u.oneCell' = true)
    (b1 : n + 1 ≤ maxLen) (b2 : (n + 1) * bytes ≤ 140737488355328) (B : Nat) (w0 : World) (hb : Below B w0 w) (hB : B ≤ base) (hbz : base ≤ w.heap.size)
    (h : ∀ v' w', RowA w' base v' (n + 1) (xs ++ [u]) → Below B w0 w' → wpList P ops Q rest (a.put o.dst v') w') :
    wpList P ops Q (o :: rest) a w := by
  obtain ⟨g, cap, r⟩ := hrow
  obtain rfl := r.val
  have hz1 : ∀ j u', [u][j]? = some u' → j = 0 ∧ u' = u := by
    intro j u' hj
    match j, hj with
    | 0, hj => simp at hj; exact ⟨rfl, hj.symm⟩
  refine wpList_append_arg w hgd s x t hop e i z 1 bytes h1 h2 h3 h4 h5 h6 (by decide) g 0 n cap xs hs (by rw [r.len]; omega) (fun j u' hj => ?_) ad 1 c [u] hx rfl (fun j u' hj => ?_) (fun u' hu' => ?_) (fun hr j hj => ?_) b1 b2 (fun hr => ?_) (fun hg v' w' hown hgrow => ?_)
  · have hj' : j < n := by
      have := (List.getElem?_eq_some_iff.1 hj).1
      rw [r.len] at this; exact this
    rw [Nat.zero_add, r.cell j hj', hj]
  · obtain ⟨rfl, rfl⟩ := hz1 j u' hj
    have : ad.add 0 = ad := by simp [Addr.add]
    rw [this]; exact hc
  · simp at hu'; subst hu'; exact hu
  · have : j = 0 := by simp at hj; omega
    subst this
    simp only [Nat.zero_add, Nat.mul_one, Nat.add_zero]
    exact ⟨r.there n (by omega), r.soft n (by omega)⟩
  · have e1 : w.setCells g (0 + n * 1) [u] = w.setCell ⟨g, n, none⟩ u := by simp [World.setCells]
    rw [e1]
    refine h _ _ ⟨g, cap, rfl, r.low, by simpa using r.lt, by omega, by simp [r.len], fun j hj => ?_, fun j hj => ?_, fun j hj => ?_⟩ (hb.setCell (p := ⟨g, n, none⟩) (Nat.le_trans hB r.low) u)
    · by_cases hjn : j = n
      · subst hjn
        rw [World.cell?_setCell_same' w ⟨g, j, none⟩ u (r.there j (by omega)), List.getElem?_append_right (by rw [r.len]; omega), r.len]; simp
      · rw [other_cell w g n j u hjn, r.cell j (by omega), List.getElem?_append_left (by rw [r.len]; omega)]
    · by_cases hjn : j = n
      · subst hjn
        rw [World.cell?_setCell_same' w ⟨g, j, none⟩ u (r.there j (by omega))]; rfl
      · rw [other_cell w g n j u hjn]; exact r.there j hj
    · rw [World.frozen?_setCell]; exact r.soft j hj
  · obtain ⟨g', cap', r'⟩ := rowA_own hown (by omega)
    exact h v' w' ⟨g', cap', r'.val, Nat.le_trans hbz r'.low, r'.lt, r'.fits, r'.len, r'.cell, r'.there, r'.soft⟩ (hb.grown hgrow (Nat.le_trans hB hbz) (by simp))
end Go.Proofs.YtcpblmpapkhppaaDoor
