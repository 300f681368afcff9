/- The region that replaces a drawn flash's first sector. -/
import Derived.Test.YtkeimgglikdbfaaFDirty
import Derived.Laws.IdiomStrings
namespace Go.Proofs.Ytkeimgglikdbfaa
open Go.RowKit

theorem wp_make_own {P : Program} {w : World} {o : Oper} {a : Act} {K : Act → World → Prop} {Q : Exit → Act → World → Prop} (l c : Operand) (t : TypeId) (hop : o.op = Op.makeSlice t l c)
    (e : TypeId) (i : TypeInfo) (z : Value) (size : Nat) (h1 : P.underlying t = some (.slice e)) (h2 : P.info? e = some i) (h3 : i.zero = some z) (h4 : i.size = size)
    (n : Nat) (hl : a.eval l = .int .i64 (n : Int)) (hc : a.eval c = .int .i64 (n : Int)) (b2 : i.bytes * n ≤ 281474976710656) (b3 : n ≤ maxLen)
    (hK : ∀ w', Own w' w.heap.size (.slice (some ⟨w.heap.size, 0, none⟩) n n) n size (madeCells z.cells (n * size)).toList → w.grownBy w' none → K (a.put o.dst (.slice (some ⟨w.heap.size, 0, none⟩) n n)) w') :
    Oper.wp P o a w K Q := by
  obtain ⟨w', hrun, r1, r2⟩ := run_make_full (P := P) w w.heap.size t e i z size h1 h2 h3 h4 .i64 .i64 n b2 b3 (Nat.le_refl _)
  unfold Oper.wp
  simp [execOp, hop, hl, hc, hrun, Result.andThen]
  exact hK w' (own_of_row r1) r2
theorem wp_conv_zero {P : Program} {w : World} {o : Oper} {a : Act} {K : Act → World → Prop} {Q : Exit → Act → World → Prop} (x : Operand) (src dst : TypeId) (hop : o.op = Op.convert src dst x)
    (e : TypeId) (hs : P.underlying src = some (.slice e)) (he : P.underlying e = some (.int .u8)) (hd : P.underlying dst = some .string)
    (p n c : Nat) (hx : a.eval x = .slice (some ⟨p, 0, none⟩) n c) (hcell : ∀ j, j < n → w.cell? ⟨p, j, none⟩ = some (.int .u8 0))
    (hK : K (a.put o.dst (.string ⟨(List.replicate n (0 : UInt8)).toArray⟩)) w) : Oper.wp P o a w K Q := by
  have hrun := run_convert_bytes_back (P := P) w src dst e ⟨p, 0, none⟩ c (List.replicate n 0) hs he hd (fun j hj => by
    rw [List.length_replicate] at hj
    rw [Addr.add_lit, Nat.zero_add, hcell j hj]; simp)
  rw [List.length_replicate] at hrun
  unfold Oper.wp
  simp [execOp, hop, hx, hrun, Result.andThen]
  exact hK
/-- A sector replaced. -/
theorem FSt.setS {b : Nat} {a : Option Addr} {len cap : Nat} {w : World} {m : Nat} {F : FM} {g c : Nat} {dv : Value} {w1 : World} (h : FSt b a len cap w m F (.slice (some ⟨g, 0, none⟩) F.sec.length c) dv w1) (h0 : 0 < F.sec.length) (s : ByteArray) (hb : b < w.heap.size) :
    FSt b a len cap w m ⟨F.sec.set 0 s, F.dir⟩ (.slice (some ⟨g, 0, none⟩) F.sec.length c) dv (w1.setCell ⟨g, 0, none⟩ (.string s)) := by
  have hlen : (F.sec.set 0 s).length = F.sec.length := List.length_set
  have hbk : blk (.slice (some ⟨g, 0, none⟩) F.sec.length c) F.sec.length = some g := blk_pos h0
  obtain ⟨hlo, hlt⟩ := h.fg.1.blk g hbk
  have hgm : g ≠ m := h.ap g (.inl hbk)
  obtain ⟨⟨u, hu⟩, -⟩ := h.fg.1.cellEx 0 (by omega)
  have hst : strs (F.sec.set 0 s) = (strs F.sec).set 0 (.string s) := by simp [strs, List.map_set]
  have hd : ∀ k, blk dv F.dir.length = some k → k ≠ g := fun k hk e => h.fg.2.2.1 g hbk (by rw [← e]; exact hk)
  refine ⟨h.ans.other _ _ (by show _ ≠ g; omega), h.box.other _ _ (by show m ≠ g; omega), ⟨?_, h.fg.2.1.other ⟨g, 0, none⟩ _ hd, ?_, ?_, h.fg.2.2.2.2.other ⟨g, 0, none⟩ _ hd⟩, ?_, h.src.other _ _ (by show b ≠ g; omega), h.kept.high ⟨g, 0, none⟩ _ (by show _ ≤ g; omega)⟩
  · show Own _ _ _ (F.sec.set 0 s).length 1 (strs (F.sec.set 0 s))
    rw [hlen, hst]
    exact h.fg.1.set 0 (.string s) (by omega) ⟨u, hu⟩
  · intro k hk
    have hk' : blk (.slice (some ⟨g, 0, none⟩) F.sec.length c) F.sec.length = some k := by rw [← hlen]; rw [hlen]; rw [← hk]; show _ = blk _ (F.sec.set 0 s).length; rw [hlen]
    exact h.fg.2.2.1 k hk'
  · show Gr _ _ 9 1 _ (F.sec.set 0 s).length (strs (F.sec.set 0 s))
    rw [hlen, hst]
    exact h.fg.2.2.2.1.set h0 0 (.string s)
  · intro k hk
    refine h.ap k ?_
    rcases hk with hk | hk
    · left; rw [← hk]; show _ = blk _ (F.sec.set 0 s).length; rw [hlen]
    · exact .inr hk

def fr19 (a0 : Act) (v64 v65 v66 v67 v68 v69 v70 v71 : Value) : Act := ((((((((a0.put (some 64) v64).put (some 65) v65).put (some 66) v66).put (some 67) v67).put (some 68) v68).put (some 69) v69).put (some 70) v70).put (some 71) v71)
theorem fr19_eq (a0 : Act) (v64 v65 v66 v67 v68 v69 v70 v71 : Value) : fr19 a0 v64 v65 v66 v67 v68 v69 v70 v71 = ((((((((a0.put (some 64) v64).put (some 65) v65).put (some 66) v66).put (some 67) v67).put (some 68) v68).put (some 69) v69).put (some 70) v70).put (some 71) v71) := rfl
attribute [irreducible] fr19
structure J19 (b : Nat) (a : Option Addr) (len cap : Nat) (w : World) (m : Nat) (F : FM) (g c : Nat) (dv : Value) (l : Nat → Bool) (w1 : World) (v64 v65 v66 v67 v68 v69 v70 v71 : Value) : Prop where
  m8 : ∀ i, i < 8 → l 8 = true → l i = true
  m7 : ∀ i, i < 7 → l 7 = true → l i = true
  st : l 8 = false → FSt b a len cap w m F (.slice (some ⟨g, 0, none⟩) F.sec.length c) dv w1
  k0 : l 0 = true → v64 = .pointer (some ⟨m, 0, none⟩)
  k1 : l 1 = true → v65 = .slice (some ⟨g, 0, none⟩) F.sec.length c
  k2 : l 2 = true → v66 = Ptr b
  k3 : l 3 = true → ∃ x : Int, v67 = .int .i64 x ∧ 0 ≤ x ∧ x < 2
  k4 : l 4 = true → ∃ n : Nat, v68 = .int .i64 (n : Int) ∧ n ≤ 97 ∧ 1 ≤ n
  k5 : l 5 = true → l 8 = false → ∃ n p c : Nat, v69 = .slice (some ⟨p, 0, none⟩) n c ∧ n ≤ 97 ∧ p ≠ b ∧ p < w1.heap.size ∧ ∀ j, j < n → w1.cell? ⟨p, j, none⟩ = some (.int .u8 0)
  k6 : l 6 = true → ∃ s : ByteArray, v70 = .string s ∧ s.size ≤ 97
  k7 : l 7 = true → v71 = .pointer (some ⟨g, 0, none⟩)
  k8 : l 8 = true → ∃ s : ByteArray, s.size ≤ 97 ∧ FSt b a len cap w m ⟨F.sec.set 0 s, F.dir⟩ (.slice (some ⟨g, 0, none⟩) F.sec.length c) dv w1
section
variable {b : Nat} {a : Option Addr} {len cap : Nat} {w : World} {m : Nat} {F : FM} {g c : Nat} {dv : Value} {l : Nat → Bool} {w1 w2 : World} {v64 v65 v66 v67 v68 v69 v70 v71 : Value}
theorem J19.off (h : J19 b a len cap w m F g c dv l w1 v64 v65 v66 v67 v68 v69 v70 v71) {i : Nat} (hi : i < 8) (hl : l i = false) : l 8 = false := by
  cases h8 : l 8 with
  | false => rfl
  | true => rw [h.m8 i hi h8] at hl; cases hl
theorem m8_add {i : Nat} (hi : i < 8) (h : ∀ i, i < 8 → l 8 = true → l i = true) : ∀ j, j < 8 → (8 == i || l 8) = true → (j == i || l j) = true := fun j hj e => by
  have : (8 == i) = false := by simp; omega
  rw [this, Bool.false_or] at e
  rw [h j hj e]; simp
theorem m7_add {i : Nat} (hi : i < 7) (h : ∀ i, i < 7 → l 7 = true → l i = true) : ∀ j, j < 7 → (7 == i || l 7) = true → (j == i || l j) = true := fun j hj e => by
  have : (7 == i) = false := by simp; omega
  rw [this, Bool.false_or] at e
  rw [h j hj e]; simp
theorem J19.keep (h : J19 b a len cap w m F g c dv l w1 v64 v65 v66 v67 v68 v69 v70 v71) (h8 : l 8 = false) (hk : Kept b w1 w2) (hs : Src w2 b a len cap) (hb : b < w.heap.size) (hm : w.heap.size < m) : J19 b a len cap w m F g c dv l w2 v64 v65 v66 v67 v68 v69 v70 v71 :=
  ⟨h.m8, h.m7, fun e => (h.st e).keep hk hs hb hm, h.k0, h.k1, h.k2, h.k3, h.k4, fun e e' => (by
    obtain ⟨n, p, c, q1, q2, q3, q4, q5⟩ := h.k5 e e'
    exact ⟨n, p, c, q1, q2, q3, Nat.lt_of_lt_of_le q4 hk.size, fun j hj => (by
      have := q5 j hj
      rw [← this]
      unfold World.cell?
      rw [hk.block p q4 (fun e => q3 (Option.some.inj e))])⟩), h.k6, h.k7, fun e => (by rw [h8] at e; cases e)⟩
theorem J19.p0 (h : J19 b a len cap w m F g c dv l w1 v64 v65 v66 v67 v68 v69 v70 v71) : J19 b a len cap w m F g c dv (fun j => j == 0 || l j) w1 (.pointer (some ⟨m, 0, none⟩)) v65 v66 v67 v68 v69 v70 v71 := ⟨m8_add (by decide) h.m8, m7_add (by decide) h.m7, h.st, fun _ => rfl, h.k1, h.k2, h.k3, h.k4, h.k5, h.k6, h.k7, h.k8⟩
theorem J19.p1 (h : J19 b a len cap w m F g c dv l w1 v64 v65 v66 v67 v68 v69 v70 v71) : J19 b a len cap w m F g c dv (fun j => j == 1 || l j) w1 v64 (.slice (some ⟨g, 0, none⟩) F.sec.length c) v66 v67 v68 v69 v70 v71 := ⟨m8_add (by decide) h.m8, m7_add (by decide) h.m7, h.st, h.k0, fun _ => rfl, h.k2, h.k3, h.k4, h.k5, h.k6, h.k7, h.k8⟩
theorem J19.p2 (h : J19 b a len cap w m F g c dv l w1 v64 v65 v66 v67 v68 v69 v70 v71) : J19 b a len cap w m F g c dv (fun j => j == 2 || l j) w1 v64 v65 (Ptr b) v67 v68 v69 v70 v71 := ⟨m8_add (by decide) h.m8, m7_add (by decide) h.m7, h.st, h.k0, h.k1, fun _ => rfl, h.k3, h.k4, h.k5, h.k6, h.k7, h.k8⟩
theorem J19.p3 (h : J19 b a len cap w m F g c dv l w1 v64 v65 v66 v67 v68 v69 v70 v71) (x : Int) (h0 : 0 ≤ x) (h1 : x < 2) : J19 b a len cap w m F g c dv (fun j => j == 3 || l j) w1 v64 v65 v66 (.int .i64 x) v68 v69 v70 v71 := ⟨m8_add (by decide) h.m8, m7_add (by decide) h.m7, h.st, h.k0, h.k1, h.k2, fun _ => ⟨x, rfl, h0, h1⟩, h.k4, h.k5, h.k6, h.k7, h.k8⟩
theorem J19.p4 (h : J19 b a len cap w m F g c dv l w1 v64 v65 v66 v67 v68 v69 v70 v71) {y : Int} {n : Nat} (hy : y = (n : Int)) (h1 : n ≤ 97) (h2 : 1 ≤ n) : J19 b a len cap w m F g c dv (fun j => j == 4 || l j) w1 v64 v65 v66 v67 (.int .i64 y) v69 v70 v71 := ⟨m8_add (by decide) h.m8, m7_add (by decide) h.m7, h.st, h.k0, h.k1, h.k2, h.k3, fun _ => ⟨n, by rw [hy], h1, h2⟩, h.k5, h.k6, h.k7, h.k8⟩
theorem J19.p6 (h : J19 b a len cap w m F g c dv l w1 v64 v65 v66 v67 v68 v69 v70 v71) (s : ByteArray) (h1 : s.size ≤ 97) : J19 b a len cap w m F g c dv (fun j => j == 6 || l j) w1 v64 v65 v66 v67 v68 v69 (.string s) v71 := ⟨m8_add (by decide) h.m8, m7_add (by decide) h.m7, h.st, h.k0, h.k1, h.k2, h.k3, h.k4, h.k5, fun _ => ⟨s, rfl, h1⟩, h.k7, h.k8⟩
theorem J19.p7 (h : J19 b a len cap w m F g c dv l w1 v64 v65 v66 v67 v68 v69 v70 v71) (hall : l 0 = true ∧ l 1 = true ∧ l 2 = true ∧ l 3 = true ∧ l 4 = true ∧ l 5 = true ∧ l 6 = true) : J19 b a len cap w m F g c dv (fun j => j == 7 || l j) w1 v64 v65 v66 v67 v68 v69 v70 (.pointer (some ⟨g, 0, none⟩)) := ⟨m8_add (by decide) h.m8, fun i hi _ => (by obtain ⟨q0, q1, q2, q3, q4, q5, q6⟩ := hall; match i, hi with | 0, _ => (simp [q0]) | 1, _ => (simp [q1]) | 2, _ => (simp [q2]) | 3, _ => (simp [q3]) | 4, _ => (simp [q4]) | 5, _ => (simp [q5]) | 6, _ => (simp [q6])), h.st, h.k0, h.k1, h.k2, h.k3, h.k4, h.k5, h.k6, fun _ => rfl, h.k8⟩
theorem zeros_at (n j : Nat) (h : j < n) : (madeCells (Value.int .u8 0).cells (n * 1)).toList[j]? = some (.int .u8 0) := by
  rw [show (Value.int IntKind.u8 0).cells = #[Value.int IntKind.u8 0] from rfl, toList_madeCells_one, Nat.mul_one]
  simp [h]
theorem J19.p5 (h : J19 b a len cap w m F g c dv l w1 v64 v65 v66 v67 v68 v69 v70 v71) (hl : l 5 = false) (n : Nat) (h1 : n ≤ 97) (h2 : 1 ≤ n) (ho : Own w2 w1.heap.size (.slice (some ⟨w1.heap.size, 0, none⟩) n n) n 1 (madeCells (Value.int .u8 0).cells (n * 1)).toList) (hg : w1.grownBy w2 none) (hb : b < w.heap.size) (hm : w.heap.size < m) : J19 b a len cap w m F g c dv (fun j => j == 5 || l j) w2 v64 v65 v66 v67 v68 (.slice (some ⟨w1.heap.size, 0, none⟩) n n) v70 v71 := by
  have h8 := h.off (by decide) hl
  have hbl : Below w1.heap.size w1 w2 := ⟨hg.os, hg.tape, hg.output, hg.size, fun k hk => hg.block k hk (by simp)⟩
  have hk := h.keep h8 (below_kept hbl) ((h.st h8).src.below hbl) hb hm
  refine ⟨m8_add (by decide) hk.m8, m7_add (by decide) hk.m7, hk.st, hk.k0, hk.k1, hk.k2, hk.k3, hk.k4, fun _ _ => ⟨n, w1.heap.size, n, rfl, h1, by have := (h.st h8).src.lt; omega, ?_, fun j hj => ?_⟩, hk.k6, hk.k7, hk.k8⟩
  · obtain ⟨b', off', e, _, hz, _⟩ := ho.get (by omega)
    cases e
    exact hz
  · obtain ⟨b', off', e, _, _, hc, _⟩ := ho.get (by omega)
    cases e
    have := hc j (by omega)
    rw [Nat.zero_add] at this
    rw [this, zeros_at n j hj]
theorem J19.p8 (h : J19 b a len cap w m F g c dv l w1 v64 v65 v66 v67 v68 v69 v70 v71) (hl : l 8 = false) (hall : ∀ i, i < 8 → l i = true) (h0 : 0 < F.sec.length) (hb : b < w.heap.size) (s : ByteArray) (hs : s.size ≤ 97) : J19 b a len cap w m F g c dv (fun j => j == 8 || l j) (w1.setCell ⟨g, 0, none⟩ (.string s)) v64 v65 v66 v67 v68 v69 v70 v71 := by
  refine ⟨fun i hi _ => by rw [hall i hi]; simp, fun i hi _ => by rw [hall i (by omega)]; simp, fun e => ?_, h.k0, h.k1, h.k2, h.k3, h.k4, fun _ e => ?_, h.k6, h.k7, fun _ => ⟨s, hs, (h.st hl).setS h0 s hb⟩⟩
  · have e : true = false := e
    cases e
  · have e : true = false := e
    cases e
end
end Go.Proofs.Ytkeimgglikdbfaa
