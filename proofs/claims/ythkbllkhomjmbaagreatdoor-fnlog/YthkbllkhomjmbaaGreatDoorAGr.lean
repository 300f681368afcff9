/- Slices of the call's own that may be appended to. -/
import Derived.Test.YthkbllkhomjmbaaGreatDoorSPut
import Derived.Test.YthkbllkhomjmbaaGreatDoorLBox
namespace Go.Proofs.YthkbllkhomjmbaaGreatDoor
open Go.RowKit

def Gr (w : World) (lo e sz : Nat) (v : Value) (n : Nat) (xs : List Value) : Prop := (0 < n ∧ w.ownsRow lo e sz v n xs) ∨ (n = 0 ∧ xs = [] ∧ (v = .slice none 0 0 ∨ ∃ a, v = .slice (some a) 0 0))
section
variable {w w' : World} {lo lo' e sz n : Nat} {v : Value} {xs : List Value}
theorem ownsRow_keep (h : w.ownsRow lo e sz v n xs) (hk : ∀ k, lo ≤ k → k < w.heap.size → v.ownBlock = some k → w'.heap[k]? = w.heap[k]?) : w'.ownsRow lo e sz v n xs := by
  refine ⟨h.1, ?_⟩
  rcases h.2 with h0 | ⟨g, cap, cur, rfl, h1, h2, h3⟩
  · exact .inl h0
  · exact .inr ⟨g, cap, cur, rfl, h1, (hk g h1 (Array.getElem?_eq_some_iff.1 h2).1 rfl).trans h2, h3⟩
theorem Gr.of_grow (h : Grow w lo e sz v n xs) (hl : xs.length = n * sz) : Gr w lo e sz v n xs := by
  by_cases h0 : 0 < n
  · exact .inl ⟨h0, h.1 h0⟩
  · obtain rfl : n = 0 := by omega
    exact .inr ⟨rfl, List.eq_nil_of_length_eq_zero (by omega), .inr (h.2 rfl)⟩
theorem Gr.keep (h : Gr w lo e sz v n xs) (hk : ∀ k, lo ≤ k → k < w.heap.size → blk v n = some k → w'.heap[k]? = w.heap[k]?) : Gr w' lo e sz v n xs := by
  rcases h with ⟨h0, h⟩ | h
  · exact .inl ⟨h0, ownsRow_keep h fun k h1 h2 h3 => hk k h1 h2 (by unfold blk; rw [if_neg (by omega)]; exact h3)⟩
  · exact .inr h
theorem Gr.below {B : Nat} (h : Gr w lo e sz v n xs) (hb : Below B w w') (hB : w.heap.size ≤ B) : Gr w' lo e sz v n xs := h.keep fun k _ hk _ => hb.block k (by omega)
theorem Gr.two {s d : Option Nat} (h : Gr w lo e sz v n xs) (ht : Two s d w w') (hne : ∀ k, blk v n = some k → some k ≠ s ∧ some k ≠ d) : Gr w' lo e sz v n xs := h.keep fun k _ hk hb => ht.block k hk (hne k hb).1 (hne k hb).2
theorem Gr.lower (h : Gr w lo e sz v n xs) (hl : lo' ≤ lo) : Gr w lo' e sz v n xs := by
  rcases h with ⟨h0, h1, h2 | ⟨g, cap, cur, q1, q2, q3⟩⟩ | h
  · exact .inl ⟨h0, h1, .inl h2⟩
  · exact .inl ⟨h0, h1, .inr ⟨g, cap, cur, q1, by omega, q3⟩⟩
  · exact .inr h
theorem Gr.other (h : Gr w lo e sz v n xs) (p : Addr) (x : Value) (hp : ∀ k, blk v n = some k → k ≠ p.block) : Gr (w.setCell p x) lo e sz v n xs := h.keep fun k _ _ h3 => Below.heap_setCell w p x k (hp k h3)
theorem Gr.low (h : Gr w lo e sz v n xs) (p : Addr) (x : Value) (hp : p.block < lo) : Gr (w.setCell p x) lo e sz v n xs := h.keep fun k h1 _ _ => Below.heap_setCell w p x k (by omega)
theorem Gr.set {g cap : Nat} (h : Gr w lo e sz (.slice (some ⟨g, 0, none⟩) n cap) n xs) (h0 : 0 < n) (j : Nat) (u : Value) : Gr (w.setCell ⟨g, j, none⟩ u) lo e sz (.slice (some ⟨g, 0, none⟩) n cap) n (xs.set j u) := by
  rcases h with ⟨_, h⟩ | ⟨h, _⟩
  · exact .inl ⟨h0, (h.stored j u).1⟩
  · omega
theorem Gr.at0 {b off cap : Nat} (h : Gr w lo e sz (.slice (some ⟨b, off, none⟩) n cap) n xs) (h0 : 0 < n) : off = 0 := by
  rcases h with ⟨_, h⟩ | ⟨h, _⟩
  · rcases h.2 with ⟨_, h1⟩ | ⟨g, cap', cur, h1, _⟩
    · omega
    · simp only [Value.slice.injEq, Option.some.injEq, Addr.mk.injEq, and_true] at h1; exact h1.1.2
  · omega
theorem Gr.nil (w : World) (lo e sz : Nat) : Gr w lo e sz (.slice none 0 0) 0 [] := .inr ⟨rfl, rfl, .inl rfl⟩
theorem Gr.own (h : Gr w lo e sz v n xs) : Own w lo v n sz xs := by
  rcases h with ⟨_, h⟩ | ⟨rfl, rfl, rfl | ⟨a, rfl⟩⟩
  · exact own_of_row h
  · exact own_nil _ _ _ _ _
  · exact own_nil _ _ _ _ _
theorem run_append_gr {P : Program} (t ty : TypeId) (i : TypeInfo) (z : Value) (bytes : Nat) (ht : P.underlying t = some (.slice e)) (hi : P.info? e = some i) (hz : i.zero = some z) (hsize : i.size = sz) (hby : i.bytes = bytes) (hzs : z.cells.size = sz) (hsz : 0 < sz)
    (hl : xs.length = n * sz) (hg : Gr w lo e sz v n xs) (ad : Addr) (m c : Nat) (news : List Value) (hm : 0 < m) (hn : news.length = m * sz) (hnews : ∀ j u, news[j]? = some u → w.cell? (ad.add j) = some u) (h1 : ∀ u ∈ news, u.oneCell' = true)
    (h63 : n + m ≤ maxLen) (hbytes : (n + m) * bytes ≤ 140737488355328) (hlo : lo ≤ w.heap.size) :
    ∃ g cap w', (Builtin.append_ #[t, t] ty #[v, .slice (some ad) m c]).run P w = .ok (.slice (some ⟨g, 0, none⟩) (n + m) cap) w' ∧ Gr w' lo e sz (.slice (some ⟨g, 0, none⟩) (n + m) cap) (n + m) (xs ++ news) ∧ w.grownBy w' (blk v n) ∧ (blk v n = some g ∨ w.heap.size ≤ g) := by
  rcases hg with ⟨h0, hg⟩ | ⟨rfl, rfl, rfl | ⟨a, rfl⟩⟩
  · obtain ⟨v', w', r1, r2, r3, -, r5⟩ := run_append_own_at (P := P) (w := w) lo t ty e i z sz bytes ht hi hz hsize hby hzs hsz v n xs hg ad m c news hn hnews h1 h63 hbytes hlo
    obtain ⟨g, cap, rfl, _, _⟩ := r2.form (by omega)
    have e1 : blk v n = v.ownBlock := by unfold blk; rw [if_neg (by omega)]
    refine ⟨g, cap, w', r1, .inl ⟨by omega, r2⟩, by rw [e1]; exact r3, ?_⟩
    rcases r5 with r | r
    · exact .inl (by rw [e1, ← r]; rfl)
    · have := Option.some.inj (show some g = some w.heap.size from r)
      exact .inr (by omega)
  · obtain ⟨v', w', r1, r2, r3, -, r5⟩ := run_append_own_at (P := P) (w := w) lo t ty e i z sz bytes ht hi hz hsize hby hzs hsz (.slice none 0 0) 0 [] ⟨by simp, .inl ⟨rfl, rfl⟩⟩ ad m c news hn hnews h1 h63 hbytes hlo
    obtain ⟨g, cap, rfl, _, _⟩ := r2.form (by omega)
    refine ⟨g, cap, w', r1, .inl ⟨by omega, r2⟩, r3, .inr ?_⟩
    rcases r5 with r | r
    · cases r
    · have := Option.some.inj (show some g = some w.heap.size from r)
      omega
  · obtain ⟨v', w', r1, r2, r3⟩ := run_append_arg_grows (P := P) w t ty e i z sz bytes ht hi hz hsize hby hzs hsz a 0 0 [] (by simp) (by simp) ad m c news hn hnews (by omega) h63 hbytes
    obtain ⟨g, cap, rfl, hg1, _⟩ := r2.form (by omega)
    exact ⟨g, cap, w', r1, (show Gr w' w.heap.size e sz _ _ _ from .inl ⟨by omega, r2⟩).lower hlo, r3, .inr hg1⟩
theorem wpList_append_gr {P : Program} {ops : Array Oper} {rest : List Oper} {o : Oper} {a : Act} {Q : Exit → Act → World → Prop} (hgd : o.guard = none) (s x : Operand) (t : TypeId)
    (hop : o.op = Op.call { callee := Callee.builtin Builtin.append, args := #[s, x], argTypes := #[t, t] })
    (i : TypeInfo) (z : Value) (bytes : Nat) (ht : P.underlying t = some (.slice e)) (hi : P.info? e = some i) (hz : i.zero = some z) (hsize : i.size = sz) (hby : i.bytes = bytes) (hzs : z.cells.size = sz) (hsz : 0 < sz)
    (hs : a.eval s = v) (hl : xs.length = n * sz) (hg : Gr w lo e sz v n xs) (ad : Addr) (m c : Nat) (hx : a.eval x = .slice (some ad) m c) (news : List Value) (hm : 0 < m) (hn : news.length = m * sz) (hnews : ∀ j u, news[j]? = some u → w.cell? (ad.add j) = some u) (h1 : ∀ u ∈ news, u.oneCell' = true)
    (h63 : n + m ≤ maxLen) (hbytes : (n + m) * bytes ≤ 140737488355328) (hlo : lo ≤ w.heap.size)
    (hK : ∀ g cap w', Gr w' lo e sz (.slice (some ⟨g, 0, none⟩) (n + m) cap) (n + m) (xs ++ news) → w.grownBy w' (blk v n) → (blk v n = some g ∨ w.heap.size ≤ g) → wpList P ops Q rest (a.put o.dst (.slice (some ⟨g, 0, none⟩) (n + m) cap)) w') :
    wpList P ops Q (o :: rest) a w := by
  refine wpList_plain hgd fun K hK' => ?_
  obtain ⟨g, cap, w', hrun, r1, r2, r3⟩ := run_append_gr (P := P) t o.type i z bytes ht hi hz hsize hby hzs hsz hl hg ad m c news hm hn hnews h1 h63 hbytes hlo
  unfold Oper.wp
  simp [execOp, hop, resolve, invoke, builtin, hs, hx, hrun, Result.andThen]
  exact hK' _ _ (hK g cap w' r1 r2 r3)
theorem step_append_gr {P : Program} {ops : Array Oper} {o : Oper} {a : Act} {K : Act → World → Prop} {Q : Exit → Act → World → Prop} {E : Prop} (hgd : o.guard = none) (s x : Operand) (t : TypeId)
    (hop : o.op = Op.call { callee := Callee.builtin Builtin.append, args := #[s, x], argTypes := #[t, t] })
    (i : TypeInfo) (z : Value) (bytes : Nat) (ht : P.underlying t = some (.slice e)) (hi : P.info? e = some i) (hz : i.zero = some z) (hsize : i.size = sz) (hby : i.bytes = bytes) (hzs : z.cells.size = sz) (hsz : 0 < sz)
    (hs : a.eval s = v) (hl : xs.length = n * sz) (hg : Gr w lo e sz v n xs) (ad : Addr) (m c : Nat) (hx : a.eval x = .slice (some ad) m c) (news : List Value) (hm : 0 < m) (hn : news.length = m * sz) (hnews : ∀ j u, news[j]? = some u → w.cell? (ad.add j) = some u) (h1 : ∀ u ∈ news, u.oneCell' = true)
    (h63 : n + m ≤ maxLen) (hbytes : (n + m) * bytes ≤ 140737488355328) (hlo : lo ≤ w.heap.size)
    (hK : ∀ g cap w', Gr w' lo e sz (.slice (some ⟨g, 0, none⟩) (n + m) cap) (n + m) (xs ++ news) → w.grownBy w' (blk v n) → (blk v n = some g ∨ w.heap.size ≤ g) → K (a.put o.dst (.slice (some ⟨g, 0, none⟩) (n + m) cap)) w') :
    if Region.wanted o (yielded ops a.tmps) = true then Oper.wp P o a w K Q else E := by
  have hw : Region.wanted o (yielded ops a.tmps) = true := by simp [Region.wanted, hgd]
  rw [if_pos hw]
  obtain ⟨g, cap, w', hrun, r1, r2, r3⟩ := run_append_gr (P := P) t o.type i z bytes ht hi hz hsize hby hzs hsz hl hg ad m c news hm hn hnews h1 h63 hbytes hlo
  unfold Oper.wp
  simp [execOp, hop, resolve, invoke, builtin, hs, hx, hrun, Result.andThen]
  exact hK g cap w' r1 r2 r3
end
end Go.Proofs.YthkbllkhomjmbaaGreatDoor
