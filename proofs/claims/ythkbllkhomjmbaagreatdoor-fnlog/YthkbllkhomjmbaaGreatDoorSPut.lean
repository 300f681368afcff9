/- The model's l03Put. -/
import Derived.Test.YthkbllkhomjmbaaGreatDoorSCopyA
import Derived.Maps.AppendAt
namespace Go.Proofs.YthkbllkhomjmbaaGreatDoor
open Go.RowKit

def putD : List D → Int → ByteArray → List D
  | [], a, x => [(a, x)]
  | d :: l, a, x => if d.1 = a then (d.1, x) :: l else d :: putD l a x
theorem put_hit (a : Int) (x : ByteArray) : ∀ (l : List D) (k : Nat) (h : k < l.length) (_ : ∀ j (hj : j < l.length), j < k → l[j].1 ≠ a) (_ : l[k].1 = a), putD l a x = l.set k (a, x)
  | d :: l, 0, _, _, he => by
    have he' : d.1 = a := he
    simp [putD, he']
  | d :: l, k + 1, h, hb, he => by
    have h0 : d.1 ≠ a := hb 0 (by simp) (by omega)
    have ih := put_hit a x l k (by simpa using h) (fun j hj hjk => hb (j + 1) (by simpa using hj) (by omega)) he
    simp [putD, h0, ih]
theorem put_miss (a : Int) (x : ByteArray) : ∀ (l : List D) (_ : ∀ j (hj : j < l.length), l[j].1 ≠ a), putD l a x = l ++ [(a, x)]
  | [], _ => rfl
  | d :: l, hb => by
    have h0 : d.1 ≠ a := hb 0 (by simp)
    have ih := put_miss a x l (fun j hj => hb (j + 1) (by simpa using hj))
    simp [putD, h0, ih]
theorem dirs_set (a : Int) (x : ByteArray) : ∀ (l : List D) (k : Nat) (h : k < l.length) (_ : l[k].1 = a), dirs (l.set k (a, x)) = (dirs l).set (k * 2 + 1) (.string x)
  | d :: l, 0, _, he => by
    have he' : d.1 = a := he
    simp [dirs, he']
  | d :: l, k + 1, h, he => by
    rw [show (k + 1) * 2 + 1 = k * 2 + 1 + 1 + 1 by omega]
    simp only [List.set_cons_succ, dirs]
    rw [dirs_set a x l k (by simpa using h) he]
theorem dirs_append (a : Int) (x : ByteArray) : ∀ l : List D, dirs (l ++ [(a, x)]) = dirs l ++ [.int .i64 a, .string x]
  | [] => rfl
  | d :: l => by simp only [List.cons_append, dirs]; rw [dirs_append a x l]
def putOf (F : FM) (a : Int) (x : ByteArray) : FM := ⟨F.sec, putD F.dir a x⟩

theorem run_append_grow {P : Program} (w : World) (t ty e : TypeId) (i : TypeInfo) (z : Value) (sz bytes : Nat) (ht : P.underlying t = some (.slice e)) (hi : P.info? e = some i) (hz : i.zero = some z) (hsize : i.size = sz) (hby : i.bytes = bytes) (hzs : z.cells.size = sz) (hsz : 0 < sz)
    (lo : Nat) (v : Value) (n : Nat) (xs : List Value) (hl : xs.length = n * sz) (hg : Grow w lo e sz v n xs) (ad : Addr) (m c : Nat) (news : List Value) (hm : 0 < m) (hn : news.length = m * sz) (hnews : ∀ j u, news[j]? = some u → w.cell? (ad.add j) = some u) (h1 : ∀ u ∈ news, u.oneCell' = true)
    (h63 : n + m ≤ maxLen) (hbytes : (n + m) * bytes ≤ 140737488355328) (hlo : lo ≤ w.heap.size) :
    ∃ v' w', (Builtin.append_ #[t, t] ty #[v, .slice (some ad) m c]).run P w = .ok v' w' ∧ Own w' lo v' (n + m) sz (xs ++ news) ∧ w.grownBy w' (blk v n) ∧ (∀ k, blk v' (n + m) = some k → blk v n = some k ∨ w.heap.size ≤ k) := by
  by_cases h0 : 0 < n
  · obtain ⟨v', w', r1, r2, r3, -, r5⟩ := run_append_own_at (P := P) (w := w) lo t ty e i z sz bytes ht hi hz hsize hby hzs hsz v n xs (hg.1 h0) ad m c news hn hnews h1 h63 hbytes hlo
    have e1 : blk v n = v.ownBlock := by unfold blk; rw [if_neg (by omega)]
    have e2 : blk v' (n + m) = v'.ownBlock := by unfold blk; rw [if_neg (by omega)]
    rw [e1]
    exact ⟨v', w', r1, own_of_row r2, r3, fun k hk => by
      rw [e2] at hk
      rcases r5 with r | r
      · exact .inl (r.symm.trans hk)
      · exact .inr (Nat.le_of_eq (Option.some.inj (r.symm.trans hk)))⟩
  · obtain rfl : n = 0 := by omega
    have hx : xs = [] := List.eq_nil_of_length_eq_zero (by omega)
    subst hx
    obtain ⟨g, rfl⟩ := hg.2 rfl
    obtain ⟨v', w', r1, r2, r3⟩ := run_append_arg_grows (P := P) w t ty e i z sz bytes ht hi hz hsize hby hzs hsz g 0 0 [] (by simp) (by simp) ad m c news hn hnews (by omega) h63 hbytes
    refine ⟨v', w', r1, (own_of_row r2).lower hlo, r3, fun k hk => .inr ((own_of_row r2).blk k hk).1⟩
theorem wpList_append_grow {P : Program} (w : World) {ops : Array Oper} {rest : List Oper} {o : Oper} {a : Act} {Q : Exit → Act → World → Prop} (hgd : o.guard = none) (s x : Operand) (t : TypeId)
    (hop : o.op = Op.call { callee := Callee.builtin Builtin.append, args := #[s, x], argTypes := #[t, t] })
    (e : TypeId) (i : TypeInfo) (z : Value) (sz bytes : Nat) (ht : P.underlying t = some (.slice e)) (hi : P.info? e = some i) (hz : i.zero = some z) (hsize : i.size = sz) (hby : i.bytes = bytes) (hzs : z.cells.size = sz) (hsz : 0 < sz)
    (lo : Nat) (v : Value) (hs : a.eval s = v) (n : Nat) (xs : List Value) (hl : xs.length = n * sz) (hg : Grow w lo e sz v n xs) (ad : Addr) (m c : Nat) (hx : a.eval x = .slice (some ad) m c) (news : List Value) (hm : 0 < m) (hn : news.length = m * sz) (hnews : ∀ j u, news[j]? = some u → w.cell? (ad.add j) = some u) (h1 : ∀ u ∈ news, u.oneCell' = true)
    (h63 : n + m ≤ maxLen) (hbytes : (n + m) * bytes ≤ 140737488355328) (hlo : lo ≤ w.heap.size)
    (hK : ∀ ad' cap w', Own w' lo (.slice ad' (n + m) cap) (n + m) sz (xs ++ news) → w.grownBy w' (blk v n) → (∀ k, blk (.slice ad' (n + m) cap) (n + m) = some k → blk v n = some k ∨ w.heap.size ≤ k) → wpList P ops Q rest (a.put o.dst (.slice ad' (n + m) cap)) w') :
    wpList P ops Q (o :: rest) a w := by
  refine wpList_plain hgd fun K hK' => ?_
  obtain ⟨v', w', hrun, r1, r2, r3⟩ := run_append_grow (P := P) w t o.type e i z sz bytes ht hi hz hsize hby hzs hsz lo v n xs hl hg ad m c news hm hn hnews h1 h63 hbytes hlo
  obtain ⟨ad', cap, rfl, _⟩ := id r1.2
  unfold Oper.wp
  simp [execOp, hop, resolve, invoke, builtin, hs, hx, hrun, Result.andThen]
  exact hK' _ _ (hK ad' cap w' r1 r2 r3)
theorem grown_keep {w w' : World} {r : Option Nat} {k : Nat} (h : w.grownBy w' r) (hk : k < w.heap.size) (hne : r ≠ some k) (j : Nat) : w'.cell? ⟨k, j, none⟩ = w.cell? ⟨k, j, none⟩ ∧ w'.frozen? ⟨k, j, none⟩ = w.frozen? ⟨k, j, none⟩ := by
  have e := h.block k hk (fun q => hne q.symm)
  exact ⟨by simp only [World.cell?, e], by simp only [World.frozen?, e]⟩
def PutRel (F : FM) (at_ : Int) (i : Value) : Prop := ∃ k : Nat, k ≤ F.dir.length ∧ i = .int .i64 k ∧ ∀ j (hj : j < F.dir.length), j < k → F.dir[j].1 ≠ at_

end Go.Proofs.YthkbllkhomjmbaaGreatDoor
