/- What packageIn wants. -/
import Derived.Test.YtcpblmpapkhppaaGreatDoorKSt
import Derived.Test.YtcpblmpapkhppaaGreatDoorKR
import Derived.Test.YtcpblmpapkhppaaGreatDoorBWrites
namespace Go.Proofs.YtcpblmpapkhppaaGreatDoor
open Go.RowKit

def or3 (x y z : Int) : Int := if x = 0 then (if y = 0 then z else y) else x
set_option maxHeartbeats 1000000 in
theorem cmpOr3 (x y z : Int) (w : World) :
    Calls Tryz.prog 109 #[.slice (some ⟨w.heap.size, 0, none⟩) 3 3] (w.alloc (.cells #[.int .i64 x, .int .i64 y, .int .i64 z] 2)) fun e w' => e = .returned (.int .i64 (or3 x y z)) ∧ w.alloc (.cells #[.int .i64 x, .int .i64 y, .int .i64 z] 2) = w' := by
  have X := bx_new w 2 #[.int .i64 x, .int .i64 y, .int .i64 z]
  have x0 := X.t0
  have x1 := X.t1
  have x2 := X.t2
  clear X
  generalize w.alloc (.cells #[.int .i64 x, .int .i64 y, .int .i64 z] 2) = W at *
  unfold or3
  by_cases hx : x = 0
  · subst hx
    rw [if_pos rfl]
    by_cases hy : y = 0
    · subst hy
      rw [if_pos rfl]
      by_cases hz : z = 0
      · subst hz
        go_enter Tryz.func109, Tryz.ntmps109
        go_wp2_with fail
        refine wp_loop_rounds 4 ?_
        rw [rounds_succ]
        go_wp2_with fail
        rw [rounds_succ]
        go_wp2_with fail
        rw [rounds_succ]
        go_wp2_with fail
        rw [rounds_succ]
        go_wp2_with fail
        go_ret
        exact ⟨rfl, rfl⟩
      · have d : (z != 0) = true := by simpa using hz
        go_enter Tryz.func109, Tryz.ntmps109
        go_wp2_with fail
        refine wp_loop_rounds 3 ?_
        rw [rounds_succ]
        go_wp2_with fail
        rw [rounds_succ]
        go_wp2_with fail
        rw [rounds_succ]
        go_wp2_with fail
        go_ret
        exact ⟨rfl, rfl⟩
    · rw [if_neg hy]
      have d : (y != 0) = true := by simpa using hy
      go_enter Tryz.func109, Tryz.ntmps109
      go_wp2_with fail
      refine wp_loop_rounds 2 ?_
      rw [rounds_succ]
      go_wp2_with fail
      rw [rounds_succ]
      go_wp2_with fail
      go_ret
      exact ⟨rfl, rfl⟩
  · rw [if_neg hx]
    have d : (x != 0) = true := by simpa using hx
    go_enter Tryz.func109, Tryz.ntmps109
    go_wp2_with fail
    refine wp_loop_rounds 1 ?_
    rw [rounds_succ]
    go_wp2_with fail
    go_ret
    exact ⟨rfl, rfl⟩
theorem or3_zero {x y z : Int} (h : or3 x y z = 0) : x = 0 ∧ y = 0 ∧ z = 0 := by
  unfold or3 at h
  split at h
  · split at h
    · exact ⟨by assumption, by assumption, h⟩
    · exact absurd h (by assumption)
  · exact absurd h (by assumption)
theorem or3_no {x y z : Int} (h : or3 x y z ≠ 0) : ¬ (x = 0 ∧ y = 0 ∧ z = 0) := by
  rintro ⟨rfl, rfl, rfl⟩
  exact h rfl
theorem hdr_ok {t : ByteArray} (h1 : (getR t 0).2.2 = 0) (h2 : (textR t (getR t 0).2.1).2.2 = 0) (h3 : (getR t (textR t (getR t 0).2.1).2.1).2.2 = 0) :
    k1 t = ((getR t 0).1, (getR t 0).2.1, false) ∧ k2 t = ((textR t (getR t 0).2.1).1, (textR t (getR t 0).2.1).2.1, false) ∧ k3 t = ((getR t (textR t (getR t 0).2.1).2.1).1, (getR t (textR t (getR t 0).2.1).2.1).2.1, false) := by
  have e1 : k1 t = ((getR t 0).1, (getR t 0).2.1, false) := numS_yes h1
  have e2 : k2 t = ((textR t (getR t 0).2.1).1, (textR t (getR t 0).2.1).2.1, false) := by unfold k2; rw [e1]; exact txtS_yes h2
  exact ⟨e1, e2, by unfold k3; rw [e2]; exact numS_yes h3⟩
theorem hdr_bad {t : ByteArray} (h : ¬ ((getR t 0).2.2 = 0 ∧ (textR t (getR t 0).2.1).2.2 = 0 ∧ (getR t (textR t (getR t 0).2.1).2.1).2.2 = 0)) : ¬ pkGood t := by
  rintro ⟨h3, -⟩
  obtain ⟨hb2, c3, e3⟩ := numS_ok (show (numS t (k2 t).2.1 (k2 t).2.2).2.2 = false from h3)
  obtain ⟨hb1, c2, e2⟩ := txtS_ok (show (txtS t (k1 t).2.1 (k1 t).2.2).2.2 = false from hb2)
  obtain ⟨-, c1, e1⟩ := numS_ok (show (numS t 0 false).2.2 = false from hb1)
  have f1 : k1 t = ((getR t 0).1, (getR t 0).2.1, false) := e1
  rw [f1] at c2
  have f2 : k2 t = ((textR t (getR t 0).2.1).1, (textR t (getR t 0).2.1).2.1, false) := by unfold k2; rw [f1]; exact txtS_yes c2
  rw [f2] at c3
  exact h ⟨c1, c2, c3⟩
theorem textR_at (s : ByteArray) (x : Int) (hs : s.size ≤ maxLen) : (textR s x).2.1 ≤ 9223372036854775807 := by
  unfold maxLen at hs
  unfold textR
  split
  · split
    · simp
    · split
      · simp only; omega
      · simp
  · simp
/-- An error that is not the seal's, behind whatever layer. -/
def OddE (a : Nat → Addr) (v : Value) : Prop := (∃ c, v = eM c) ∨ (∃ i, 3 ≤ i ∧ i < 7 ∧ v = eP (a i)) ∨ (∃ c, v = eL stepW (eM c)) ∨ v = eL stepW (eP (a 4))
theorem OddE.not {a : Nat → Addr} {v : Value} (h : OddE a v) (s : ByteArray) (w : World) (hE : Sent w pkG a) : NotSeal (eL s v) a w := by
  intro j hj w' hb
  have hE' := hE.next hb
  have key : ∀ i, i < 7 → i ≠ j → ∃ ca ta cb tb, a i ≠ a j ∧ w'.heap[(a i).block]? = some (.cells ca ta (0, 0)) ∧ w'.heap[(a j).block]? = some (.cells cb tb (0, 0)) := fun i hi hne => by
    obtain ⟨ca, ta, ha⟩ := hE'.row i (pkG_lt hi)
    obtain ⟨cb, tb, hb⟩ := hE'.row j (pkG_lt (by omega))
    exact ⟨ca, ta, cb, tb, hE'.ne i j (pkG_lt hi) (pkG_lt (by omega)) hne, ha, hb⟩
  rcases h with ⟨c, rfl⟩ | ⟨i, h3, h7, rfl⟩ | ⟨c, rfl⟩ | rfl
  · exact is_LM c s (a j) w'
  · obtain ⟨ca, ta, cb, tb, hne, h1, h2⟩ := key i h7 (by omega)
    exact is_LPo (a i) s (a j) w' hne ca cb ta tb h1 h2
  · exact is_LLM c s stepW (a j) w'
  · obtain ⟨ca, ta, cb, tb, hne, h1, h2⟩ := key 4 (by omega) (by omega)
    exact is_LLPo (a 4) s stepW (a j) w' hne ca cb ta tb h1 h2
/-- What packageIn gives. -/
def PkIn (a : Nat → Addr) (t : ByteArray) (w : World) (e : Ending) (w' : World) : Prop :=
  (pkGood t ∧ ∃ v, e = .returned (.tuple #[pkV (k1 t).1 (k2 t).1 v, .nilIface]) ∧ Gr w' w.heap.size 59 4 v (kS t (k3 t).1.toNat).1.length (stpCs (kS t (k3 t).1.toNat).1) ∧ Below w.heap.size w w') ∨
  (¬ pkGood t ∧ ∃ T u, OddE a (.iface T u) ∧ e = .returned (.tuple #[.agg #[.int .i64 0, .string { data := #[] }, .slice none 0 0], .iface T u]) ∧ Below w.heap.size w w')
theorem three_setK {w w' : World} {g n : Nat} (h : Below g w w') (hn : g ≤ n) (a b c : Value) : Below g w (((w'.setCell ⟨n, 0, none⟩ a).setCell ⟨n, 1, none⟩ b).setCell ⟨n, 2, none⟩ c) :=
  ((h.setCell (p := ⟨n, 0, none⟩) hn a).setCell (p := ⟨n, 1, none⟩) hn b).setCell (p := ⟨n, 2, none⟩) hn c
theorem Bx.k3 {w : World} {n : Nat} {T : TypeId} {a b c : Value} (h : Bx w n T #[a, b, c]) : (w.cell? ⟨n, 0, none⟩ = some a ∧ w.cell? ⟨n, 1, none⟩ = some b ∧ w.cell? ⟨n, 2, none⟩ = some c) ∧ (w.frozen? ⟨n, 0, none⟩ = false ∧ w.frozen? ⟨n, 1, none⟩ = false ∧ w.frozen? ⟨n, 2, none⟩ = false) :=
  ⟨⟨h.t0, h.t1, h.t2⟩, h.frozen 0, h.frozen 1, h.frozen 2⟩
def InRel (t : ByteArray) (w WL : World) (nP : Nat) (b : Int) (d : ByteArray) (n : Nat) (x i : Value) (wr : World) : Prop :=
  ∃ (k : Nat) (v : Value), k ≤ n ∧ i = .int .i64 (k : Int) ∧ x = .int .i64 (kS t k).2.1 ∧ (kS t k).2.2 = false ∧ (kS t k).2.1 ≤ 9223372036854775807 ∧ Bx wr nP 24 #[.int .i64 b, .string d, v] ∧ Gr wr WL.heap.size 59 4 v (kS t k).1.length (stpCs (kS t k).1) ∧
    Bx wr w.heap.size 24 #[.int .i64 0, .string { data := #[] }, .slice none 0 0] ∧ Below w.heap.size w wr ∧ WL.heap.size ≤ wr.heap.size
theorem kS_step {t : ByteArray} {k : Nat} (h : (kS t k).2.2 = false) (hc : (textR t (kS t k).2.1).2.2 = 0) (hr : (rdR (textR t (kS t k).2.1).1).2 = 0) :
    kS t (k + 1) = ((kS t k).1 ++ [(rdR (textR t (kS t k).2.1).1).1], (textR t (kS t k).2.1).2.1, false) := by
  unfold kS at *
  simp only [stR]
  rw [h, txtS_yes hc]
  simp [hr]
theorem kS_badT {t : ByteArray} {k : Nat} (hc : ¬ (textR t (kS t k).2.1).2.2 = 0) : (kS t (k + 1)).2.2 = true := by
  unfold kS at *
  simp only [stR]
  cases hb : (stR t (k3 t).2.1 k).2.2 with
  | true => rw [txtS_bad]; rfl
  | false => rw [txtS_no hc]; rfl
theorem kS_badR {t : ByteArray} {k : Nat} (hc : (textR t (kS t k).2.1).2.2 = 0) (hr : ¬ (rdR (textR t (kS t k).2.1).1).2 = 0) : (kS t (k + 1)).2.2 = true := by
  unfold kS at *
  simp only [stR]
  cases hb : (stR t (k3 t).2.1 k).2.2 with
  | true => rw [txtS_bad]; rfl
  | false => rw [txtS_yes hc]; simp [hr]
theorem pkGood_bad {t : ByteArray} {k : Nat} (hk : (k : Int) < (k3 t).1) (h : (kS t (k + 1)).2.2 = true) : ¬ pkGood t := by
  rintro ⟨-, ⟨n0, n1⟩, hb, -⟩
  have : (kS t (k + 1)).2.2 = false := stR_good (by omega) hb
  rw [h] at this; cases this
end Go.Proofs.YtcpblmpapkhppaaGreatDoor
