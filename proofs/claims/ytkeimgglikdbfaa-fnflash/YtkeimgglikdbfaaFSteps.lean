/- The steps of the loop's region. -/
import Derived.Test.YtkeimgglikdbfaaFBase
namespace Go.Proofs.Ytkeimgglikdbfaa
open Go.RowKit
section
variable {W : World} {T : TypeId} {b : Nat} {a : Option Addr} {len cap : Nat} {A : Value} {Z : Array Value} {P : OM → Prop} {l : Nat → Bool} {w1 w2 : World} {v5 v16 v17 v18 v19 v20 v21 v22 v23 : Value}
theorem J5.p0 (h : J5 W T b a len cap A Z P l w1 v5 v16 v17 v18 v19 v20 v21 v22 v23) : J5 W T b a len cap A Z P (fun j => j == 0 || l j) w1 v5 A v17 v18 v19 v20 v21 v22 v23 := ⟨h.kept, h.src, n9_add (by decide) h.n9, fun _ => rfl, h.k1, h.k2, h.k3, h.k4, h.k5, h.k6, h.k7, h.k8, h.k9⟩
theorem J5.p1 (h : J5 W T b a len cap A Z P l w1 v5 v16 v17 v18 v19 v20 v21 v22 v23) : J5 W T b a len cap A Z P (fun j => j == 1 || l j) w1 v5 v16 (Ptr b) v18 v19 v20 v21 v22 v23 := ⟨h.kept, h.src, n9_add (by decide) h.n9, h.k0, fun _ => rfl, h.k2, h.k3, h.k4, h.k5, h.k6, h.k7, h.k8, h.k9⟩
theorem J5.p2 (h : J5 W T b a len cap A Z P l w1 v5 v16 v17 v18 v19 v20 v21 v22 v23) (x : Int) : J5 W T b a len cap A Z P (fun j => j == 2 || l j) w1 v5 v16 v17 (.int .i64 x) v19 v20 v21 v22 v23 := ⟨h.kept, h.src, n9_add (by decide) h.n9, h.k0, h.k1, fun _ => ⟨x, rfl⟩, h.k3, h.k4, h.k5, h.k6, h.k7, h.k8, h.k9⟩
theorem J5.p3 (h : J5 W T b a len cap A Z P l w1 v5 v16 v17 v18 v19 v20 v21 v22 v23) : J5 W T b a len cap A Z P (fun j => j == 3 || l j) w1 v5 v16 v17 v18 (Ptr b) v20 v21 v22 v23 := ⟨h.kept, h.src, n9_add (by decide) h.n9, h.k0, h.k1, h.k2, fun _ => rfl, h.k4, h.k5, h.k6, h.k7, h.k8, h.k9⟩
theorem J5.p4 (h : J5 W T b a len cap A Z P l w1 v5 v16 v17 v18 v19 v20 v21 v22 v23) : J5 W T b a len cap A Z P (fun j => j == 4 || l j) w1 v5 v16 v17 v18 v19 (Ptr b) v21 v22 v23 := ⟨h.kept, h.src, n9_add (by decide) h.n9, h.k0, h.k1, h.k2, h.k3, fun _ => rfl, h.k5, h.k6, h.k7, h.k8, h.k9⟩
theorem J5.p5 (h : J5 W T b a len cap A Z P l w1 v5 v16 v17 v18 v19 v20 v21 v22 v23) (n : Nat) (hn : n < 5) : J5 W T b a len cap A Z P (fun j => j == 5 || l j) w1 v5 v16 v17 v18 v19 v20 (.int .i64 (n : Int)) v22 v23 := ⟨h.kept, h.src, n9_add (by decide) h.n9, h.k0, h.k1, h.k2, h.k3, h.k4, fun _ => ⟨n, hn, rfl⟩, h.k6, h.k7, h.k8, h.k9⟩
theorem J5.p6 (h : J5 W T b a len cap A Z P l w1 v5 v16 v17 v18 v19 v20 v21 v22 v23) (s : ByteArray) (hs : s.size ≤ 5) : J5 W T b a len cap A Z P (fun j => j == 6 || l j) w1 v5 v16 v17 v18 v19 v20 v21 (.string s) v23 := ⟨h.kept, h.src, n9_add (by decide) h.n9, h.k0, h.k1, h.k2, h.k3, h.k4, h.k5, fun _ => ⟨s, hs, rfl⟩, h.k7, h.k8, h.k9⟩
theorem J5.p7 (h : J5 W T b a len cap A Z P l w1 v5 v16 v17 v18 v19 v20 v21 v22 v23) (hl : l 7 = false) (hb : b < W.heap.size) (O : OM) (sv dv : Value) (hP : P O) (hg : FG w2 w1.heap.size sv dv O.fl) (hw : Below w1.heap.size w1 w2) : J5 W T b a len cap A Z P (fun j => j == 7 || l j) w2 v5 v16 v17 v18 v19 v20 v21 v22 (.agg #[sv, dv, .string O.data, .int .i64 O.code]) := by
  have h9 := h.off (by decide) hl
  have g := h.keep (below_kept hw) (h.src.below hw) hb
  refine ⟨g.kept, g.src, n9_add (by decide) h.n9, h.k0, h.k1, h.k2, h.k3, h.k4, h.k5, h.k6, fun _ => ⟨O, sv, dv, hP, rfl, hg.lower h.kept.size, fun p e8 ep k hk => ?_⟩, g.k8, fun e => ?_⟩
  · obtain ⟨p', q1, -, q3⟩ := h.k8 e8 h9
    have : p = p' := by rw [q1] at ep; simpa using ep.symm
    have := q3.lt
    have := (hg.in k hk).1
    omega
  · have e : l 9 = true := e
    rw [h9] at e; cases e
theorem J5.p8 (h : J5 W T b a len cap A Z P l w1 v5 v16 v17 v18 v19 v20 v21 v22 v23) (hl : l 8 = false) (hb : b < W.heap.size) : J5 W T b a len cap A Z P (fun j => j == 8 || l j) (w1.alloc (.cells Z T)) (Ptr w1.heap.size) v16 v17 v18 v19 v20 v21 v22 v23 := by
  have h9 := h.off (by decide) hl
  have hw := below_alloc1 w1 (.cells Z T)
  have g := h.keep (below_kept hw) (h.src.below hw) hb
  refine ⟨g.kept, g.src, n9_add (by decide) h.n9, h.k0, h.k1, h.k2, h.k3, h.k4, h.k5, h.k6, fun e => ?_, fun _ _ => ⟨_, rfl, h.kept.size, bx_new w1 T Z⟩, fun e => ?_⟩
  · obtain ⟨O, sv, dv, q1, q2, q3, q4⟩ := h.k7 e
    refine ⟨O, sv, dv, q1, q2, q3.kept (below_kept hw) hb, fun p _ ep k hk => ?_⟩
    have : w1.heap.size = p := by simpa using ep
    have := (q3.in k hk).2
    omega
  · have e : l 9 = true := e
    rw [h9] at e; cases e
end
section
variable {W : World} {T : TypeId} {b : Nat} {a : Option Addr} {len cap : Nat} {A : Value} {z0 z1 z2 z3 : Value} {P : OM → Prop} {l : Nat → Bool} {w1 w2 : World} {v5 v16 v17 v18 v19 v20 v21 v22 v23 : Value}
theorem J5.p9 (h : J5 W T b a len cap A #[z0, z1, z2, z3] P l w1 v5 v16 v17 v18 v19 v20 v21 v22 v23) (hl : l 9 = false) (hall : ∀ i, i < 9 → l i = true) (hb : b < W.heap.size) : ∃ (p : Nat) (O : OM) (sv dv : Value), v5 = Ptr p ∧ v23 = .agg #[sv, dv, .string O.data, .int .i64 O.code] ∧ Bx w1 p T #[z0, z1, z2, z3] ∧ FG w1 W.heap.size sv dv O.fl ∧ J5 W T b a len cap A #[z0, z1, z2, z3] P (fun j => j == 9 || l j) (set4 w1 p sv dv (.string O.data) (.int .i64 O.code)) v5 v16 v17 v18 v19 v20 v21 v22 v23 := by
  obtain ⟨p, q1, q2, q3⟩ := h.k8 (hall 8 (by decide)) hl
  obtain ⟨O, sv, dv, r1, r2, r3, r4⟩ := h.k7 (hall 7 (by decide))
  have ap := r4 p (hall 8 (by decide)) q1
  refine ⟨p, O, sv, dv, q1, r2, q3, r3, ⟨h.kept.set4 q2 _ _ _ _, h.src.set4 (by omega) _ _ _ _, fun i hi _ => by simp [hall i hi], h.k0, h.k1, h.k2, h.k3, h.k4, h.k5, h.k6, fun e => ⟨O, sv, dv, r1, r2, r3.set4 ap _ _ _ _, r4⟩, fun _ e => ?_, fun _ => ⟨p, O, sv, dv, q1, q2, r1, q3.set4 _ _ _ _, r3.set4 ap _ _ _ _, ap⟩⟩⟩
  have e : true = false := e
  cases e
end
end Go.Proofs.Ytkeimgglikdbfaa
