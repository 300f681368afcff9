/- The drawn steps: spec.l01Src.l06Data, l06Step, l06Any. -/
import Derived.Test.YtcckpkcjekcajaaDoorM1
import Derived.Test.YtcckpkcjekcajaaDoorSource
namespace Go.Proofs.YtcckpkcjekcajaaDoor
open Go.RowKit

theorem below_kept {b : Nat} {w w' : World} (h : Below w.heap.size w w') : Kept b w w' := ⟨h.os, h.tape, h.output, h.size, fun k hk _ => h.block k hk⟩
theorem Src.below {w w' : World} {b : Nat} {a : Option Addr} {len cap : Nat} (h : Src w b a len cap) (hb : Below w.heap.size w w') : Src w' b a len cap := by
  obtain ⟨k, m, s, h1, h2, h3⟩ := h
  exact ⟨k, m, s, h1, by rw [hb.block b (lt_of_some h2)]; exact h2, h3⟩
theorem Bx.kept {w w' : World} {n b : Nat} {T : TypeId} {vs : Array Value} (h : Bx w n T vs) (hk : Kept b w w') (hn : n ≠ b) : Bx w' n T vs := (hk.block n h.lt (fun e => hn (Option.some.inj e))).trans h
def stpV (x : stpT) : Value := .agg #[.int .i64 x.1, .int .i64 x.2.1, .int .i64 x.2.2.1, .string x.2.2.2]
/-- A drawn step: few bytes, and a block that is an int64. -/
abbrev Sm (x : stpT) : Prop := x.2.2.2.size ≤ 10 ∧ -9223372036854775808 ≤ x.2.1 ∧ x.2.1 ≤ 9223372036854775807
/-- What a drawn step gives. -/
def DrawnX (b : Nat) (a : Option Addr) (len cap : Nat) (w : World) (e : Ending) (w' : World) : Prop :=
  ∃ x : stpT, Sm x ∧ e = .returned (stpV x) ∧ Src w' b a len cap ∧ Kept b w w'
/-- A string of a few is drawn. -/
def DrawnD (b : Nat) (a : Option Addr) (len cap : Nat) (w : World) (e : Ending) (w' : World) : Prop :=
  ∃ s : ByteArray, s.size ≤ 10 ∧ e = .returned (.string s) ∧ Src w' b a len cap ∧ Kept b w w'

set_option maxRecDepth 100000 in
set_option maxHeartbeats 1000000 in
theorem pick_any (b : Nat) (a : Option Addr) (len cap g : Nat) (w : World) (hS : Src w b a len cap) (hR : Row w a len b) (hg : ∀ j : Nat, j < 5 → ∃ s : ByteArray, s.size ≤ 10 ∧ w.cell? ⟨g, j, none⟩ = some (.string s)) (hl : g < w.heap.size) (hn : g ≠ b) :
    Calls Tryd.prog 68 #[.pointer (some ⟨b, 0, none⟩), .slice (some ⟨g, 0, none⟩) 5 5] w (DrawnD b a len cap w) := by
  have HC := Lib.hid (n_any b a len cap 5 w hS hR (by omega) (by omega))
  have HG := Lib.hid hg
  clear hS hR hg
  go_enter Tryd.func68, Tryd.ntmps68
  go_wp2_with fail
  refine HC.out.mono ?_
  rintro e w1 ⟨v, ⟨hv0, hv1⟩, rfl, hs, hk⟩
  obtain ⟨j, rfl⟩ := Int.eq_ofNat_of_zero_le hv0
  obtain ⟨s, hz, hc⟩ := HG.out j (by omega)
  have hc1 : w1.cell? ⟨g, j, none⟩ = some (.string s) := (hk.cell (p := ⟨g, j, none⟩) hl hn).trans hc
  have HS := Lib.hid hs
  have HK := Lib.hid hk
  clear hs hk hc HG HC
  go_wp2_with fail
  go_ret
  exact ⟨s, hz, rfl, HS.out, HK.out⟩

set_option maxRecDepth 100000 in
set_option maxHeartbeats 1000000 in
theorem data_any (b : Nat) (a : Option Addr) (len cap : Nat) (w : World) (hS : Src w b a len cap) (hR : Row w a len b) :
    Calls Tryd.prog 36 #[.pointer (some ⟨b, 0, none⟩)] w (DrawnD b a len cap w) := by
  have hbl := hS.lt
  have HS := Lib.hid hS
  have HR := Lib.hid hR
  clear hS hR
  go_enter Tryd.func36, Tryd.ntmps36
  go_wp2_with fail
  generalize hW : w.alloc _ = W
  have hk : Kept b w W := by rw [← hW]; exact (Kept.refl b w).alloc _
  have hs : Src W b a len cap := by rw [← hW]; exact HS.out.below (below_alloc1 w _)
  have hg : ∀ j : Nat, j < 5 → ∃ s : ByteArray, s.size ≤ 10 ∧ W.cell? ⟨w.heap.size, j, none⟩ = some (.string s) := by
    intro j hj
    rw [← hW]
    match j, hj with
    | 0, _ => exact ⟨_, by decide, (bx_new w _ _).cell 0⟩
    | 1, _ => exact ⟨_, by decide, (bx_new w _ _).cell 1⟩
    | 2, _ => exact ⟨_, by decide, (bx_new w _ _).cell 2⟩
    | 3, _ => exact ⟨_, by decide, (bx_new w _ _).cell 3⟩
    | 4, _ => exact ⟨_, by decide, (bx_new w _ _).cell 4⟩
  have hl : w.heap.size < W.heap.size := by rw [← hW]; simp
  clear hW
  have HK := Lib.hid hk
  have HC := Lib.hid (pick_any b a len cap w.heap.size W hs (HR.out.kept hk) hg hl (by omega))
  clear hk hs hg
  refine HC.out.mono ?_
  rintro e w1 ⟨s, hz, rfl, hs, hk⟩
  have HS1 := Lib.hid hs
  have HK1 := Lib.hid (HK.out.trans hk)
  clear hs hk
  go_wp2_with fail
  go_ret
  exact ⟨s, hz, rfl, HS1.out, HK1.out⟩


theorem Kept.box {b n : Nat} {w0 w : World} (h : Kept b w0 w) (i : Nat) (v : Value) (hn : w0.heap.size ≤ n) : Kept b w0 (w.setCell ⟨n, i, none⟩ v) :=
  ⟨h.os, h.tape, h.output, by simpa using h.size, fun k hk hne => by
    rw [Below.heap_setCell w ⟨n, i, none⟩ v k (by simp; omega)]
    exact h.block k hk hne⟩
theorem Src.box {w : World} {b n : Nat} {a : Option Addr} {len cap : Nat} (h : Src w b a len cap) (i : Nat) (v : Value) (hn : b ≠ n) : Src (w.setCell ⟨n, i, none⟩ v) b a len cap := by
  obtain ⟨k, m, s, h1, h2, h3⟩ := h
  exact ⟨k, m, s, h1, by rw [Below.heap_setCell w ⟨n, i, none⟩ v b hn]; exact h2, h3⟩
theorem Kept.four {b n : Nat} {w0 w : World} (h : Kept b w0 w) (hn : w0.heap.size ≤ n) (x y z u : Value) : Kept b w0 ((((w.setCell ⟨n, 0, none⟩ x).setCell ⟨n, 1, none⟩ y).setCell ⟨n, 2, none⟩ z).setCell ⟨n, 3, none⟩ u) :=
  (((h.box 0 x hn).box 1 y hn).box 2 z hn).box 3 u hn
theorem Src.four {w : World} {b n : Nat} {a : Option Addr} {len cap : Nat} (h : Src w b a len cap) (hn : b ≠ n) (x y z u : Value) : Src ((((w.setCell ⟨n, 0, none⟩ x).setCell ⟨n, 1, none⟩ y).setCell ⟨n, 2, none⟩ z).setCell ⟨n, 3, none⟩ u) b a len cap :=
  (((h.box 0 x hn).box 1 y hn).box 2 z hn).box 3 u hn
theorem Bx.four {w : World} {n m : Nat} {T : TypeId} {vs : Array Value} (h : Bx w n T vs) (hn : n ≠ m) (x y z u : Value) : Bx ((((w.setCell ⟨m, 0, none⟩ x).setCell ⟨m, 1, none⟩ y).setCell ⟨m, 2, none⟩ z).setCell ⟨m, 3, none⟩ u) n T vs :=
  (((h.other ⟨m, 0, none⟩ x hn).other ⟨m, 1, none⟩ y hn).other ⟨m, 2, none⟩ z hn).other ⟨m, 3, none⟩ u hn
theorem Bx.all4 {w : World} {n : Nat} {T : TypeId} {a b c d : Value} (h : Bx w n T #[a, b, c, d]) (x y z u : Value) : Bx ((((w.setCell ⟨n, 0, none⟩ x).setCell ⟨n, 1, none⟩ y).setCell ⟨n, 2, none⟩ z).setCell ⟨n, 3, none⟩ u) n T #[x, y, z, u] :=
  (((h.set (j := 0) x).set (j := 1) y).set (j := 2) z).set (j := 3) u
theorem Bx.cf4 {w : World} {n : Nat} {T : TypeId} {a b c d : Value} (h : Bx w n T #[a, b, c, d]) : (w.cell? ⟨n, 0, none⟩ = some a ∧ w.cell? ⟨n, 1, none⟩ = some b ∧ w.cell? ⟨n, 2, none⟩ = some c ∧ w.cell? ⟨n, 3, none⟩ = some d) ∧ (w.frozen? ⟨n, 0, none⟩ = false ∧ w.frozen? ⟨n, 1, none⟩ = false ∧ w.frozen? ⟨n, 2, none⟩ = false ∧ w.frozen? ⟨n, 3, none⟩ = false) :=
  ⟨⟨h.cell 0, h.cell 1, h.cell 2, h.cell 3⟩, h.frozen 0, h.frozen 1, h.frozen 2, h.frozen 3⟩
/-- The state of a draw of a step: the answer's box m0, the step's box n, the source. -/
structure XSt (b : Nat) (a : Option Addr) (len cap : Nat) (w : World) (m0 n : Nat) (x : stpT) (wr : World) : Prop where
  ans : Bx wr m0 33 #[.int .i64 0, .int .i64 0, .int .i64 0, .string { data := #[] }]
  box : Bx wr n 33 #[.int .i64 x.1, .int .i64 x.2.1, .int .i64 x.2.2.1, .string x.2.2.2]
  src : Src wr b a len cap
  kept : Kept b w wr
  m0b : m0 ≠ b
  nb : n ≠ b
  mn : m0 ≠ n
  lo : w.heap.size ≤ m0
  ln : w.heap.size ≤ n
section
variable {b : Nat} {a : Option Addr} {len cap : Nat} {w : World} {m0 n : Nat} {x : stpT} {w1 w2 : World}
theorem XSt.keep (h : XSt b a len cap w m0 n x w1) (hk : Kept b w1 w2) (hs : Src w2 b a len cap) : XSt b a len cap w m0 n x w2 :=
  ⟨h.ans.kept hk h.m0b, h.box.kept hk h.nb, hs, h.kept.trans hk, h.m0b, h.nb, h.mn, h.lo, h.ln⟩
theorem XSt.next (h : XSt b a len cap w m0 n x w1) (hb : Below w1.heap.size w1 w2) : XSt b a len cap w m0 n x w2 := h.keep (below_kept hb) (h.src.below hb)
theorem XSt.set0 (h : XSt b a len cap w m0 n x w1) (v : Int) : XSt b a len cap w m0 n (v, x.2.1, x.2.2.1, x.2.2.2) (w1.setCell ⟨n, 0, none⟩ (.int .i64 v)) :=
  ⟨h.ans.other ⟨n, 0, none⟩ _ h.mn, h.box.set (j := 0) _, h.src.box 0 _ (Ne.symm h.nb), h.kept.box 0 _ h.ln, h.m0b, h.nb, h.mn, h.lo, h.ln⟩
theorem XSt.set1 (h : XSt b a len cap w m0 n x w1) (v : Int) : XSt b a len cap w m0 n (x.1, v, x.2.2.1, x.2.2.2) (w1.setCell ⟨n, 1, none⟩ (.int .i64 v)) :=
  ⟨h.ans.other ⟨n, 1, none⟩ _ h.mn, h.box.set (j := 1) _, h.src.box 1 _ (Ne.symm h.nb), h.kept.box 1 _ h.ln, h.m0b, h.nb, h.mn, h.lo, h.ln⟩
theorem XSt.set2 (h : XSt b a len cap w m0 n x w1) (v : Int) : XSt b a len cap w m0 n (x.1, x.2.1, v, x.2.2.2) (w1.setCell ⟨n, 2, none⟩ (.int .i64 v)) :=
  ⟨h.ans.other ⟨n, 2, none⟩ _ h.mn, h.box.set (j := 2) _, h.src.box 2 _ (Ne.symm h.nb), h.kept.box 2 _ h.ln, h.m0b, h.nb, h.mn, h.lo, h.ln⟩
theorem XSt.set3 (h : XSt b a len cap w m0 n x w1) (v : ByteArray) : XSt b a len cap w m0 n (x.1, x.2.1, x.2.2.1, v) (w1.setCell ⟨n, 3, none⟩ (.string v)) :=
  ⟨h.ans.other ⟨n, 3, none⟩ _ h.mn, h.box.set (j := 3) _, h.src.box 3 _ (Ne.symm h.nb), h.kept.box 3 _ h.ln, h.m0b, h.nb, h.mn, h.lo, h.ln⟩
theorem XSt.all (h : XSt b a len cap w m0 n x w1) (y : stpT) : XSt b a len cap w m0 n y ((((w1.setCell ⟨n, 0, none⟩ (.int .i64 y.1)).setCell ⟨n, 1, none⟩ (.int .i64 y.2.1)).setCell ⟨n, 2, none⟩ (.int .i64 y.2.2.1)).setCell ⟨n, 3, none⟩ (.string y.2.2.2)) :=
  ⟨h.ans.four h.mn _ _ _ _, h.box.all4 _ _ _ _, h.src.four (Ne.symm h.nb) _ _ _ _, h.kept.four h.ln _ _ _ _, h.m0b, h.nb, h.mn, h.lo, h.ln⟩
/-- The answer stored. -/
theorem XSt.fin (h : XSt b a len cap w m0 n x w1) (p q r s : Value) : Src ((((w1.setCell ⟨m0, 0, none⟩ p).setCell ⟨m0, 1, none⟩ q).setCell ⟨m0, 2, none⟩ r).setCell ⟨m0, 3, none⟩ s) b a len cap ∧ Kept b w ((((w1.setCell ⟨m0, 0, none⟩ p).setCell ⟨m0, 1, none⟩ q).setCell ⟨m0, 2, none⟩ r).setCell ⟨m0, 3, none⟩ s) :=
  ⟨h.src.four (Ne.symm h.m0b) _ _ _ _, h.kept.four h.lo _ _ _ _⟩
end


set_option maxRecDepth 100000 in
set_option maxHeartbeats 4000000 in
theorem step_any (b : Nat) (a : Option Addr) (len cap : Nat) (w : World) (hS : Src w b a len cap) (hR : Row w a len b) :
    Calls Tryd.prog 41 #[.pointer (some ⟨b, 0, none⟩), .int .i64 4] w (DrawnX b a len cap w) := by
  have hbl := hS.lt
  have Z := #[Value.int .i64 0, Value.int .i64 0, Value.int .i64 0, Value.string { data := #[] }]
  have Y0 := Lib.hid (bx_new w 33 #[.int .i64 0, .int .i64 0, .int .i64 0, .string { data := #[] }])
  have K0 := Lib.hid ((Kept.refl b w).alloc (.cells #[.int .i64 0, .int .i64 0, .int .i64 0, .string { data := #[] }] 33))
  have S0 := Lib.hid (hS.below (below_alloc1 w (.cells #[.int .i64 0, .int .i64 0, .int .i64 0, .string { data := #[] }] 33)))
  have z0 := size_alloc1 w (.cells #[.int .i64 0, .int .i64 0, .int .i64 0, .string { data := #[] }] 33)
  have HR := Lib.hid hR
  clear hS hR Z
  go_enter Tryd.func41, Tryd.ntmps41
  go_wp2_with fail
  generalize w.alloc (.cells #[.int .i64 0, .int .i64 0, .int .i64 0, .string { data := #[] }] 33) = W0 at *
  refine (n_any b a len cap 4 W0 S0.out (HR.out.kept K0.out) (by omega) (by omega)).mono ?_
  rintro e w1 ⟨y, ⟨hy0, hy1⟩, rfl, hs1, hk1⟩
  have Y1 := Lib.hid (Y0.out.kept hk1 (by omega))
  have K1 := Lib.hid (K0.out.trans hk1)
  have S1 := Lib.hid hs1
  have g1 : W0.heap.size ≤ w1.heap.size := hk1.size
  clear hs1 hk1 Y0 S0 K0
  have m0 : wrap64 (1 + y) = 1 + y := IntWalk.wrap64_in _ (by omega)
  have m1 : IntKind.i64.wrap (1 + y) = 1 + y := IntWalk.i64_in _ (by omega)
  go_wp2_with fail
  refine (n_any b a len cap 4 w1 S1.out (HR.out.kept K1.out) (by omega) (by omega)).mono ?_
  rintro e w2 ⟨t, ⟨ht0, ht1⟩, rfl, hs2, hk2⟩
  have HT := Lib.hid (show -9223372036854775808 ≤ t ∧ t ≤ 9223372036854775807 by omega)
  have g2 : w1.heap.size ≤ w2.heap.size := hk2.size
  have ST2 := Lib.hid (show XSt b a len cap w w.heap.size w2.heap.size (1 + y, t, 0, ⟨#[]⟩) (w2.alloc (.cells #[.int .i64 (1 + y), .int .i64 t, .int .i64 0, .string { data := #[] }] 33)) from
    ⟨(Y1.out.kept hk2 (by omega)).next (below_alloc1 w2 _), bx_new w2 _ _, hs2.below (below_alloc1 w2 _), (K1.out.trans hk2).alloc _, by omega, by omega, by omega, Nat.le_refl _, by omega⟩)
  clear hs2 hk2 Y1 K1 S1 m0 m1
  have hy : y = 0 ∨ y = 1 ∨ y = 2 ∨ y = 3 := by omega
  rcases hy with rfl | rfl | rfl | rfl
  · replace ST2 : Hid (XSt b a len cap w w.heap.size w2.heap.size (1, t, 0, ⟨#[]⟩) (w2.alloc (.cells #[.int .i64 1, .int .i64 t, .int .i64 0, .string { data := #[] }] 33))) := ST2
    obtain ⟨⟨r0, r1, r2, r3⟩, s0, s1, s2, s3⟩ := ST2.out.ans.cf4
    obtain ⟨⟨q0, q1, q2, q3⟩, t0, t1, t2, t3⟩ := ST2.out.box.cf4
    go_wp2_with fail
    refine bodyPost_ret (v := stpV (1, t, 0, ⟨#[]⟩)) (by simp [stpV, results, Tryd.results41, go_sem, r0, r1, r2, r3]) rfl ⟨(1, t, 0, ⟨#[]⟩), ⟨Nat.zero_le _, HT.out⟩, rfl, ?_⟩
    exact ST2.out.fin _ _ _ _
  · obtain ⟨⟨q0, q1, q2, q3⟩, t0, t1, t2, t3⟩ := ST2.out.box.cf4
    go_wp2_with fail
    clear q0 q1 q2 q3 t0 t1 t2 t3
    have d0 := ST2.out.box.cf4.2.2.2.2
    refine (data_any b a len cap _ ST2.out.src (HR.out.kept ST2.out.kept)).mono ?_
    rintro e w4 ⟨d, hd, rfl, hs4, hk4⟩
    have ST4 := Lib.hid (ST2.out.keep hk4 hs4)
    obtain ⟨⟨q0, q1, q2, q3⟩, t0, t1, t2, t3⟩ := ST4.out.box.cf4
    have ST4' := Lib.hid (ST4.out.set3 d)
    clear hs4 hk4 d0
    obtain ⟨⟨r0, r1, r2, r3⟩, s0, s1, s2, s3⟩ := ST4'.out.ans.cf4
    obtain ⟨⟨u0, u1, u2, u3⟩, v0, v1, v2, v3⟩ := ST4'.out.box.cf4
    go_wp2_with fail
    refine bodyPost_ret (v := stpV (2, t, 0, d)) (by simp [stpV, results, Tryd.results41, go_sem, r0, r1, r2, r3]) rfl ⟨(2, t, 0, d), ⟨hd, HT.out⟩, rfl, ?_⟩
    exact ST4'.out.fin _ _ _ _
  · obtain ⟨⟨q0, q1, q2, q3⟩, t0, t1, t2, t3⟩ := ST2.out.box.cf4
    go_wp2_with fail
    clear q0 q1 q2 q3 t0 t1 t2 t3
    refine (n_any b a len cap 4 _ ST2.out.src (HR.out.kept ST2.out.kept) (by omega) (by omega)).mono ?_
    rintro e w3 ⟨f, ⟨hf0, hf1⟩, rfl, hs3, hk3⟩
    have ST3 := Lib.hid (ST2.out.keep hk3 hs3)
    obtain ⟨⟨q0, q1, q2, q3⟩, t0, t1, t2, t3⟩ := ST3.out.box.cf4
    have ST4 := Lib.hid (ST3.out.set2 f)
    obtain ⟨⟨u0, u1, u2, u3⟩, v0, v1, v2, v3⟩ := ST4.out.box.cf4
    clear hs3 hk3
    obtain ⟨⟨r0, r1, r2, r3⟩, s0, s1, s2, s3⟩ := ST4.out.ans.cf4
    go_wp2_with fail
    refine bodyPost_ret (v := stpV (3, t, f, ⟨#[]⟩)) (by simp [stpV, results, Tryd.results41, go_sem, r0, r1, r2, r3]) rfl ⟨(3, t, f, ⟨#[]⟩), ⟨Nat.zero_le _, HT.out⟩, rfl, ?_⟩
    exact ST4.out.fin _ _ _ _
  · obtain ⟨⟨q0, q1, q2, q3⟩, t0, t1, t2, t3⟩ := ST2.out.box.cf4
    go_wp2_with fail
    clear q0 q1 q2 q3 t0 t1 t2 t3
    refine (n_any b a len cap 4 _ ST2.out.src (HR.out.kept ST2.out.kept) (by omega) (by omega)).mono ?_
    rintro e w3 ⟨f, ⟨hf0, hf1⟩, rfl, hs3, hk3⟩
    have ST3 := Lib.hid (ST2.out.keep hk3 hs3)
    obtain ⟨⟨q0, q1, q2, q3⟩, t0, t1, t2, t3⟩ := ST3.out.box.cf4
    have ST4 := Lib.hid (ST3.out.set2 f)
    obtain ⟨⟨u0, u1, u2, u3⟩, v0, v1, v2, v3⟩ := ST4.out.box.cf4
    clear hs3 hk3
    go_wp2_with fail
    clear q0 q1 q2 q3 t0 t1 t2 t3 u0 u1 u2 u3 v0 v1 v2 v3
    have d0 := ST4.out.box.cf4.2.2.2.2
    refine (data_any b a len cap _ ST4.out.src (HR.out.kept ST4.out.kept)).mono ?_
    rintro e w4 ⟨d, hd, rfl, hs4, hk4⟩
    have ST5 := Lib.hid (ST4.out.keep hk4 hs4)
    obtain ⟨⟨q0, q1, q2, q3⟩, t0, t1, t2, t3⟩ := ST5.out.box.cf4
    have ST5' := Lib.hid (ST5.out.set3 d)
    clear hs4 hk4 d0
    obtain ⟨⟨r0, r1, r2, r3⟩, s0, s1, s2, s3⟩ := ST5'.out.ans.cf4
    obtain ⟨⟨u0, u1, u2, u3⟩, v0, v1, v2, v3⟩ := ST5'.out.box.cf4
    go_wp2_with fail
    refine bodyPost_ret (v := stpV (4, t, f, d)) (by simp [stpV, results, Tryd.results41, go_sem, r0, r1, r2, r3]) rfl ⟨(4, t, f, d), ⟨hd, HT.out⟩, rfl, ?_⟩
    exact ST5'.out.fin _ _ _ _
end Go.Proofs.YtcckpkcjekcajaaDoor
