/- spec.DrawStepRead, spec.DrawStepRight. -/
import Derived.Test.YthkbllkhomjmbaaDoorM2
namespace Go.Proofs.YthkbllkhomjmbaaDoor
open Go.RowKit

theorem stepBs_size (k t f : Int) (d : ByteArray) : (stepBs k t f d).size ≤ 48 := by
  unfold stepBs
  split
  · rename_i h
    obtain ⟨k0, k1, t0, t1, f0, f1, d1⟩ := ok_bounds h
    have z1 := putS_size k (by omega) (by omega)
    have z2 := putS_size t (by omega) (by omega)
    have z3 := putS_size f (by omega) (by omega)
    have z4 := putS_size d.size (by omega) (by omega)
    unfold stepS
    simp only [ByteArray.size_append]
    omega
  · exact Nat.zero_le _
/-- A string drawn from bytes. -/
def DrawnStr (m : Nat) (w : World) (e : Ending) (w' : World) : Prop := ∃ s : ByteArray, s.size ≤ m ∧ e = .returned (.string s) ∧ Below w.heap.size w w'
set_option maxRecDepth 100000 in
set_option maxHeartbeats 4000000 in
theorem drawRead_any (a : Option Addr) (len cap : Nat) (w : World) (hB : Bytes w a len) (hl : len ≤ 1048576) :
    Calls Tryd.prog 30 #[.slice a len cap] w (DrawnStr 1001 w) := by
  have HB := Lib.hid hB
  clear hB
  go_enter Tryd.func30, Tryd.ntmps30
  go_wp2_with fail
  refine (source_any a len cap w HB.out hl).mono ?_
  rintro e w1 ⟨rfl, hs1, hb1⟩
  have hbl := hs1.lt
  have HS1 := Lib.hid hs1
  have HR := Lib.hid (HB.out.row hb1 (Nat.le_refl _))
  have HB1 := Lib.hid hb1
  have hz1 := hb1.size
  clear hs1 hb1
  go_wp2_with fail
  refine (any_any w.heap.size a len cap w1 HS1.out HR.out).mono ?_
  rintro e w2 ⟨x, hx, rfl, hs2, hk2⟩
  unfold stpV
  have HS2 := Lib.hid hs2
  have HK2 := Lib.hid hk2
  clear hs2 hk2 HS1
  go_wp2_with fail
  refine (specStepBs _ _ _ _ _).mono ?_
  rintro e w3 ⟨rfl, hb3⟩
  have HS3 := Lib.hid (HS2.out.grown (below_grown hb3) (by simp))
  have HK3 := Lib.hid (HK2.out.trans (show Kept w.heap.size w2 w3 from ⟨hb3.os, hb3.tape, hb3.output, hb3.size, fun k hk _ => hb3.block k hk⟩))
  have hts := stepBs_size x.1 x.2.1 x.2.2.1 x.2.2.2
  generalize stepBs x.1 x.2.1 x.2.2.1 x.2.2.2 = t at *
  clear hb3 HS2 HK2
  go_wp2_with fail
  refine (n_any w.heap.size a len cap 4 w3 HS3.out (HR.out.kept HK3.out) (by omega) (by omega)).mono ?_
  rintro e w4 ⟨v, ⟨hv0, hv1⟩, rfl, hs4, hk4⟩
  have HS4 := Lib.hid hs4
  have HK4 := Lib.hid (HK3.out.trans hk4)
  clear hs4 hk4 HS3 HK3
  have hv : v = 0 ∨ v = 1 ∨ v = 2 ∨ v = 3 := by omega
  clear hv0 hv1
  rcases hv with rfl | rfl | rfl | rfl
  · go_wp2_with fail
    refine (spoil_any w.heap.size a len cap t w4 HS4.out (HR.out.kept HK4.out) (by omega)).mono ?_
    rintro e w5 ⟨s, hs, rfl, hs5, hk5⟩
    have HK5 := Lib.hid (HK4.out.trans hk5)
    clear hs5 hk5 HS4 HK4
    go_wp2_with fail
    go_ret
    exact ⟨s, hs, rfl, HB1.out.trans (HK5.out.below (Nat.le_refl _) hz1)⟩
  · have m0 : wrap64 ((t.size : Int) + 1) = ((t.size + 1 : Nat) : Int) := by rw [IntWalk.wrap64_in _ (by omega)]; omega
    go_wp2_with fail
    refine (n_any1 w.heap.size a len cap (t.size + 1) w4 HS4.out (HR.out.kept HK4.out) (by omega) (by omega)).mono ?_
    rintro e w5 ⟨j, hj, rfl, hs5, hk5⟩
    have HK5 := Lib.hid (HK4.out.trans hk5)
    have e0 : (0 : Int) ≤ (j : Int) := by omega
    have e1 : (j : Int) ≤ (t.size : Int) := by omega
    clear hs5 hk5 HS4 HK4 m0
    go_wp2_with fail
    go_ret
    exact ⟨_, by simp [ByteArray.size_extract]; omega, rfl, HB1.out.trans (HK5.out.below (Nat.le_refl _) hz1)⟩
  · go_wp2_with fail
    go_ret
    exact ⟨t, by omega, rfl, HB1.out.trans (HK4.out.below (Nat.le_refl _) hz1)⟩
  · go_wp2_with fail
    go_ret
    exact ⟨t, by omega, rfl, HB1.out.trans (HK4.out.below (Nat.le_refl _) hz1)⟩
/-- A step and a number drawn from bytes. -/
def DrawnSN (w : World) (e : Ending) (w' : World) : Prop := ∃ (x : stpT) (n : Int), x.2.2.2.size ≤ 10 ∧ e = .returned (.tuple #[stpV x, .int .i64 n]) ∧ Below w.heap.size w w'
theorem XSt.cells {b : Nat} {a : Option Addr} {len cap : Nat} {w : World} {m0 n : Nat} {x : stpT} {w1 : World} (h : XSt b a len cap w m0 n x w1) :
    w1.cell? ⟨n, 0, none⟩ = some (.int .i64 x.1) ∧ w1.cell? ⟨n, 1, none⟩ = some (.int .i64 x.2.1) ∧ w1.cell? ⟨n, 2, none⟩ = some (.int .i64 x.2.2.1) ∧ w1.cell? ⟨n, 3, none⟩ = some (.string x.2.2.2) := h.box.cf4.1
theorem XSt.cellsS {b : Nat} {a : Option Addr} {len cap : Nat} {w : World} {m0 n : Nat} {x : stpT} {w1 : World} (h : XSt b a len cap w m0 n x w1) (p q r s : Value) :
    ((((w1.setCell ⟨m0, 0, none⟩ p).setCell ⟨m0, 1, none⟩ q).setCell ⟨m0, 2, none⟩ r).setCell ⟨m0, 3, none⟩ s).cell? ⟨n, 0, none⟩ = some (.int .i64 x.1) ∧ ((((w1.setCell ⟨m0, 0, none⟩ p).setCell ⟨m0, 1, none⟩ q).setCell ⟨m0, 2, none⟩ r).setCell ⟨m0, 3, none⟩ s).cell? ⟨n, 1, none⟩ = some (.int .i64 x.2.1) ∧ ((((w1.setCell ⟨m0, 0, none⟩ p).setCell ⟨m0, 1, none⟩ q).setCell ⟨m0, 2, none⟩ r).setCell ⟨m0, 3, none⟩ s).cell? ⟨n, 2, none⟩ = some (.int .i64 x.2.2.1) ∧ ((((w1.setCell ⟨m0, 0, none⟩ p).setCell ⟨m0, 1, none⟩ q).setCell ⟨m0, 2, none⟩ r).setCell ⟨m0, 3, none⟩ s).cell? ⟨n, 3, none⟩ = some (.string x.2.2.2) := (h.box.four (Ne.symm h.mn) p q r s).cf4.1
def set4x (w : World) (m : Nat) (p q r s : Value) : World := (((w.setCell ⟨m, 0, none⟩ p).setCell ⟨m, 1, none⟩ q).setCell ⟨m, 2, none⟩ r).setCell ⟨m, 3, none⟩ s
theorem set4x_size (w : World) (m : Nat) (p q r s : Value) : (set4x w m p q r s).heap.size = w.heap.size := by simp [set4x]
theorem XSt.drew {b : Nat} {a : Option Addr} {len cap : Nat} {w : World} {m0 n : Nat} {x : stpT} {w1 : World} (h : XSt b a len cap w m0 n x w1) : XSt b a len cap w m0 n x w1.drew := ⟨h.ans, h.box, h.src, h.kept.drew, h.m0b, h.nb, h.mn, h.lo, h.ln⟩
set_option maxRecDepth 100000 in
set_option maxHeartbeats 4000000 in
theorem drawRight_any (a : Option Addr) (len cap : Nat) (w : World) (hB : Bytes w a len) (hl : len ≤ 1048576) :
    Calls Tryd.prog 28 #[.slice a len cap] w (DrawnSN w) := by
  have b0 := below_alloc1 w (.cells #[.int .i64 0, .int .i64 0, .int .i64 0, .string { data := #[] }] 41)
  have z0 := size_alloc1 w (.cells #[.int .i64 0, .int .i64 0, .int .i64 0, .string { data := #[] }] 41)
  have Y0 := Lib.hid (bx_new w 41 #[.int .i64 0, .int .i64 0, .int .i64 0, .string { data := #[] }])
  have HB := Lib.hid (hB.below b0)
  have B0 := Lib.hid b0
  clear hB b0
  go_enter Tryd.func28, Tryd.ntmps28
  go_wp2_with fail
  generalize w.alloc (.cells #[.int .i64 0, .int .i64 0, .int .i64 0, .string { data := #[] }] 41) = W0 at *
  refine (source_any a len cap W0 HB.out hl).mono ?_
  rintro e w1 ⟨he, hs1, hb1⟩
  rw [z0] at hs1 he
  obtain ⟨sb, hsb⟩ : ∃ sb, sb = w.heap.size + 1 := ⟨_, rfl⟩
  have hrow := HB.out.row hb1 (Nat.le_refl _)
  rw [z0] at hrow
  rw [← hsb] at hs1 hrow he
  subst he
  have hbl := hs1.lt
  have HS1 := Lib.hid hs1
  have HR := Lib.hid hrow
  have HB1 := Lib.hid (below_more B0.out hb1)
  have Y1 := Lib.hid (Y0.out.next hb1)
  have hz1 := HB1.out.size
  have K1 := Lib.hid (show Kept sb w w1 from ⟨HB1.out.os, HB1.out.tape, HB1.out.output, HB1.out.size, fun k hk _ => HB1.out.block k hk⟩)
  have hsb1 : w.heap.size < sb := by omega
  clear hs1 hb1 Y0 B0 hrow z0 HB HB1 hsb
  go_wp2_with fail
  refine (any_any sb a len cap w1 HS1.out HR.out).mono ?_
  rintro e w2 ⟨x, hx, rfl, hs2, hk2⟩
  unfold stpV
  have g2 : w1.heap.size ≤ w2.heap.size := hk2.size
  have ST2 := Lib.hid (show XSt sb a len cap w w.heap.size w2.heap.size x (w2.alloc (.cells #[.int .i64 x.1, .int .i64 x.2.1, .int .i64 x.2.2.1, .string x.2.2.2] 41)) from
    ⟨(Y1.out.kept hk2 (by omega)).next (below_alloc1 w2 _), bx_new w2 _ _, hs2.below (below_alloc1 w2 _), (K1.out.trans hk2).alloc _, by omega, by omega, by omega, Nat.le_refl _, by omega⟩)
  have HRK := Lib.hid (HR.out.kept (hk2.alloc (.cells #[.int .i64 x.1, .int .i64 x.2.1, .int .i64 x.2.2.1, .string x.2.2.2] 41)))
  clear hs2 hk2 Y1 K1 HS1 HR
  go_wp2_with fail
  generalize w2.alloc (.cells #[.int .i64 x.1, .int .i64 x.2.1, .int .i64 x.2.2.1, .string x.2.2.2] 41) = W2 at *
  generalize w2.heap.size = n at *
  obtain ⟨c0, c1, c2, c3⟩ := ST2.out.cells
  have STa := Lib.hid (ST2.out.next (below_alloc1 W2 (.cells #[.int .i64 4, .int .i64 8, .int .i64 3, .int .i64 0, .int .i64 9] 2)))
  have RWa := Lib.hid (HRK.out.kept ((Kept.refl sb W2).alloc (.cells #[.int .i64 4, .int .i64 8, .int .i64 3, .int .i64 0, .int .i64 9] 2)))
  have BX := Lib.hid (bx_new W2 2 #[.int .i64 4, .int .i64 8, .int .i64 3, .int .i64 0, .int .i64 9])
  have hgb : W2.heap.size ≠ sb := by have := ST2.out.src.lt; omega
  have hgm : W2.heap.size ≠ w.heap.size := by have := ST2.out.ans.lt; omega
  obtain ⟨a0, a1, a2, a3⟩ := STa.out.drew.cells
  go_region_with
    ((first
      | (go_at_call 64; (with_reducible show Calls _ _ _ (W2.alloc (.cells #[.int .i64 4, .int .i64 8, .int .i64 3, .int .i64 0, .int .i64 9] 2)).drew _); refine (n_any sb a len cap 5 (W2.alloc (.cells #[.int .i64 4, .int .i64 8, .int .i64 3, .int .i64 0, .int .i64 9] 2)).drew STa.out.drew.src (RWa.out.kept (Kept.refl _ _).drew) (by omega) (by omega)).mono ?_; rintro e w5 ⟨v, ⟨hv0, hv1⟩, rfl, hs5, hk5⟩; obtain ⟨j, rfl⟩ := Int.eq_ofNat_of_zero_le hv0; obtain ⟨zz, hzz⟩ := ints5 4 8 3 0 9 j (by omega); have hcell := (BX.out.kept ((Kept.refl sb (W2.alloc (.cells #[.int .i64 4, .int .i64 8, .int .i64 3, .int .i64 0, .int .i64 9] 2))).drew.trans hk5) hgb).cell j; have hcellS := ((BX.out.kept ((Kept.refl sb (W2.alloc (.cells #[.int .i64 4, .int .i64 8, .int .i64 3, .int .i64 0, .int .i64 9] 2))).drew.trans hk5) hgb).four hgm (.int .i64 x.1) (.int .i64 x.2.1) (.int .i64 x.2.2.1) (.string x.2.2.2)).cell j; rw [hzz] at hcell hcellS; have T6 := Lib.hid (STa.out.drew.keep hk5 hs5); obtain ⟨p0, p1, p2, p3⟩ := T6.out.cells; obtain ⟨⟨r0, r1, r2, r3⟩, s0, s1, s2, s3⟩ := T6.out.ans.cf4; clear hs5 hk5)
      | (go_at_call 64; (with_reducible show Calls _ _ _ W2.drew _); refine (n_any sb a len cap 5 W2.drew ST2.out.drew.src (HRK.out.kept (Kept.refl _ _).drew) (by omega) (by omega)).mono ?_; rintro e w5 ⟨v, ⟨hv0, hv1⟩, rfl, hs5, hk5⟩; obtain ⟨j, rfl⟩ := Int.eq_ofNat_of_zero_le hv0; obtain ⟨zz, hzz⟩ := ints5 4 8 3 0 9 j (by omega); have hgm5 : w5.heap.size ≠ w.heap.size := Nat.ne_of_gt (Nat.lt_of_lt_of_le ST2.out.ans.lt hk5.size); have hcell := (bx_new w5 2 #[.int .i64 4, .int .i64 8, .int .i64 3, .int .i64 0, .int .i64 9]).cell j; have hcellS := ((bx_new w5 2 #[.int .i64 4, .int .i64 8, .int .i64 3, .int .i64 0, .int .i64 9]).four hgm5 (.int .i64 x.1) (.int .i64 x.2.1) (.int .i64 x.2.2.1) (.string x.2.2.2)).cell j; rw [hzz] at hcell hcellS; have T5 := Lib.hid (ST2.out.drew.keep hk5 hs5); have T6 := Lib.hid (T5.out.next (below_alloc1 w5 (.cells #[.int .i64 4, .int .i64 8, .int .i64 3, .int .i64 0, .int .i64 9] 2))); obtain ⟨p0, p1, p2, p3⟩ := T5.out.cells; obtain ⟨g0, g1, g2', g3⟩ := T6.out.cells; obtain ⟨⟨r0, r1, r2, r3⟩, s0, s1, s2, s3⟩ := T6.out.ans.cf4; obtain ⟨⟨r4, r5, r6, r7⟩, s4, s5, s6, s7⟩ := T5.out.ans.cf4; have hcellC := (bx_new (set4x w5 w.heap.size (.int .i64 x.1) (.int .i64 x.2.1) (.int .i64 x.2.2.1) (.string x.2.2.2)) 2 #[.int .i64 4, .int .i64 8, .int .i64 3, .int .i64 0, .int .i64 9]).cell j; rw [hzz, set4x_size] at hcellC; unfold set4x at hcellC; clear hs5 hk5)))
  all_goals first
    | (obtain ⟨⟨u0, u1, u2, u3⟩, v0, v1, v2, v3⟩ := (T6.out.ans.all4 (.int .i64 x.1) (.int .i64 x.2.1) (.int .i64 x.2.2.1) (.string x.2.2.2)).cf4
       go_wp2_with fail
       refine bodyPost_ret (v := .tuple #[stpV x, .int .i64 zz]) (by simp [stpV, results, Tryd.results28, go_sem, r0, r1, r2, r3, u0, u1, u2, u3]) rfl ⟨x, zz, hx, rfl, ?_⟩
       exact (T6.out.fin _ _ _ _).2.below (by omega) (Nat.le_refl _))
    | (obtain ⟨⟨u0, u1, u2, u3⟩, v0, v1, v2, v3⟩ := ((T5.out.ans.all4 (.int .i64 x.1) (.int .i64 x.2.1) (.int .i64 x.2.2.1) (.string x.2.2.2)).next (below_alloc1 _ (.cells #[.int .i64 4, .int .i64 8, .int .i64 3, .int .i64 0, .int .i64 9] 2))).cf4
       go_wp2_with fail
       refine bodyPost_ret (v := .tuple #[stpV x, .int .i64 zz]) (by simp [stpV, results, Tryd.results28, go_sem, r4, r5, r6, r7, u0, u1, u2, u3]) rfl ⟨x, zz, hx, rfl, ?_⟩
       exact ((T5.out.fin _ _ _ _).2.alloc _).below (by omega) (Nat.le_refl _))
end Go.Proofs.YthkbllkhomjmbaaDoor
