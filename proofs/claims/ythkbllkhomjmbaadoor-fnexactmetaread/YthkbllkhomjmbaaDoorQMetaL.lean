/- The program's MetaRead, whole, and its law. -/
import Derived.Test.YthkbllkhomjmbaaDoorQMetaR
namespace Go.Proofs.YthkbllkhomjmbaaDoor
open Go.RowKit

set_option maxHeartbeats 4000000 in
set_option maxRecDepth 100000 in
theorem implMetaR (s : ByteArray) (a : Nat → Addr) (w : World) (hs : s.size ≤ maxLen) (hL : Laid w) (hE : Sent w metaG a) :
    Calls Tryd.prog 44 #[.string s] w fun e w' => e = .returned (metaV (metaR s)) ∧ Below w.heap.size w w' := by
  have hcode := metaR_code s
  have HC := Lib.hid (fun w => readCopy_any s a w hs)
  obtain ⟨R, hR⟩ : ∃ R, R = metaR s := ⟨_, rfl⟩
  rw [← hR] at hcode HC ⊢
  clear hR
  have HL := Lib.hid hL
  have HE := Lib.hid hE
  clear hL hE
  have Y0 := Lib.hid (bx_new w 57 #[.int .i64 0, .string { data := #[] }, .int .i64 0])
  have b0 := below_alloc1 w (.cells #[.int .i64 0, .string { data := #[] }, .int .i64 0] 57)
  have z0 := size_alloc1 w (.cells #[.int .i64 0, .string { data := #[] }, .int .i64 0] 57)
  have B0 := Lib.hid b0
  clear b0
  go_enter Tryd.func44, Tryd.ntmps44
  go_wp2_with fail
  generalize w.alloc (.cells #[.int .i64 0, .string { data := #[] }, .int .i64 0] 57) = W0 at *
  refine (HC.out W0 (HL.out.below B0.out) (HE.out.next B0.out)).mono ?_
  rintro e w1 ⟨rfl, hb1⟩
  have g1 : W0.heap.size ≤ w1.heap.size := hb1.size
  rcases hcode with h0 | ⟨h1, h2⟩
  · obtain ⟨n, x, c⟩ := R
    obtain rfl : c = 0 := h0
    have hv : copyU a (n, x, 0) = .tuple #[.agg #[.int .i64 0, .int .i64 n, .string x], .nilIface] := if_pos rfl
    rw [hv]
    have b1 := below_alloc1 w1 (.cells #[.int .i64 0, .int .i64 n, .string x] 112)
    have bb := hb1.trans (b1.mono g1)
    have y := Y0.out.next bb
    have r0 := y.t0
    have r1 := y.t1
    have r2 := y.t2
    have s0 := y.frozen 0
    have s1 := y.frozen 1
    have s2 := y.frozen 2
    have B1 := Lib.hid (B0.out.trans (bb.mono (by omega)))
    clear hb1 b1 bb y HC
    go_wp2_with fail
    refine bodyPost_ret (v := metaV (n, x, 0)) (by simp [metaV, results, Tryd.results44, go_sem, r0, r1, r2]) rfl ⟨rfl, ?_⟩
    exact ((B1.out.setCell (p := ⟨w.heap.size, 0, none⟩) (Nat.le_refl _) _).setCell (p := ⟨w.heap.size, 1, none⟩) (Nat.le_refl _) _).setCell (p := ⟨w.heap.size, 2, none⟩) (Nat.le_refl _) _
  · obtain ⟨c, hc⟩ : ∃ c, c = R.2.2 := ⟨_, rfl⟩
    rw [← hc] at h1 h2
    subst h2
    have hcn : ¬ c = 0 := by omega
    have hv : copyU a (0, ⟨#[]⟩, c) = .tuple #[.agg #[.int .i64 0, .int .i64 0, .string ⟨#[]⟩], eL metaW (eP (a (errM c)))] := if_neg hcn
    rw [hv]
    have HM := Lib.hid (fun w => metaCode_any c h1 a w)
    generalize errM c = ie at *
    unfold eL eP at HM ⊢
    have b1 := below_alloc1 w1 (.cells #[.int .i64 0, .int .i64 0, .string ⟨#[]⟩] 112)
    have bb := hb1.trans (b1.mono g1)
    have Y1 := Lib.hid (Y0.out.next bb)
    have B1 := Lib.hid (B0.out.trans (bb.mono (by omega)))
    clear hb1 b1 bb HC Y0 B0
    go_wp2_with fail
    refine (HM.out _ (HE.out.next B1.out)).mono ?_
    rintro e w2 ⟨rfl, hb2⟩
    have y := Y1.out.next hb2
    have r0 := y.t0
    have r1 := y.t1
    have r2 := y.t2
    have s0 := y.frozen 0
    have s1 := y.frozen 1
    have s2 := y.frozen 2
    have B2 := Lib.hid (B1.out.trans (hb2.mono B1.out.size))
    clear hb2 y Y1 B1
    go_wp2_with fail
    refine bodyPost_ret (v := metaV (0, ⟨#[]⟩, c)) (by simp [metaV, results, Tryd.results44, go_sem, r0, r1, r2]) rfl ⟨rfl, ?_⟩
    exact ((B2.out.setCell (p := ⟨w.heap.size, 0, none⟩) (Nat.le_refl _) _).setCell (p := ⟨w.heap.size, 1, none⟩) (Nat.le_refl _) _).setCell (p := ⟨w.heap.size, 2, none⟩) (Nat.le_refl _) _

set_option maxHeartbeats 1000000 in
set_option maxRecDepth 100000 in
theorem eqMeta_same (R : Int × ByteArray × Int) (w : World) :
    Calls Tryd.prog 45 #[metaV R, metaV R] w fun e w' => e = .returned (.bool true) ∧ Below w.heap.size w w' := by
  obtain ⟨n, x, c⟩ := R
  unfold metaV
  dsimp only
  have d0 : (n != n) = false := by simp
  have d1 : (x.toList != x.toList) = false := by simp
  have d2 : (c != c) = false := by simp
  go_enter Tryd.func45, Tryd.ntmps45
  go_wp2_with fail
  go_ret
  exact ⟨rfl, ((Below.refl _ w).alloc (Nat.le_refl _) _).alloc (by simp) _⟩

set_option maxHeartbeats 1000000 in
set_option maxRecDepth 100000 in
theorem metaReadLaw (s : ByteArray) (a : Nat → Addr) (w : World) (hs : s.size ≤ maxLen) (hL : Laid w) (hE : Sent w metaG a) :
    Calls Tryd.prog 7 #[.string s] w fun e w' => e = .returned (.bool true) ∧ Below w.heap.size w w' := by
  have hs' := hs
  unfold maxLen at hs'
  by_cases hl : s.size ≤ 1048576
  · have d0 : decide ((1048576 : Int) < (s.size : Int)) = false := decide_eq_false (by omega)
    have HQ := Lib.hid (eqMeta_same (metaR s))
    have HS := Lib.hid (fun w => specMetaR s w hs)
    have HI := Lib.hid (fun w => implMetaR s a w hs)
    obtain ⟨R, hR⟩ : ∃ R, R = metaR s := ⟨_, rfl⟩
    rw [← hR] at HQ HS HI
    clear hR
    obtain ⟨n, x, c⟩ := R
    unfold metaV at HQ HS HI
    dsimp only at HQ HS HI
    have HL := Lib.hid hL
    have HE := Lib.hid hE
    clear hL hE
    go_enter Tryd.func7, Tryd.ntmps7
    go_wp2_with fail
    refine (HS.out _).mono ?_
    rintro e w1 ⟨rfl, hb1⟩
    have b1 := below_alloc1 w1 (.cells #[.int .i64 n, .string x, .int .i64 c] 57)
    have T1 := Lib.hid (bx_new w1 57 #[.int .i64 n, .string x, .int .i64 c])
    have B1 := Lib.hid (hb1.trans (b1.mono hb1.size))
    clear hb1 b1
    go_wp2_with fail
    generalize w1.alloc (.cells #[.int .i64 n, .string x, .int .i64 c] 57) = W1 at *
    generalize w1.heap.size = n1 at *
    clear w1
    refine (HI.out _ (HL.out.below B1.out) (HE.out.next B1.out)).mono ?_
    rintro e w2 ⟨rfl, hb2⟩
    have b2 := below_alloc1 w2 (.cells #[.int .i64 n, .string x, .int .i64 c] 57)
    have b12 := hb2.trans (b2.mono hb2.size)
    have t2 := T1.out.next b12
    have k0 := t2.t0
    have k1 := t2.t1
    have k2 := t2.t2
    have B2 := Lib.hid (B1.out.trans (b12.mono B1.out.size))
    clear hb2 b2 b12 t2
    go_wp2_with fail
    clear k0 k1 k2
    refine (HQ.out _).mono ?_
    rintro e w3 ⟨rfl, hb3⟩
    have B3 := Lib.hid (B2.out.trans (hb3.mono B2.out.size))
    clear hb3
    go_wp2_with fail
    go_ret
    exact ⟨rfl, B3.out⟩
  · have d0 : decide ((1048576 : Int) < (s.size : Int)) = true := decide_eq_true (by omega)
    go_enter Tryd.func7, Tryd.ntmps7
    go_wp2_with fail
    go_ret
    exact ⟨rfl, Below.refl _ _⟩
end Go.Proofs.YthkbllkhomjmbaaDoor
