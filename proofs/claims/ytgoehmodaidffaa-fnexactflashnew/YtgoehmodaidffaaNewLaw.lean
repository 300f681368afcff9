/- The exact law of FlashNew. -/
import Derived.Test.YtgoehmodaidffaaINew
import Derived.Test.YtgoehmodaidffaaLBox
namespace Go.Proofs.Ytgoehmodaidffaa
open Go.RowKit

theorem fresh_fits (n : Int) : FFits (freshOf n) := by
  unfold freshOf FFits
  split
  · rename_i h; simp; omega
  · simp [noFlash]

set_option maxHeartbeats 2000000 in
set_option maxRecDepth 100000 in
theorem newLaw (n : Int) (w : World) :
    Calls Try.prog 5 #[.int .i64 n] w fun e w' => e = .returned (.bool true) ∧ Below w.heap.size w w' := by
  obtain ⟨F, hF⟩ : ∃ F, F = freshOf n := ⟨_, rfl⟩
  have HF := Lib.hid hF
  have hf : FFits F := hF ▸ fresh_fits n
  have hq : ((((1 : Nat) + F.sec.length + F.dir.length * 2 : Nat) : Int) < 0) = False := by simp; omega
  have Q := Lib.hid hf
  obtain ⟨f1, f2⟩ := hf
  obtain ⟨c, hc⟩ : ∃ c : Int, c = (((1 : Nat) + F.sec.length + F.dir.length * 2 : Nat) : Int) := ⟨_, rfl⟩
  have d0 : decide (c < 0) = false := decide_eq_false (by omega)
  have HC := Lib.hid hc
  clear hF hq hc f1 f2
  go_enter Try.func5, Try.ntmps5
  go_wp2_with fail
  refine (specNew n w).mono ?_
  rintro e w1 ⟨tv, ev, rfl, ho1, hb1⟩
  rw [← HF.out] at ho1
  obtain ⟨a1, p1, rfl, -⟩ := id ho1.1.2
  obtain ⟨a2, p2, rfl, -⟩ := id ho1.2.1.2
  have O1 := Lib.hid ho1
  have B1 := Lib.hid hb1
  clear ho1 hb1
  go_wp2_with fail
  have x1 := bx_new w1 26 #[.slice a1 F.sec.length p1, .slice a2 F.dir.length p2]
  have b1 := below_alloc1 w1 (.cells #[.slice a1 F.sec.length p1, .slice a2 F.dir.length p2] 26)
  have z1 := size_alloc1 w1 (.cells #[.slice a1 F.sec.length p1, .slice a2 F.dir.length p2] 26)
  generalize w1.alloc (.cells #[.slice a1 F.sec.length p1, .slice a2 F.dir.length p2] 26) = W1 at *
  have g1 : w.heap.size ≤ w1.heap.size := B1.out.size
  have O1' := Lib.hid (O1.out.below b1 (Nat.le_refl _))
  have B1' := Lib.hid (B1.out.trans (b1.mono g1))
  have X1 := Lib.hid x1
  clear O1 B1 b1 x1
  generalize w1.heap.size = n1 at *
  clear w1
  refine (implNew n W1).mono ?_
  rintro e w2 ⟨sv, dv, rfl, ho2, hb2⟩
  rw [← HF.out] at ho2
  obtain ⟨a3, p3, rfl, -⟩ := id ho2.1.2
  obtain ⟨a4, p4, rfl, -⟩ := id ho2.2.1.2
  have O2 := Lib.hid ho2
  have B2 := Lib.hid hb2
  have c10 := ((X1.out.next hb2).next (below_alloc1 w2 (.cells #[.slice a3 F.sec.length p3, .slice a4 F.dir.length p4] 26))).c0
  have c11 := ((X1.out.next hb2).next (below_alloc1 w2 (.cells #[.slice a3 F.sec.length p3, .slice a4 F.dir.length p4] 26))).c1
  clear ho2 hb2
  go_wp2_with fail
  have x2 := bx_new w2 26 #[.slice a3 F.sec.length p3, .slice a4 F.dir.length p4]
  have b2 := below_alloc1 w2 (.cells #[.slice a3 F.sec.length p3, .slice a4 F.dir.length p4] 26)
  have z2 := size_alloc1 w2 (.cells #[.slice a3 F.sec.length p3, .slice a4 F.dir.length p4] 26)
  generalize w2.alloc (.cells #[.slice a3 F.sec.length p3, .slice a4 F.dir.length p4] 26) = W2 at *
  have g2 : W1.heap.size ≤ w2.heap.size := B2.out.size
  have b12 : Below W1.heap.size W1 W2 := B2.out.trans (b2.mono g2)
  have x1 := X1.out.next b12
  have O2' := Lib.hid (O2.out.below b2 (Nat.le_refl _))
  have I2 := Lib.hid (O2.out.in)
  have O1'' := Lib.hid (O1'.out.below b12 (Nat.le_refl _))
  have I1 := Lib.hid (O1'.out.in)
  have B2' := Lib.hid (B1'.out.trans (b12.mono (by omega)))
  have X1' := Lib.hid x1
  have X2 := Lib.hid x2
  clear O1' B1' O2 B2 b2 b12 X1 x1 x2
  generalize w2.heap.size = n2 at *
  clear w2
  refine (eqFlash_any _ _ _ _ F W2 O2'.out.rd O1''.out.rd Q.out).mono ?_
  rintro e w3 ⟨rfl, hb3⟩
  have g3 : W2.heap.size ≤ w3.heap.size := hb3.size
  have x1 := X1'.out.next hb3
  have x2 := X2.out.next hb3
  have e10 := x1.c0
  have e11 := x1.c1
  have e20 := x2.c0
  have e21 := x2.c1
  have O2w := Lib.hid (O2'.out.below hb3 (Nat.le_refl _))
  have O1w := Lib.hid (O1''.out.below hb3 (Nat.le_refl _))
  have B3 := Lib.hid (B2'.out.trans (hb3.mono (by omega)))
  have Y1 := Lib.hid x1
  have Y2 := Lib.hid x2
  clear O2' O1'' X1' X2 x1 x2 hb3 c10 c11 B2'
  go_wp2_with fail
  refine (markFlash_any W1.heap.size _ _ F 1 w3 O2w.out Q.out (by omega) (by omega)).mono ?_
  rintro e w4 ⟨rfl, hm, ht⟩
  rw [← HC.out]
  have hb4 : Below W1.heap.size w3 w4 := ht.keepBelow (fun k hk => (I2.out k hk).1) (by omega)
  have x1 := Y1.out.below hb4 (by omega)
  have x2 := Y2.out.two ht (fun e => by have := (I2.out n2 (.inl e.symm)).2; omega) (fun e => by have := (I2.out n2 (.inr e.symm)).2; omega)
  have g4 : w3.heap.size ≤ w4.heap.size := hb4.size
  have c10 := x1.c0
  have c11 := x1.c1
  have c20 := x2.c0
  have c21 := x2.c1
  have M4 := Lib.hid hm
  have T4 := Lib.hid (O1w.out.two ht (fun k hk => by
    have h1 := (I1.out k hk).2
    exact ⟨fun e => by have := (I2.out k (.inl e.symm)).1; omega, fun e => by have := (I2.out k (.inr e.symm)).1; omega⟩))
  have B4 := Lib.hid (B3.out.trans (hb4.mono (by omega)))
  have Y1' := Lib.hid x1
  have Y2' := Lib.hid x2
  clear hm ht hb4 x1 x2 e10 e11 e20 e21 B3 Y1 Y2 O2w O1w
  go_wp2_with fail
  refine (heldFlash_any W1.heap.size _ _ F.sec.length F.dir.length 1 w4 M4.out Q.out.1 Q.out.2 (by omega) (by omega)).mono ?_
  rintro e w5 ⟨rfl, hb5⟩
  rw [← HC.out]
  have g5 : w4.heap.size ≤ w5.heap.size := hb5.size
  have Y1 := Lib.hid (Y1'.out.next hb5)
  have Y2 := Lib.hid (Y2'.out.next hb5)
  have M5 := Lib.hid (M4.out.below hb5 (Nat.le_refl _))
  have T5 := Lib.hid (T4.out.below hb5 (Nat.le_refl _))
  have B5 := Lib.hid (B4.out.trans (hb5.mono (by omega)))
  clear hb5 M4 T4 B4 Y1' Y2' c10 c11 c20 c21
  go_wp2_with fail
  refine (implNew n w5).mono ?_
  rintro e w6 ⟨uv, fv, rfl, ho6, hb6⟩
  rw [← HF.out] at ho6
  obtain ⟨a5, p5, rfl, -⟩ := id ho6.1.2
  obtain ⟨a6, p6, rfl, -⟩ := id ho6.2.1.2
  have b6 := below_alloc1 w6 (.cells #[.slice a5 F.sec.length p5, .slice a6 F.dir.length p6] 26)
  have b56 : Below w5.heap.size w5 (w6.alloc (.cells #[.slice a5 F.sec.length p5, .slice a6 F.dir.length p6] 26)) := hb6.trans (b6.mono hb6.size)
  have c10 := (Y1.out.next b56).c0
  have c11 := (Y1.out.next b56).c1
  have O6 := Lib.hid (ho6.below b6 (Nat.le_refl _))
  have Z1 := Lib.hid (Y1.out.next b56)
  have Z2 := Lib.hid (Y2.out.next b56)
  have M6 := Lib.hid (M5.out.below b56 (Nat.le_refl _))
  have T6 := Lib.hid (T5.out.below b56 (Nat.le_refl _))
  have B6 := Lib.hid (B5.out.trans (b56.mono (by omega)))
  have g6 : w5.heap.size ≤ (w6.alloc (.cells #[.slice a5 F.sec.length p5, .slice a6 F.dir.length p6] 26)).heap.size := b56.size
  clear ho6 hb6 b6 b56 Y1 Y2 M5 T5 B5
  go_wp2_with fail
  generalize w6.alloc (.cells #[.slice a5 F.sec.length p5, .slice a6 F.dir.length p6] 26) = W6 at *
  refine (eqFlash_any _ _ _ _ F W6 O6.out.rd T6.out.rd Q.out).mono ?_
  rintro e w7 ⟨rfl, hb7⟩
  have g7 : W6.heap.size ≤ w7.heap.size := hb7.size
  have c20 := (Z2.out.next hb7).c0
  have c21 := (Z2.out.next hb7).c1
  have M7 := Lib.hid (M6.out.below hb7 (Nat.le_refl _))
  have B7 := Lib.hid (B6.out.trans (hb7.mono (by omega)))
  clear hb7 O6 Z1 Z2 M6 T6 B6 c10 c11
  go_wp2_with fail
  refine (heldFlash_any W1.heap.size _ _ F.sec.length F.dir.length 1 w7 M7.out Q.out.1 Q.out.2 (by omega) (by omega)).mono ?_
  rintro e w8 ⟨rfl, hb8⟩
  rw [← HC.out]
  have B8 := Lib.hid (B7.out.trans (hb8.mono (by omega)))
  clear hb8
  go_wp2_with fail
  go_ret
  exact ⟨rfl, B8.out⟩
end Go.Proofs.Ytgoehmodaidffaa
