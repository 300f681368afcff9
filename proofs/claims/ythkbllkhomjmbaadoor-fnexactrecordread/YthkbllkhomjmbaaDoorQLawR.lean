/- The exact law of RecordRead. -/
import Derived.Test.YthkbllkhomjmbaaDoorQRead
import Derived.Test.YthkbllkhomjmbaaDoorBIRead
namespace Go.Proofs.YthkbllkhomjmbaaDoor
open Go.RowKit

set_option maxHeartbeats 1000000 in
set_option maxRecDepth 100000 in
theorem recReadLaw (s : ByteArray) (y : Int) (aE : Nat → Addr) (w : World) (hs : s.size ≤ maxLen) (hL : Laid w) (hE : Sent w sealG aE) :
    Calls Tryd.prog 9 #[.string s, .int .i64 y] w fun e w' => e = .returned (.bool true) ∧ Below w.heap.size w w' := by
  have hs' := hs
  unfold maxLen at hs'
  by_cases hl : s.size ≤ 1048576
  · have d0 : decide ((1048576 : Int) < (s.size : Int)) = false := decide_eq_false (by omega)
    have HS := Lib.hid (fun w => specRecRead s y w hs)
    have HI := Lib.hid (fun w hL hE => implRecRead s y aE w hs hL hE)
    obtain ⟨R, hR⟩ : ∃ R, R = recRd s y := ⟨_, rfl⟩
    rw [← hR] at HS HI
    clear hR
    obtain ⟨⟨k, t, f, d⟩, c⟩ := R
    unfold soV at HS HI
    dsimp only at HS HI
    have HL := Lib.hid hL
    have HE := Lib.hid hE
    clear hL hE
    go_enter Tryd.func9, Tryd.ntmps9
    go_wp2_with fail
    refine (HS.out _).mono ?_
    rintro e w1 ⟨rfl, hb1⟩
    have b1 := below_alloc1 w1 (.cells #[.int .i64 k, .int .i64 t, .int .i64 f, .string d, .int .i64 c] 46)
    have T1 := Lib.hid (bx_new w1 46 #[.int .i64 k, .int .i64 t, .int .i64 f, .string d, .int .i64 c])
    have B1 := Lib.hid (hb1.trans (b1.mono hb1.size))
    clear hb1 b1
    go_wp2_with fail
    generalize w1.alloc (.cells #[.int .i64 k, .int .i64 t, .int .i64 f, .string d, .int .i64 c] 46) = W1 at *
    generalize w1.heap.size = n1 at *
    refine (HI.out _ (HL.out.below B1.out) (HE.out.next B1.out)).mono ?_
    rintro e w2 ⟨rfl, hb2⟩
    have b2 := below_alloc1 w2 (.cells #[.int .i64 k, .int .i64 t, .int .i64 f, .string d, .int .i64 c] 46)
    have T2 := Lib.hid (bx_new w2 46 #[.int .i64 k, .int .i64 t, .int .i64 f, .string d, .int .i64 c])
    have hbb := below_more hb2 b2
    obtain ⟨y0, y1, y2, y3, y4⟩ := (T1.out.next hbb).s0
    have B2 := Lib.hid (below_more B1.out hbb)
    clear hb2 b2 hbb HS HI
    obtain ⟨u0, u1, u2, u3, u4⟩ := T2.out.s0
    go_wp2_with fail
    clear y0 y1 y2 y3 y4 u0 u1 u2 u3 u4
    generalize w2.alloc (.cells #[.int .i64 k, .int .i64 t, .int .i64 f, .string d, .int .i64 c] 46) = W2 at *
    refine (eqStepOut_same k t f d c _).mono ?_
    rintro e w3 ⟨rfl, hb3⟩
    have B3 := Lib.hid (below_more B2.out hb3)
    clear hb3
    go_wp2_with fail
    go_ret
    exact ⟨rfl, B3.out⟩
  · have d0 : decide ((1048576 : Int) < (s.size : Int)) = true := decide_eq_true (by omega)
    go_enter Tryd.func9, Tryd.ntmps9
    go_wp2_with fail
    go_ret
    exact ⟨rfl, Below.refl _ _⟩
end Go.Proofs.YthkbllkhomjmbaaDoor
