/- The exact law of RecordBytes. -/
import Derived.Test.YthkbllkhomjmbaaQRB
import Derived.Test.YthkbllkhomjmbaaBLaw1
namespace Go.Proofs.Ythkbllkhomjmbaa
open Go.RowKit

set_option maxRecDepth 100000 in
set_option maxHeartbeats 2000000 in
theorem recBytesLaw (n k t f : Int) (d : ByteArray) (w : World) (hd : d.size ≤ maxLen) :
    Calls Try.prog 3 #[.int .i64 n, .agg #[.int .i64 k, .int .i64 t, .int .i64 f, .string d]] w fun e w' => e = .returned (.bool true) ∧ Below w.heap.size w w' := by
  obtain ⟨R, hR⟩ : ∃ R, R = recBs n (k, t, f, d) := ⟨_, rfl⟩
  have HR := Lib.hid hR
  clear hR
  have B0 := Lib.hid (below_alloc1 w (.cells #[.int .i64 k, .int .i64 t, .int .i64 f, .string d] 23))
  have X := Lib.hid (bx_new w 23 #[.int .i64 k, .int .i64 t, .int .i64 f, .string d])
  go_enter Try.func3, Try.ntmps3
  go_wp2_with fail
  refine (szStep_any _ _ _ _ 1048576 _ hd (by decide) (by decide)).mono ?_
  rintro e w1 ⟨r, rfl, hb, hq⟩
  have B := Lib.hid (below_more B0.out hb)
  replace X := Lib.hid (X.out.next hb)
  clear hb
  rcases hq with rfl | ⟨r0, r1, r2⟩
  · go_wp2_with fail
    go_ret
    exact ⟨rfl, B.out⟩
  have d0 : decide (r < 0) = false := decide_eq_false (by omega)
  have c0 := X.out.q0
  have c1 := X.out.q1
  have c2 := X.out.q2
  have c3 := X.out.q3
  go_wp2_with fail
  clear c0 c1 c2 c3
  refine (toStep_any k t f d _).mono ?_
  rintro e w2 ⟨rfl, hb⟩
  replace B := Lib.hid (below_more B.out hb)
  replace X := Lib.hid (X.out.next hb)
  clear hb
  have c0 := X.out.q0
  have c1 := X.out.q1
  have c2 := X.out.q2
  have c3 := X.out.q3
  go_wp2_with fail
  clear c0 c1 c2 c3
  have hc := specRecBs n k t f d w2
  rw [← HR.out] at hc
  refine hc.mono ?_
  clear hc
  rintro e w3 ⟨rfl, hb⟩
  replace B := Lib.hid (below_more B.out hb)
  replace X := Lib.hid (X.out.next hb)
  clear hb
  have c0 := X.out.q0
  have c1 := X.out.q1
  have c2 := X.out.q2
  have c3 := X.out.q3
  go_wp2_with fail
  clear c0 c1 c2 c3
  refine (toStep_any k t f d _).mono ?_
  rintro e w4 ⟨rfl, hb⟩
  replace B := Lib.hid (below_more B.out hb)
  replace X := Lib.hid (X.out.next hb)
  clear hb
  have c0 := X.out.q0
  have c1 := X.out.q1
  have c2 := X.out.q2
  have c3 := X.out.q3
  go_wp2_with fail
  clear c0 c1 c2 c3
  have hc := implRecBs n k t f d w4
  rw [← HR.out] at hc
  refine hc.mono ?_
  clear hc
  rintro e w5 ⟨rfl, hb⟩
  replace B := Lib.hid (below_more B.out hb)
  replace X := Lib.hid (X.out.next hb)
  clear hb
  skip
  go_wp2_with fail
  go_ret
  exact ⟨rfl, B.out⟩
end Go.Proofs.Ythkbllkhomjmbaa
