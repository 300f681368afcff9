/- What the law FnFlash draws: a number of sectors, a torn text. -/
import Derived.Test.YtkeimgglikdbfaaFDraw2
namespace Go.Proofs.Ytkeimgglikdbfaa
open Go.RowKit

/-- A number. -/
def DrawnNum (W : World) (e : Ending) (w' : World) : Prop := ∃ x : Int, (-9223372036854775808 ≤ x ∧ x ≤ 9223372036854775807) ∧ e = .returned (.int .i64 x) ∧ Below W.heap.size W w'
/-- Two texts and a fate. -/
def DrawnTorn (W : World) (e : Ending) (w' : World) : Prop := ∃ (s t : ByteArray) (x : Int), s.size ≤ 8 ∧ t.size ≤ 8 ∧ (-9223372036854775808 ≤ x ∧ x ≤ 9223372036854775807) ∧ e = .returned (.tuple #[.string s, .string t, .int .i64 x]) ∧ Below W.heap.size W w'

set_option maxHeartbeats 1000000 in
set_option maxRecDepth 100000 in
theorem drawNew_any (a : Option Addr) (len cap : Nat) (w : World) (hB : Bytes w a len) (hl : len ≤ 1048576) :
    Calls Try.prog 10 #[.slice a len cap] w (DrawnNum w) := by
  have HB := Lib.hid hB
  clear hB
  go_enter Try.func10, Try.ntmps10
  go_wp2_with fail
  refine (source_any a len cap _ HB.out hl).mono ?_
  rintro e w1 ⟨rfl, hs1, hb1⟩
  have S1 := Lib.hid hs1
  have B1 := Lib.hid hb1
  have R1 := Lib.hid (HB.out.row hb1 (Nat.le_refl _))
  clear hs1 hb1
  go_wp2_with fail
  refine (one_any w.heap.size a len cap 4 _ S1.out R1.out (by omega) (by omega)).mono ?_
  rintro e w2 ⟨bb, rfl, hs2, hk2⟩
  have S2 := Lib.hid hs2
  have R2 := Lib.hid (R1.out.kept hk2)
  have B2 := Lib.hid (B1.out.trans (hk2.below (Nat.le_refl _) B1.out.size))
  clear hs2 hk2 S1 R1 B1
  cases bb with
  | true =>
    go_wp2_with fail
    refine (edge_any w.heap.size a len cap _ S2.out R2.out).mono ?_
    rintro e w3 ⟨x, hx, rfl, hs3, hk3⟩
    have S3 := Lib.hid hs3
    have R3 := Lib.hid (R2.out.kept hk3)
    have B3 := Lib.hid (B2.out.trans (hk3.below (Nat.le_refl _) B2.out.size))
    have hlt := hs3.lt
    clear hs3 hk3 S2 R2 B2
    go_wp2_with fail
    have b4 := below_alloc1 w3 (.cells #[.int .i64 0, .int .i64 1, .int .i64 40, .int .i64 41, .int .i64 x] 2)
    have S4 := Lib.hid (S3.out.below b4)
    have R4 := Lib.hid (R3.out.kept (below_kept b4))
    have B4 := Lib.hid (B3.out.trans (b4.mono B3.out.size))
    have X4 := Lib.hid (bx_new w3 2 #[.int .i64 0, .int .i64 1, .int .i64 40, .int .i64 41, .int .i64 x])
    clear b4
    generalize w3.alloc (.cells #[.int .i64 0, .int .i64 1, .int .i64 40, .int .i64 41, .int .i64 x] 2) = W4 at *
    refine (n_any w.heap.size a len cap 5 _ S4.out R4.out (by omega) (by omega)).mono ?_
    rintro e w5 ⟨z, ⟨hz0, hz1⟩, rfl, hs5, hk5⟩
    have hx5 := X4.out.kept hk5 (by omega)
    have B5 := Lib.hid (B4.out.trans (hk5.below (Nat.le_refl _) B4.out.size))
    obtain ⟨j, rfl⟩ := Int.eq_ofNat_of_zero_le hz0
    obtain ⟨f, hf, hfb⟩ : ∃ f : Int, w5.cell? ⟨w3.heap.size, j, none⟩ = some (.int .i64 f) ∧ (-9223372036854775808 ≤ f ∧ f ≤ 9223372036854775807) := by
      have hj : j = 0 ∨ j = 1 ∨ j = 2 ∨ j = 3 ∨ j = 4 := by omega
      rcases hj with rfl | rfl | rfl | rfl | rfl
      · exact ⟨0, hx5.cell 0, by omega⟩
      · exact ⟨1, hx5.cell 1, by omega⟩
      · exact ⟨40, hx5.cell 2, by omega⟩
      · exact ⟨41, hx5.cell 3, by omega⟩
      · exact ⟨x, hx5.cell 4, hx⟩
    have e1 : (j : Int) < 5 := by omega
    have e2 : j < 5 := by omega
    clear hs5 hk5 hx5 X4
    go_wp2_with fail
    go_ret
    exact ⟨f, hfb, rfl, B5.out⟩
  | false =>
    go_wp2_with fail
    refine (n_any w.heap.size a len cap 20 _ S2.out R2.out (by omega) (by omega)).mono ?_
    rintro e w3 ⟨x, ⟨hx0, hx1⟩, rfl, hs3, hk3⟩
    have B3 := Lib.hid (B2.out.trans (hk3.below (Nat.le_refl _) B2.out.size))
    clear hs3 hk3
    go_wp2_with fail
    go_ret
    exact ⟨x, by omega, rfl, B3.out⟩

set_option maxHeartbeats 1000000 in
set_option maxRecDepth 100000 in
theorem drawTorn_any (a : Option Addr) (len cap : Nat) (w : World) (hB : Bytes w a len) (hl : len ≤ 1048576) :
    Calls Try.prog 11 #[.slice a len cap] w (DrawnTorn w) := by
  have HB := Lib.hid hB
  clear hB
  go_enter Try.func11, Try.ntmps11
  go_wp2_with fail
  refine (source_any a len cap _ HB.out hl).mono ?_
  rintro e w1 ⟨rfl, hs1, hb1⟩
  have S1 := Lib.hid hs1
  have B1 := Lib.hid hb1
  have R1 := Lib.hid (HB.out.row hb1 (Nat.le_refl _))
  clear hs1 hb1
  go_wp2_with fail
  refine (n_any w.heap.size a len cap 9 _ S1.out R1.out (by omega) (by omega)).mono ?_
  rintro e w2 ⟨x2, ⟨h20, h21⟩, rfl, hs2, hk2⟩
  obtain ⟨j2, rfl⟩ := Int.eq_ofNat_of_zero_le h20
  have S2 := Lib.hid hs2
  have R2 := Lib.hid (R1.out.kept hk2)
  have B2 := Lib.hid (B1.out.trans (hk2.below (Nat.le_refl _) B1.out.size))
  clear hs2 hk2 S1 R1 B1
  go_wp2_with fail
  refine (bytes_any w.heap.size a len cap j2 _ S2.out R2.out (by omega)).mono ?_
  rintro e w3 ⟨s, hss, rfl, hs3, hk3⟩
  have S3 := Lib.hid hs3
  have R3 := Lib.hid (R2.out.kept hk3)
  have B3 := Lib.hid (B2.out.trans (hk3.below (Nat.le_refl _) B2.out.size))
  clear hs3 hk3 S2 R2 B2
  go_wp2_with fail
  refine (n_any w.heap.size a len cap 9 _ S3.out R3.out (by omega) (by omega)).mono ?_
  rintro e w4 ⟨x4, ⟨h40, h41⟩, rfl, hs4, hk4⟩
  obtain ⟨j4, rfl⟩ := Int.eq_ofNat_of_zero_le h40
  have S4 := Lib.hid hs4
  have R4 := Lib.hid (R3.out.kept hk4)
  have B4 := Lib.hid (B3.out.trans (hk4.below (Nat.le_refl _) B3.out.size))
  clear hs4 hk4 S3 R3 B3
  go_wp2_with fail
  refine (bytes_any w.heap.size a len cap j4 _ S4.out R4.out (by omega)).mono ?_
  rintro e w5 ⟨t, htt, rfl, hs5, hk5⟩
  have S5 := Lib.hid hs5
  have R5 := Lib.hid (R4.out.kept hk5)
  have B5 := Lib.hid (B4.out.trans (hk5.below (Nat.le_refl _) B4.out.size))
  clear hs5 hk5 S4 R4 B4
  go_wp2_with fail
  refine (one_any w.heap.size a len cap 8 _ S5.out R5.out (by omega) (by omega)).mono ?_
  rintro e w6 ⟨bb, rfl, hs6, hk6⟩
  have S6 := Lib.hid hs6
  have R6 := Lib.hid (R5.out.kept hk6)
  have B6 := Lib.hid (B5.out.trans (hk6.below (Nat.le_refl _) B5.out.size))
  clear hs6 hk6 S5 R5 B5
  cases bb with
  | true =>
    go_wp2_with fail
    refine (edge_any w.heap.size a len cap _ S6.out R6.out).mono ?_
    rintro e w7 ⟨x, hx, rfl, hs7, hk7⟩
    have B7 := Lib.hid (B6.out.trans (hk7.below (Nat.le_refl _) B6.out.size))
    clear hs7 hk7
    go_wp2_with fail
    exact bodyPost_ret (v := .tuple #[.string s, .string t, .int .i64 x]) (by simp [results, Try.results11, go_sem]) rfl ⟨s, t, x, by omega, by omega, hx, rfl, B7.out⟩
  | false =>
    go_wp2_with fail
    refine (n_any w.heap.size a len cap 14 _ S6.out R6.out (by omega) (by omega)).mono ?_
    rintro e w7 ⟨x, ⟨hx0, hx1⟩, rfl, hs7, hk7⟩
    have B7 := Lib.hid (B6.out.trans (hk7.below (Nat.le_refl _) B6.out.size))
    clear hs7 hk7
    go_wp2_with fail
    exact bodyPost_ret (v := .tuple #[.string s, .string t, .int .i64 x]) (by simp [results, Try.results11, go_sem]) rfl ⟨s, t, x, by omega, by omega, by omega, rfl, B7.out⟩
end Go.Proofs.Ytkeimgglikdbfaa
