/- Drawn arguments of chapter 8. -/
import Derived.Test.YtcckpkcjekcajaaDoorCDraw1
import Derived.Test.YtcckpkcjekcajaaDoorCDraw2
import Derived.Test.YtcckpkcjekcajaaDoorSource
import Derived.Test.YtcckpkcjekcajaaDoorSome
namespace Go.Proofs.YtcckpkcjekcajaaDoor
open Go.RowKit

/-- An image drawn from bytes, and a list of steps. -/
def DrawnIL (w : World) (e : Ending) (w' : World) : Prop := ∃ (l : List ByteArray) (v : Value) (ls : List stpT) (u : Value), l.length ≤ 9 ∧ ls.length ≤ 21 ∧ (∀ s ∈ l, s.size ≤ 10) ∧ (∀ d ∈ ls, d.2.2.2.size ≤ 10) ∧ e = .returned (.tuple #[v, u]) ∧ Gr w' w.heap.size 9 1 v l.length (strs l) ∧ Gr w' w.heap.size 33 4 u ls.length (stpCs ls) ∧ Below w.heap.size w w'
set_option maxRecDepth 100000 in
set_option maxHeartbeats 4000000 in
theorem drawApply_any (a : Option Addr) (len cap : Nat) (w : World) (hB : Bytes w a len) (hl : len ≤ 1048576) :
    Calls Tryd.prog 5 #[.slice a len cap] w (DrawnIL w) := by
  have HB := Lib.hid hB
  clear hB
  go_enter Tryd.func5, Tryd.ntmps5
  go_wp2_with fail
  refine (source_any a len cap w HB.out hl).mono ?_
  rintro e w1 ⟨rfl, hs1, hb1⟩
  have hbl := hs1.lt
  have HS1 := Lib.hid hs1
  have HR := Lib.hid (HB.out.row hb1 (Nat.le_refl _))
  have HB1 := Lib.hid hb1
  have hz1 := hb1.size
  clear hs1 hb1
  go_wp2_with fail
  refine (oddZ_any w.heap.size a len cap w1 HS1.out HR.out).mono ?_
  rintro e W2 ⟨l, v, hlen, rfl, hst⟩
  obtain ⟨x3, c3, rfl⟩ := gr_form hst.gr
  have ST2 := Lib.hid hst
  have HRK := Lib.hid (HR.out.kept hst.kept)
  clear hst HS1
  by_cases h0 : l.length = 0
  · have hl0 : l = [] := List.eq_nil_of_length_eq_zero h0
    subst hl0
    clear h0 hlen
    have d0 : ((([] : List ByteArray).length : Int) == 0) = true := rfl
    go_wp2_with fail
    go_ret2
    refine ⟨[], _, [], _, by simp, by simp, by simp, by simp, rfl, ST2.out.gr.lower hz1, Gr.nil _ _ _ _, HB1.out.trans (ST2.out.kept.below (Nat.le_refl _) hz1)⟩
  · have d0 : ((l.length : Int) == 0) = false := beq_eq_false_iff_ne.2 (by omega)
    go_wp2_with fail
    refine (oddN_any w.heap.size a len cap l.length (by omega) hlen W2 ST2.out.src HRK.out).mono ?_
    rintro e W3 ⟨ls, u, hls, rfl, hst⟩
    obtain ⟨x4, c4, rfl⟩ := gr_form hst.gr
    have ST3 := Lib.hid hst
    have STZ := Lib.hid (ST2.out.keep hst.kept hst.src hbl)
    have hz2 : w1.heap.size ≤ W2.heap.size := ST2.out.kept.size
    clear hst
    go_wp2_with fail
    go_ret2
    exact ⟨l, _, ls, _, hlen, hls, STZ.out.small, ST3.out.small, rfl, STZ.out.gr.lower hz1, ST3.out.gr.lower (by omega), HB1.out.trans (STZ.out.kept.below (Nat.le_refl _) hz1)⟩

/-- Two texts drawn from bytes. -/
def DrawnSS (w : World) (e : Ending) (w' : World) : Prop := ∃ s t : ByteArray, s.size ≤ 10 ∧ t.size ≤ 10 ∧ e = .returned (.tuple #[.string s, .string t]) ∧ Below w.heap.size w w'
set_option maxRecDepth 100000 in
set_option maxHeartbeats 4000000 in
theorem drawXored_any (a : Option Addr) (len cap : Nat) (w : World) (hB : Bytes w a len) (hl : len ≤ 1048576) :
    Calls Tryd.prog 7 #[.slice a len cap] w (DrawnSS w) := by
  have HB := Lib.hid hB
  clear hB
  go_enter Tryd.func7, Tryd.ntmps7
  go_wp2_with fail
  refine (source_any a len cap w HB.out hl).mono ?_
  rintro e w1 ⟨rfl, hs1, hb1⟩
  have HS1 := Lib.hid hs1
  have HR := Lib.hid (HB.out.row hb1 (Nat.le_refl _))
  have HB1 := Lib.hid hb1
  have hz1 := hb1.size
  clear hs1 hb1
  go_wp2_with fail
  refine (data_any w.heap.size a len cap w1 HS1.out HR.out).mono ?_
  rintro e w2 ⟨s, hs, rfl, hs2, hk2⟩
  have HS2 := Lib.hid hs2
  have K2 := Lib.hid hk2
  clear hs2 hk2 HS1
  go_wp2_with fail
  refine (one_any w.heap.size a len cap 6 w2 HS2.out (HR.out.kept K2.out) (by omega) (by omega)).mono ?_
  rintro e w3 ⟨bb, rfl, hs3, hk3⟩
  have HS3 := Lib.hid hs3
  have K3 := Lib.hid (K2.out.trans hk3)
  clear hs3 hk3 HS2 K2
  cases bb with
  | false =>
    go_wp2_with fail
    refine (data_any w.heap.size a len cap w3 HS3.out (HR.out.kept K3.out)).mono ?_
    rintro e w4 ⟨t, ht, rfl, hs4, hk4⟩
    have K4 := Lib.hid (K3.out.trans hk4)
    clear hs4 hk4
    go_wp2_with fail
    go_ret2
    exact ⟨s, t, hs, ht, rfl, HB1.out.trans (K4.out.below (Nat.le_refl _) hz1)⟩
  | true =>
    go_wp2_with fail
    refine (n_any w.heap.size a len cap 3 w3 HS3.out (HR.out.kept K3.out) (by omega) (by omega)).mono ?_
    rintro e w4 ⟨y, ⟨hr0, hr1⟩, rfl, hs4, hk4⟩
    obtain ⟨r, rfl⟩ := Int.eq_ofNat_of_zero_le hr0
    have HS4 := Lib.hid hs4
    have K4 := Lib.hid (K3.out.trans hk4)
    have m2 : wrap64 (7 + (r : Int)) = ((7 + r : Nat) : Int) := by rw [IntWalk.wrap64_in _ (by omega)]; omega
    have m3 : IntKind.i64.wrap (7 + (r : Int)) = ((7 + r : Nat) : Int) := by rw [IntWalk.i64_in _ (by omega)]; omega
    clear hs4 hk4 HS3 K3
    go_wp2_with fail
    refine (bytes_any w.heap.size a len cap (7 + r) w4 HS4.out (HR.out.kept K4.out) (by omega)).mono ?_
    rintro e w5 ⟨t, ht, rfl, hs5, hk5⟩
    have K5 := Lib.hid (K4.out.trans hk5)
    have ht' : t.size ≤ 10 := by omega
    clear hs5 hk5 ht m2 m3
    go_wp2_with fail
    go_ret2
    exact ⟨s, t, hs, ht', rfl, HB1.out.trans (K5.out.below (Nat.le_refl _) hz1)⟩

/-- An image drawn from bytes. -/
def DrawnI (w : World) (e : Ending) (w' : World) : Prop := ∃ (l : List ByteArray) (v : Value), l.length ≤ 9 ∧ (∀ s ∈ l, s.size ≤ 10) ∧ e = .returned v ∧ Gr w' w.heap.size 9 1 v l.length (strs l) ∧ Below w.heap.size w w'
set_option maxRecDepth 100000 in
set_option maxHeartbeats 4000000 in
theorem drawDigestI_any (a : Option Addr) (len cap : Nat) (w : World) (hB : Bytes w a len) (hl : len ≤ 1048576) :
    Calls Tryd.prog 9 #[.slice a len cap] w (DrawnI w) := by
  have HB := Lib.hid hB
  clear hB
  go_enter Tryd.func9, Tryd.ntmps9
  go_wp2_with fail
  refine (source_any a len cap w HB.out hl).mono ?_
  rintro e w1 ⟨rfl, hs1, hb1⟩
  have HS1 := Lib.hid hs1
  have HR := Lib.hid (HB.out.row hb1 (Nat.le_refl _))
  have HB1 := Lib.hid hb1
  have hz1 := hb1.size
  clear hs1 hb1
  go_wp2_with fail
  refine (oddZ_any w.heap.size a len cap w1 HS1.out HR.out).mono ?_
  rintro e W2 ⟨l, v, hlen, rfl, hst⟩
  obtain ⟨x3, c3, rfl⟩ := gr_form hst.gr
  have ST2 := Lib.hid hst
  clear hst HS1
  go_wp2_with fail
  go_ret
  exact ⟨l, _, hlen, ST2.out.small, rfl, ST2.out.gr.lower hz1, HB1.out.trans (ST2.out.kept.below (Nat.le_refl _) hz1)⟩

/-- An image drawn from bytes, and a step. -/
def DrawnIS (w : World) (e : Ending) (w' : World) : Prop := ∃ (l : List ByteArray) (v : Value) (x : stpT), l.length ≤ 9 ∧ (∀ s ∈ l, s.size ≤ 10) ∧ x.2.2.2.size ≤ 10 ∧ e = .returned (.tuple #[v, stpV x]) ∧ Gr w' w.heap.size 9 1 v l.length (strs l) ∧ Below w.heap.size w w'
set_option maxRecDepth 100000 in
set_option maxHeartbeats 4000000 in
theorem drawMade_any (a : Option Addr) (len cap : Nat) (w : World) (hB : Bytes w a len) (hl : len ≤ 1048576) :
    Calls Tryd.prog 8 #[.slice a len cap] w (DrawnIS w) := by
  have b0 := below_alloc1 w (.cells #[.int .i64 0, .int .i64 0, .int .i64 0, .string { data := #[] }] 33)
  have z0 := size_alloc1 w (.cells #[.int .i64 0, .int .i64 0, .int .i64 0, .string { data := #[] }] 33)
  have Y0 := Lib.hid (bx_new w 33 #[.int .i64 0, .int .i64 0, .int .i64 0, .string { data := #[] }])
  have HB := Lib.hid (hB.below b0)
  have B0 := Lib.hid b0
  clear hB b0
  go_enter Tryd.func8, Tryd.ntmps8
  go_wp2_with fail
  generalize w.alloc (.cells #[.int .i64 0, .int .i64 0, .int .i64 0, .string { data := #[] }] 33) = W0 at *
  refine (source_any a len cap W0 HB.out hl).mono ?_
  rintro e w1 ⟨he, hs1, hb1⟩
  rw [z0] at hs1 he
  obtain ⟨sb, hsb⟩ : ∃ sb, sb = w.heap.size + 1 := ⟨_, rfl⟩
  have hrow := HB.out.row hb1 (Nat.le_refl _)
  rw [z0] at hrow
  rw [← hsb] at hs1 hrow he
  subst he
  have hbl := hs1.lt
  have HS1 := Lib.hid hs1
  have HR := Lib.hid hrow
  have HB1 := Lib.hid (below_more B0.out hb1)
  have Y1 := Lib.hid (Y0.out.next hb1)
  have hz1 := HB1.out.size
  have hsb1 : w.heap.size < sb := by omega
  clear hs1 hb1 Y0 B0 hrow z0 HB hsb
  go_wp2_with fail
  refine (oddZ_any sb a len cap w1 HS1.out HR.out).mono ?_
  rintro e W2 ⟨l, v, hlen, rfl, hst⟩
  obtain ⟨x3, c3, rfl⟩ := gr_form hst.gr
  have ST2 := Lib.hid hst
  have HRK := Lib.hid (HR.out.kept hst.kept)
  have Y2 := Lib.hid (Y1.out.kept hst.kept (by omega))
  clear hst HS1 Y1
  have fin : ∀ (W9 : World) (x : stpT), x.2.2.2.size ≤ 10 → ZSt sb a len cap w1 l (.slice x3 l.length c3) W9 → Bx W9 w.heap.size 33 #[.int .i64 0, .int .i64 0, .int .i64 0, .string { data := #[] }] →
      DrawnIS w (.returned (.tuple #[.slice x3 l.length c3, stpV x])) ((((W9.setCell ⟨w.heap.size, 0, none⟩ (.int .i64 x.1)).setCell ⟨w.heap.size, 1, none⟩ (.int .i64 x.2.1)).setCell ⟨w.heap.size, 2, none⟩ (.int .i64 x.2.2.1)).setCell ⟨w.heap.size, 3, none⟩ (.string x.2.2.2)) := fun W9 x hx hz hy => by
    have hne : ∀ k, blk (.slice x3 l.length c3) l.length = some k → k ≠ w.heap.size := fun k hk => by have := (hz.gr.own.blk k hk).1; omega
    refine ⟨l, _, x, hlen, hz.small, hx, rfl, ((((hz.gr.other ⟨w.heap.size, 0, none⟩ _ hne).other ⟨w.heap.size, 1, none⟩ _ hne).other ⟨w.heap.size, 2, none⟩ _ hne).other ⟨w.heap.size, 3, none⟩ _ hne).lower hz1, ?_⟩
    exact ((((HB1.out.trans (hz.kept.below (B := w.heap.size) (by omega) (by omega))).setCell (p := ⟨w.heap.size, 0, none⟩) (Nat.le_refl _) _).setCell (p := ⟨w.heap.size, 1, none⟩) (Nat.le_refl _) _).setCell (p := ⟨w.heap.size, 2, none⟩) (Nat.le_refl _) _).setCell (p := ⟨w.heap.size, 3, none⟩) (Nat.le_refl _) _
  have FIN := Lib.hid fin
  clear fin
  by_cases h0 : l.length = 0
  · have d0 : ((l.length : Int) == 0) = true := beq_iff_eq.2 (by omega)
    have hl0 : (l.length : Int) = 0 := by omega
    have HL0 := Lib.hid h0
    clear h0
    go_wp2_with fail
    refine (any_any sb a len cap W2 ST2.out.src HRK.out).mono ?_
    rintro e w5 ⟨x, ⟨hx, -⟩, rfl, hs5, hk5⟩
    have ST5 := Lib.hid (ST2.out.keep hk5 hs5 hbl)
    have Y5 := Lib.hid (Y2.out.kept hk5 (by omega))
    clear hs5 hk5 hl0 d0
    unfold stpV
    obtain ⟨⟨q0, q1, q2, q3⟩, t0, t1, t2, t3⟩ := Y5.out.cf4
    go_wp2_with fail
    refine bodyPost_ret (v := .tuple #[.slice x3 l.length c3, stpV x]) (by simp [stpV, results, Tryd.results8, go_sem, q0, q1, q2, q3]) rfl (FIN.out _ x hx ST5.out Y5.out)
  · have d0 : ((l.length : Int) == 0) = false := beq_eq_false_iff_ne.2 (by omega)
    have hpos : 1 ≤ l.length := by omega
    clear h0
    go_wp2_with fail
    refine (one_any sb a len cap 8 W2 ST2.out.src HRK.out (by omega) (by omega)).mono ?_
    rintro e w4 ⟨bb, rfl, hs4, hk4⟩
    have ST4 := Lib.hid (ST2.out.keep hk4 hs4 hbl)
    have Y4 := Lib.hid (Y2.out.kept hk4 (by omega))
    have HR4 := Lib.hid (HRK.out.kept hk4)
    clear hs4 hk4 ST2 Y2
    cases bb with
    | true =>
      go_wp2_with fail
      refine (any_any sb a len cap w4 ST4.out.src HR4.out).mono ?_
      rintro e w5 ⟨x, ⟨hx, -⟩, rfl, hs5, hk5⟩
      have ST5 := Lib.hid (ST4.out.keep hk5 hs5 hbl)
      have Y5 := Lib.hid (Y4.out.kept hk5 (by omega))
      clear hs5 hk5
      unfold stpV
      obtain ⟨⟨q0, q1, q2, q3⟩, t0, t1, t2, t3⟩ := Y5.out.cf4
      go_wp2_with fail
      refine bodyPost_ret (v := .tuple #[.slice x3 l.length c3, stpV x]) (by simp [stpV, results, Tryd.results8, go_sem, q0, q1, q2, q3]) rfl (FIN.out _ x hx ST5.out Y5.out)
    | false =>
      go_wp2_with fail
      refine (stepN_any sb a len cap l.length hpos hlen w4 ST4.out.src HR4.out).mono ?_
      rintro e w5 ⟨x, ⟨hx, -⟩, rfl, hs5, hk5⟩
      have ST5 := Lib.hid (ST4.out.keep hk5 hs5 hbl)
      have Y5 := Lib.hid (Y4.out.kept hk5 (by omega))
      clear hs5 hk5
      unfold stpV
      obtain ⟨⟨q0, q1, q2, q3⟩, t0, t1, t2, t3⟩ := Y5.out.cf4
      go_wp2_with fail
      refine bodyPost_ret (v := .tuple #[.slice x3 l.length c3, stpV x]) (by simp [stpV, results, Tryd.results8, go_sem, q0, q1, q2, q3]) rfl (FIN.out _ x hx ST5.out Y5.out)
end Go.Proofs.YtcckpkcjekcajaaDoor
