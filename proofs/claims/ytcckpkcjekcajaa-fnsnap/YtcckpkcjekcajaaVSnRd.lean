/- SnapRead: the specification's and the program's. -/
import Derived.Test.YtcckpkcjekcajaaVRd
import Derived.Test.YtcckpkcjekcajaaCSIa
namespace Go.Proofs.Ytcckpkcjekcajaa
open Go.RowKit

/-- A text with a code. -/
def TextW (R : ByteArray × Int) (w : World) (e : Ending) (w' : World) : Prop := e = .returned (.agg #[.string R.1, .int .i64 0, .int .i64 R.2]) ∧ Below w.heap.size w w'
theorem textW_set {w W : World} (h : Below w.heap.size w W) (x y z : Value) : Below w.heap.size w (((W.setCell ⟨w.heap.size, 0, none⟩ x).setCell ⟨w.heap.size, 1, none⟩ y).setCell ⟨w.heap.size, 2, none⟩ z) :=
  ((h.setCell (p := ⟨w.heap.size, 0, none⟩) (Nat.le_refl _) _).setCell (p := ⟨w.heap.size, 1, none⟩) (Nat.le_refl _) _).setCell (p := ⟨w.heap.size, 2, none⟩) (Nat.le_refl _) _

set_option maxRecDepth 100000 in
set_option maxHeartbeats 4000000 in
theorem specSnapRead (v u : Value) (base : List ByteArray) (l : List stpT) (b : Int) (w : World) (h : Rd w v base.length 1 (strs base)) (hl : Rd w u l.length 4 (stpCs l)) (hn : base.length ≤ 1048576) (hm : l.length ≤ 1048576) (hs : ∀ s ∈ base, s.size ≤ maxLen) (hd : ∀ d ∈ l, d.2.2.2.size ≤ maxLen) :
    Calls Try.prog 11 #[v, u, .int .i64 b] w (TextW (snapR base l b) w) := by
  obtain ⟨a, c, rfl, -⟩ := id h.2
  obtain ⟨a', c', rfl, -⟩ := id hl.2
  obtain ⟨R, hR⟩ : ∃ R, R = snapR base l b := ⟨_, rfl⟩
  rw [← hR]
  unfold TextW
  have HR := Lib.hid hR
  clear hR
  have g0 := below_alloc1 w (.cells #[.string ⟨#[]⟩, .int .i64 0, .int .i64 0] 27)
  have X0 := Lib.hid (bx_new w 27 #[.string ⟨#[]⟩, .int .i64 0, .int .i64 0])
  have HA := Lib.hid (h.below g0 (Nat.le_refl _))
  have HL := Lib.hid (hl.below g0 (Nat.le_refl _))
  have hz := size_alloc1 w (.cells #[.string ⟨#[]⟩, .int .i64 0, .int .i64 0] 27)
  have G0 := Lib.hid g0
  clear g0 h hl
  by_cases b0 : 400 < base.length
  · have hr : R = (⟨#[]⟩, 2) := by rw [HR.out, snapR_no (by unfold applyC; rw [if_pos (by omega)]; decide)]; unfold applyC; rw [if_pos (by omega)]
    subst hr
    clear HR
    have d0 : decide ((400 : Int) < (base.length : Int)) = true := decide_eq_true (by omega)
    go_enter Try.func11, Try.ntmps11
    go_wp2_with fail
    refine bodyPost_ret (v := .agg #[.string ⟨#[]⟩, .int .i64 0, .int .i64 2]) (by simp [results, Try.results11, go_sem]) rfl ⟨rfl, ?_⟩
    first
      | exact textW_set G0.out _ _ _
      | exact below_alloc1 w _
  have d0 : decide ((400 : Int) < (base.length : Int)) = false := decide_eq_false (by omega)
  by_cases b1 : 400 < l.length
  · have hr : R = (⟨#[]⟩, 2) := by rw [HR.out, snapR_no (by unfold applyC; rw [if_pos (by omega)]; decide)]; unfold applyC; rw [if_pos (by omega)]
    subst hr
    clear HR
    have d1 : decide ((400 : Int) < (l.length : Int)) = true := decide_eq_true (by omega)
    go_enter Try.func11, Try.ntmps11
    go_wp2_with fail
    refine bodyPost_ret (v := .agg #[.string ⟨#[]⟩, .int .i64 0, .int .i64 2]) (by simp [results, Try.results11, go_sem]) rfl ⟨rfl, ?_⟩
    first
      | exact textW_set G0.out _ _ _
      | exact below_alloc1 w _
  have d1 : decide ((400 : Int) < (l.length : Int)) = false := decide_eq_false (by omega)
  have NB := Lib.hid (show ¬ (400 < base.length ∨ 400 < l.length) by omega)
  cases hi : imgB base with
  | false =>
    have hr : R = (⟨#[]⟩, 1) := by rw [HR.out, snapR_no (by unfold applyC; rw [if_neg NB.out, if_pos hi]; decide)]; unfold applyC; rw [if_neg NB.out, if_pos hi]
    subst hr
    have HI := Lib.hid hi
    clear HR hi
    go_enter Try.func11, Try.ntmps11
    go_wp2_with fail
    generalize w.alloc (.cells #[.string ⟨#[]⟩, .int .i64 0, .int .i64 0] 27) = W0 at *
    refine (specImg _ base _ HA.out hn).mono ?_
    rintro e w1 ⟨rfl, rfl⟩
    rw [HI.out]
    have hx := X0.out
    have c0 := hx.cell 0
    have c1 := hx.cell 1
    have c2 := hx.cell 2
    have z0 := hx.frozen 0
    have z1 := hx.frozen 1
    have z2 := hx.frozen 2
    simp at c0 c1 c2
    have G9 := Lib.hid G0.out
    clear hx
    go_wp2_with fail
    refine bodyPost_ret (v := .agg #[.string ⟨#[]⟩, .int .i64 0, .int .i64 1]) (by simp [results, Try.results11, go_sem, c0, c1, c2]) rfl ⟨rfl, ?_⟩
    exact textW_set G9.out _ _ _
  | true =>
  have HI := Lib.hid hi
  have hcc : applyC base l = codeS l (base.length : Int) := by unfold applyC; rw [if_neg NB.out, if_neg (by simp [hi])]
  have HCC := Lib.hid hcc
  clear hi hcc
  obtain ⟨C, hC⟩ : ∃ C, C = codeS l (base.length : Int) := ⟨_, rfl⟩
  have HC := Lib.hid hC
  clear hC
  have HCODE := Lib.hid (show ∀ w', Rd w' (.slice a' l.length c') l.length 4 (stpCs l) → Calls Try.prog 38 #[.slice a' l.length c', .int .i64 (base.length : Int)] w' fun e w'' => e = .returned (.int .i64 C) ∧ Below w'.heap.size w' w'' from fun w' h' => by rw [HC.out]; exact specCode _ l (base.length : Int) w' h' hm)
  by_cases hc0 : C = 0
  rotate_left
  · have hr : R = (⟨#[]⟩, C) := by rw [HR.out, snapR_no (by rw [HCC.out, ← HC.out]; exact hc0), HCC.out, ← HC.out]
    subst hr
    have dc : (C != 0) = true := by simpa using hc0
    clear HR hc0
    go_enter Try.func11, Try.ntmps11
    go_wp2_with fail
    generalize w.alloc (.cells #[.string ⟨#[]⟩, .int .i64 0, .int .i64 0] 27) = W0 at *
    refine (specImg _ base _ HA.out hn).mono ?_
    rintro e w1 ⟨rfl, rfl⟩
    rw [HI.out]
    go_wp2_with fail
    refine (HCODE.out _ HL.out).mono ?_
    rintro e W1 ⟨rfl, hb⟩
    have hx := X0.out.next hb
    have c0 := hx.cell 0
    have c1 := hx.cell 1
    have c2 := hx.cell 2
    have z0 := hx.frozen 0
    have z1 := hx.frozen 1
    have z2 := hx.frozen 2
    simp at c0 c1 c2
    have G9 := Lib.hid (G0.out.trans (hb.mono (by omega)))
    clear hb hx
    go_wp2_with fail
    refine bodyPost_ret (v := .agg #[.string ⟨#[]⟩, .int .i64 0, .int .i64 C]) (by simp [results, Try.results11, go_sem, c0, c1, c2]) rfl ⟨rfl, ?_⟩
    exact textW_set G9.out _ _ _
  subst hc0
  have HAC := Lib.hid (show applyC base l = 0 by rw [HCC.out, ← HC.out])
  have hn8 := ((imgB_iff base).1 HI.out).1
  by_cases hin : 0 ≤ b ∧ b < (base.length : Int)
  rotate_left
  · have hr : R = (⟨#[]⟩, 8) := by rw [HR.out]; exact snapR_out HAC.out hin
    subst hr
    have HD := Lib.hid (show (decide (0 ≤ b) && decide (b ≤ (base.length : Int) - 1)) = false by cases h : (decide (0 ≤ b) && decide (b ≤ (base.length : Int) - 1)) with | false => rfl | true => simp at h; exact absurd ⟨h.1, by omega⟩ hin)
    have m0 : wrap64 ((base.length : Int) - 1) = (base.length : Int) - 1 := IntWalk.wrap64_in _ (by omega)
    have m1 : IntKind.i64.wrap ((base.length : Int) - 1) = (base.length : Int) - 1 := IntWalk.i64_in _ (by omega)
    clear HR hin
    go_enter Try.func11, Try.ntmps11
    go_wp2_with fail
    generalize w.alloc (.cells #[.string ⟨#[]⟩, .int .i64 0, .int .i64 0] 27) = W0 at *
    refine (specImg _ base _ HA.out hn).mono ?_
    rintro e w1 ⟨rfl, rfl⟩
    rw [HI.out]
    go_wp2_with fail
    refine (HCODE.out _ HL.out).mono ?_
    rintro e W1 ⟨rfl, hb⟩
    have hx := X0.out.next hb
    have c0 := hx.cell 0
    have c1 := hx.cell 1
    have c2 := hx.cell 2
    have z0 := hx.frozen 0
    have z1 := hx.frozen 1
    have z2 := hx.frozen 2
    simp at c0 c1 c2
    have G9 := Lib.hid (G0.out.trans (hb.mono (by omega)))
    clear hb hx
    go_wp2_with fail
    refine (is_dec _ _ _ _ _ HD.out).mono ?_
    rintro e w2 ⟨rfl, rfl⟩
    go_wp2_with fail
    refine bodyPost_ret (v := .agg #[.string ⟨#[]⟩, .int .i64 0, .int .i64 8]) (by simp [results, Try.results11, go_sem, c0, c1, c2]) rfl ⟨rfl, ?_⟩
    exact textW_set G9.out _ _ _
  obtain ⟨i, rfl⟩ := Int.eq_ofNat_of_zero_le hin.1
  have hib : i < base.length := by omega
  have hr : R = (snapB base l i, 0) := by rw [HR.out]; exact snapR_in HAC.out hib
  subst hr
  have HD := Lib.hid (show (decide ((0 : Int) ≤ (i : Int)) && decide ((i : Int) ≤ (base.length : Int) - 1)) = true by simp; omega)
  have m0 : wrap64 ((base.length : Int) - 1) = (base.length : Int) - 1 := IntWalk.wrap64_in _ (by omega)
  have m1 : IntKind.i64.wrap ((base.length : Int) - 1) = (base.length : Int) - 1 := IntWalk.i64_in _ (by omega)
  clear HR hin
  have HT := Lib.hid (show ∀ w', Rd w' (.slice a' l.length c') l.length 4 (stpCs l) → Calls Try.prog 40 #[.slice a' l.length c', .int .i64 (i : Int)] w' fun e w'' => e = .returned (.int .i64 (touchI l (i : Int))) ∧ Below w'.heap.size w' w'' from fun w' h' => (specTouch _ l (i : Int) w' h' hm).mono fun _ _ h => ⟨h.1, h.2.below _⟩)
  have HB0 := Lib.hid (fun h : touchI l (i : Int) < 0 => snapB_base (base := base) h hib)
  have HB1 := Lib.hid (fun (k : Nat) (h : touchI l (i : Int) = (k : Int)) => snapB_made (i := i) HAC.out h)
  obtain ⟨S, hS⟩ : ∃ S, S = snapB base l i := ⟨_, rfl⟩
  rw [← hS] at HB0 HB1 ⊢
  clear hS
  obtain ⟨T, hT⟩ : ∃ T, T = touchI l (i : Int) := ⟨_, rfl⟩
  rw [← hT] at HT HB0 HB1
  have hT1 := (touchI_lt l (i : Int))
  rw [← hT] at hT1
  clear hT
  go_enter Try.func11, Try.ntmps11
  go_wp2_with fail
  generalize w.alloc (.cells #[.string ⟨#[]⟩, .int .i64 0, .int .i64 0] 27) = W0 at *
  refine (specImg _ base _ HA.out hn).mono ?_
  rintro e w1 ⟨rfl, rfl⟩
  rw [HI.out]
  go_wp2_with fail
  refine (HCODE.out _ HL.out).mono ?_
  rintro e W1 ⟨rfl, hb⟩
  replace X0 := Lib.hid (X0.out.next hb)
  replace HA := Lib.hid (HA.out.below hb (Nat.le_refl _))
  replace HL := Lib.hid (HL.out.below hb (Nat.le_refl _))
  replace G0 := Lib.hid (G0.out.trans (hb.mono (by omega)))
  have hz1 := hb.size
  clear hb
  go_wp2_with fail
  refine (is_dec _ _ _ _ _ HD.out).mono ?_
  rintro e w2 ⟨rfl, rfl⟩
  go_wp2_with fail
  refine (HT.out _ HL.out).mono ?_
  rintro e W2 ⟨rfl, hb⟩
  replace X0 := Lib.hid (X0.out.next hb)
  replace HA := Lib.hid (HA.out.below hb (Nat.le_refl _))
  replace HL := Lib.hid (HL.out.below hb (Nat.le_refl _))
  replace G0 := Lib.hid (G0.out.trans (hb.mono (by omega)))
  have hz2 := hb.size
  clear hb HT m0 m1
  by_cases hneg : T < 0
  · have dt : decide (T < 0) = true := decide_eq_true hneg
    have hb0 := HB0.out hneg
    obtain ⟨bb, off, hp, hbl, hcell⟩ := HA.out.get (by omega)
    have r0 : W2.cell? ⟨bb, off + i, none⟩ = some (.string S) := by rw [hcell i (by omega), strs_at base i hib, hb0]
    have e0 : (i : Int) < (base.length : Int) := by omega
    have e1 : (0 : Int) ≤ (i : Int) := by omega
    cases hp
    have hx := X0.out
    have c0 := hx.cell 0
    have c1 := hx.cell 1
    have c2 := hx.cell 2
    have z0 := hx.frozen 0
    have z1 := hx.frozen 1
    have z2 := hx.frozen 2
    simp at c0 c1 c2
    have G9 := Lib.hid G0.out
    clear hcell hx HB0 HB1 hneg hb0
    go_wp2_with fail
    refine bodyPost_ret (v := .agg #[.string S, .int .i64 0, .int .i64 0]) (by simp [results, Try.results11, go_sem, c0, c1, c2]) rfl ⟨rfl, ?_⟩
    exact textW_set G9.out _ _ _
  obtain ⟨k, rfl⟩ := Int.eq_ofNat_of_zero_le (show 0 ≤ T by omega)
  have dt : decide ((k : Int) < 0) = false := decide_eq_false (by omega)
  obtain ⟨hk, h5, he⟩ := HB1.out k rfl
  have HE := Lib.hid he
  obtain ⟨bb, off, hp, hbl, hcell⟩ := HL.out.get (by omega)
  have r0 : W2.cell? ⟨bb, off + k * 4, none⟩ = some (.int .i64 l[k].1) := by rw [hcell (k * 4) (by omega), stpCs_0 l k hk]
  have r1 : W2.cell? ⟨bb, off + k * 4 + 1, none⟩ = some (.int .i64 l[k].2.1) := by rw [Nat.add_assoc, hcell (k * 4 + 1) (by omega), stpCs_1 l k hk]
  have r2 : W2.cell? ⟨bb, off + k * 4 + 2, none⟩ = some (.int .i64 l[k].2.2.1) := by rw [Nat.add_assoc, hcell (k * 4 + 2) (by omega), stpCs_2 l k hk]
  have r3 : W2.cell? ⟨bb, off + k * 4 + 3, none⟩ = some (.string l[k].2.2.2) := by rw [Nat.add_assoc, hcell (k * 4 + 3) (by omega), stpCs_3 l k hk]
  have e0 : (k : Int) < (l.length : Int) := by omega
  have e1 : (0 : Int) ≤ (k : Int) := by omega
  cases hp
  have hdk := hd _ (List.getElem_mem hk)
  clear hcell HB0 HB1 hneg h5 he
  obtain ⟨x, hx⟩ : ∃ x, x = l[k] := ⟨_, rfl⟩
  rw [← hx] at r0 r1 r2 r3 HE hdk
  clear hx
  obtain ⟨x1, x2, x3, x4⟩ := x
  simp only at r0 r1 r2 r3 hdk
  have HM := Lib.hid (show ∀ w', Rd w' (.slice a base.length c) base.length 1 (strs base) → Calls Try.prog 41 #[.slice a base.length c, .agg #[.int .i64 x1, .int .i64 x2, .int .i64 x3, .string x4]] w' fun e w'' => e = .returned (.string S) ∧ Below w'.heap.size w' w'' from fun w' h' => by rw [HE.out]; exact specMadeBy _ base x1 x2 x3 x4 w' h' hn hs hdk)
  go_wp2_with fail
  refine (HM.out _ HA.out).mono ?_
  rintro e W3 ⟨rfl, hb⟩
  have hx := X0.out.next hb
  have c0 := hx.cell 0
  have c1 := hx.cell 1
  have c2 := hx.cell 2
  have z0 := hx.frozen 0
  have z1 := hx.frozen 1
  have z2 := hx.frozen 2
  simp at c0 c1 c2
  have G9 := Lib.hid (G0.out.trans (hb.mono (by omega)))
  clear hb hx
  go_wp2_with fail
  refine bodyPost_ret (v := .agg #[.string S, .int .i64 0, .int .i64 0]) (by simp [results, Try.results11, go_sem, c0, c1, c2]) rfl ⟨rfl, ?_⟩
  exact textW_set G9.out _ _ _
set_option maxRecDepth 100000 in
set_option maxHeartbeats 4000000 in
theorem implSnapRead (v u : Value) (base : List ByteArray) (l : List stpT) (b : Int) (w : World) (h : Rd w v base.length 1 (strs base)) (hl : Rd w u l.length 4 (stpCs l)) (hn : base.length ≤ 1048576) (hm : l.length ≤ 1048576) :
    Calls Try.prog 14 #[v, u, .int .i64 b] w (TextW (snapR base l b) w) := by
  obtain ⟨a, c, rfl, -⟩ := id h.2
  obtain ⟨a', c', rfl, -⟩ := id hl.2
  obtain ⟨R, hR⟩ : ∃ R, R = snapR base l b := ⟨_, rfl⟩
  rw [← hR]
  unfold TextW
  have HR := Lib.hid hR
  clear hR
  have g0 := below_alloc1 w (.cells #[.string ⟨#[]⟩, .int .i64 0, .int .i64 0] 27)
  have X0 := Lib.hid (bx_new w 27 #[.string ⟨#[]⟩, .int .i64 0, .int .i64 0])
  have HA := Lib.hid (h.below g0 (Nat.le_refl _))
  have HL := Lib.hid (hl.below g0 (Nat.le_refl _))
  have hz := size_alloc1 w (.cells #[.string ⟨#[]⟩, .int .i64 0, .int .i64 0] 27)
  have G0 := Lib.hid g0
  clear g0 h hl
  obtain ⟨C, hC⟩ : ∃ C, C = applyC base l := ⟨_, rfl⟩
  have HC := Lib.hid hC
  clear hC
  have HAC := Lib.hid (show ∀ w', Rd w' (.slice a base.length c) base.length 1 (strs base) → Rd w' (.slice a' l.length c') l.length 4 (stpCs l) → Calls Try.prog 43 #[.slice a base.length c, .slice a' l.length c'] w' fun e w'' => e = .returned (.int .i64 C) ∧ Below w'.heap.size w' w'' from fun w' h1 h2 => by rw [HC.out]; exact implAC _ _ base l w' h1 h2 hn hm)
  by_cases hc0 : C = 0
  rotate_left
  · have hr : R = (⟨#[]⟩, C) := by rw [HR.out, HC.out]; exact snapR_no (by rw [← HC.out]; exact hc0)
    subst hr
    have dc : (C != 0) = true := by simpa using hc0
    clear HR hc0
    go_enter Try.func14, Try.ntmps14
    go_wp2_with fail
    generalize w.alloc (.cells #[.string ⟨#[]⟩, .int .i64 0, .int .i64 0] 27) = W0 at *
    refine (HAC.out _ HA.out HL.out).mono ?_
    rintro e W1 ⟨rfl, hb⟩
    have hx := X0.out.next hb
    have c0 := hx.cell 0
    have c1 := hx.cell 1
    have c2 := hx.cell 2
    have z0 := hx.frozen 0
    have z1 := hx.frozen 1
    have z2 := hx.frozen 2
    simp at c0 c1 c2
    have G9 := Lib.hid (G0.out.trans (hb.mono (by omega)))
    clear hb hx
    go_wp2_with fail
    refine bodyPost_ret (v := .agg #[.string ⟨#[]⟩, .int .i64 0, .int .i64 C]) (by simp [results, Try.results14, go_sem, c0, c1, c2]) rfl ⟨rfl, ?_⟩
    exact textW_set G9.out _ _ _
  subst hc0
  have h0 := HC.out.symm
  have H0 := Lib.hid h0
  obtain ⟨hi, hcode, -⟩ := applyC_ok h0
  have hn8 := ((imgB_iff base).1 hi).1
  have TO := Lib.hid (fitTo_of hcode)
  clear hi hcode h0
  by_cases hin : inB b (base.length : Int) = true
  rotate_left
  · have hr : R = (⟨#[]⟩, 8) := by rw [HR.out]; exact snapR_out H0.out (fun h => hin ((inB_iff _ _).2 h))
    subst hr
    have HD := Lib.hid (show inB b (base.length : Int) = false by simpa using hin)
    clear HR hin
    go_enter Try.func14, Try.ntmps14
    go_wp2_with fail
    generalize w.alloc (.cells #[.string ⟨#[]⟩, .int .i64 0, .int .i64 0] 27) = W0 at *
    refine (HAC.out _ HA.out HL.out).mono ?_
    rintro e W1 ⟨rfl, hb⟩
    have hx := X0.out.next hb
    have c0 := hx.cell 0
    have c1 := hx.cell 1
    have c2 := hx.cell 2
    have z0 := hx.frozen 0
    have z1 := hx.frozen 1
    have z2 := hx.frozen 2
    simp at c0 c1 c2
    have G9 := Lib.hid (G0.out.trans (hb.mono (by omega)))
    clear hb hx
    go_wp2_with fail
    refine (isBlock_any _ _ _ _ HD.out).mono ?_
    rintro e w2 ⟨rfl, rfl⟩
    go_wp2_with fail
    refine bodyPost_ret (v := .agg #[.string ⟨#[]⟩, .int .i64 0, .int .i64 8]) (by simp [results, Try.results14, go_sem, c0, c1, c2]) rfl ⟨rfl, ?_⟩
    exact textW_set G9.out _ _ _
  have HD := Lib.hid hin
  have hin2 := (inB_iff _ _).1 hin
  obtain ⟨i, rfl⟩ := Int.eq_ofNat_of_zero_le hin2.1
  have hib : i < base.length := by omega
  have hr : R = (snapB base l i, 0) := by rw [HR.out]; exact snapR_in H0.out hib
  subst hr
  clear HR hin hin2
  obtain ⟨S, hS⟩ : ∃ S, S = snapB base l i := ⟨_, rfl⟩
  rw [← hS]
  have HS := Lib.hid hS
  clear hS
  go_enter Try.func14, Try.ntmps14
  go_wp2_with fail
  generalize w.alloc (.cells #[.string ⟨#[]⟩, .int .i64 0, .int .i64 0] 27) = W0 at *
  refine (HAC.out _ HA.out HL.out).mono ?_
  rintro e W1 ⟨rfl, hb⟩
  replace X0 := Lib.hid (X0.out.next hb)
  replace HA := Lib.hid (HA.out.below hb (Nat.le_refl _))
  replace HL := Lib.hid (HL.out.below hb (Nat.le_refl _))
  replace G0 := Lib.hid (G0.out.trans (hb.mono (by omega)))
  have hz1 := hb.size
  clear hb
  go_wp2_with fail
  refine (isBlock_any _ _ _ _ HD.out).mono ?_
  rintro e w2 ⟨rfl, rfl⟩
  go_wp2_with fail
  refine (implSnapOf _ _ l _ a a' base.length c c' rfl rfl HL.out hm TO.out).mono ?_
  rintro e W2 ⟨g, rfl, hg, hmap, hb⟩
  replace X0 := Lib.hid (X0.out.next hb)
  replace HA := Lib.hid (HA.out.below hb (Nat.le_refl _))
  replace HL := Lib.hid (HL.out.below hb (Nat.le_refl _))
  replace G0 := Lib.hid (G0.out.trans (hb.mono (by omega)))
  have MM := Lib.hid hmap
  have hz2 := hb.size
  clear hb hmap
  go_wp2_with fail
  have hc := implRead a a' c c' g l.length i base l W2 HA.out HL.out MM.out hn hm H0.out hib
  rw [← HS.out] at hc
  refine hc.mono ?_
  clear hc
  rintro e W3 ⟨rfl, hb⟩
  have hx := X0.out.next hb
  have c0 := hx.cell 0
  have c1 := hx.cell 1
  have c2 := hx.cell 2
  have z0 := hx.frozen 0
  have z1 := hx.frozen 1
  have z2 := hx.frozen 2
  simp at c0 c1 c2
  have G9 := Lib.hid (G0.out.trans (hb.mono (by omega)))
  clear hb hx
  go_wp2_with fail
  refine bodyPost_ret (v := .agg #[.string S, .int .i64 0, .int .i64 0]) (by simp [results, Try.results14, go_sem, c0, c1, c2]) rfl ⟨rfl, ?_⟩
  exact textW_set G9.out _ _ _
end Go.Proofs.Ytcckpkcjekcajaa
