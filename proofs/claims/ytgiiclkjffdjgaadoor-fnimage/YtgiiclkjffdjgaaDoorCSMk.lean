/- The specification's l07Make, l07Other, MadeBy. -/
import Derived.Test.YtgiiclkjffdjgaaDoorCSImg
import Derived.Test.YtgiiclkjffdjgaaDoorM1
namespace Go.Proofs.YtgiiclkjffdjgaaDoor
open Go.RowKit

set_option maxRecDepth 100000 in
set_option maxHeartbeats 1000000 in
theorem specMake (k t f : Int) (d src : ByteArray) (w : World) (hd : d.size ≤ maxLen) (hs : src.size ≤ maxLen) :
    Calls Tryd.prog 45 #[.agg #[.int .i64 k, .int .i64 t, .int .i64 f, .string d], .string src] w fun e w' => e = .returned (.string (makeS (k, t, f, d) src)) ∧ Below w.heap.size w w' := by
  obtain ⟨R, hR⟩ : ∃ R, R = makeS (k, t, f, d) src := ⟨_, rfl⟩
  rw [← hR]
  unfold makeS at hR
  simp only at hR
  have HB := Lib.hid (below_alloc1 w (.cells #[.int .i64 k, .int .i64 t, .int .i64 f, .string d] 33))
  have HX := Lib.hid (bx_new w 33 #[.int .i64 k, .int .i64 t, .int .i64 f, .string d])
  by_cases h1 : k = 1
  · subst h1
    rw [if_pos rfl] at hR
    subst hR
    go_enter Tryd.func45, Tryd.ntmps45
    go_wp2_with fail
    refine (specZero _).mono ?_
    rintro e w1 ⟨rfl, hb⟩
    have HB2 := Lib.hid (below_more HB.out hb)
    clear hb
    go_wp2_with fail
    go_ret
    exact ⟨rfl, HB2.out⟩
  rw [if_neg h1] at hR
  have d1 : (k == 1) = false := by simpa using h1
  by_cases h2 : k = 2
  · subst h2
    rw [if_pos rfl] at hR
    subst hR
    go_enter Tryd.func45, Tryd.ntmps45
    go_wp2_with fail
    go_ret
    exact ⟨rfl, HB.out⟩
  rw [if_neg h2] at hR
  have d2 : (k == 2) = false := by simpa using h2
  by_cases h3 : k = 3
  · subst h3
    rw [if_pos rfl] at hR
    subst hR
    go_enter Tryd.func45, Tryd.ntmps45
    go_wp2_with fail
    go_ret
    exact ⟨rfl, HB.out⟩
  rw [if_neg h3] at hR
  have d3 : (k == 3) = false := by simpa using h3
  have HR := Lib.hid hR
  clear hR h1 h2 h3
  go_enter Tryd.func45, Tryd.ntmps45
  go_wp2_with fail
  have hc := specXored src d (w.alloc (.cells #[.int .i64 k, .int .i64 t, .int .i64 f, .string d] 33)) hs hd
  rw [← HR.out] at hc
  refine hc.mono ?_
  clear hc
  rintro e w1 ⟨rfl, hb⟩
  have HB2 := Lib.hid (below_more HB.out hb)
  clear hb
  go_wp2_with fail
  go_ret
  exact ⟨rfl, HB2.out⟩

def OtRel (a b : ByteArray) (w : World) (x i : Value) (wr : World) : Prop := ∃ k : Nat, k ≤ 8 ∧ i = .int .i64 k ∧ x = .int .i64 (diffT a b k) ∧ Still w wr
/-- What a step gives to its block. -/
def madeS (l : List ByteArray) (x : stpT) : ByteArray := if imgB l = true ∧ x.1 ≠ 5 ∧ stepB (l.length : Int) x.1 x.2.1 x.2.2.1 x.2.2.2 = true then makeS x (l.getD x.2.2.1.toNat ⟨#[]⟩) else ⟨#[]⟩
theorem ok_from {n k t f : Int} {d : ByteArray} (h : stepB n k t f d = true) (h5 : k ≠ 5) : 0 ≤ f ∧ f < n ∧ 0 ≤ t ∧ t < n ∧ d.size ≤ 8 ∧ 1 ≤ k ∧ k ≤ 4 := by
  obtain ⟨hn, h⟩ := (stepB_iff ..).1 h
  rcases h with ⟨rfl, h1, rfl, h2⟩ | ⟨rfl, h1, rfl, h2⟩ | ⟨rfl, h1, h3, h2⟩ | ⟨rfl, h1, h3, h2⟩ | ⟨rfl, -⟩
  · have := (inB_iff _ _).1 h1; omega
  · have := (inB_iff _ _).1 h1; omega
  · have := (inB_iff _ _).1 h1; have := (inB_iff _ _).1 h3; omega
  · have := (inB_iff _ _).1 h1; have := (inB_iff _ _).1 h3; omega
  · exact absurd rfl h5

set_option maxRecDepth 100000 in
set_option maxHeartbeats 2000000 in
theorem specMadeBy (v : Value) (l : List ByteArray) (k t f : Int) (d : ByteArray) (w : World) (h : Rd w v l.length 1 (strs l)) (hn : l.length ≤ 1048576) (hs : ∀ s ∈ l, s.size ≤ maxLen) (hd : d.size ≤ maxLen) :
    Calls Tryd.prog 15 #[v, .agg #[.int .i64 k, .int .i64 t, .int .i64 f, .string d]] w fun e w' => e = .returned (.string (madeS l (k, t, f, d))) ∧ Below w.heap.size w w' := by
  obtain ⟨R, hR⟩ : ∃ R, R = madeS l (k, t, f, d) := ⟨_, rfl⟩
  rw [← hR]
  have HR := Lib.hid hR
  clear hR
  obtain ⟨a, c, rfl, -⟩ := id h.2
  have HV := Lib.hid h
  clear h
  have HB := Lib.hid (below_alloc1 w (.cells #[.int .i64 k, .int .i64 t, .int .i64 f, .string d] 33))
  have HX := Lib.hid (bx_new w 33 #[.int .i64 k, .int .i64 t, .int .i64 f, .string d])
  have RV := Lib.hid (HV.out.below HB.out (Nat.le_refl _))
  cases hi : imgB l with
  | false =>
    have hr : R = ⟨#[]⟩ := by rw [HR.out]; unfold madeS; rw [if_neg (fun h => by rw [hi] at h; exact absurd h.1 (by simp))]
    subst hr
    have HI := Lib.hid hi
    clear HR hi
    go_enter Tryd.func15, Tryd.ntmps15
    go_wp2_with fail
    refine (specImg _ l _ RV.out hn).mono ?_
    rintro e w1 ⟨rfl, rfl⟩
    rw [HI.out]
    go_wp2_with fail
    go_ret
    exact ⟨rfl, HB.out⟩
  | true =>
    have HI := Lib.hid hi
    clear hi
    by_cases h5 : k = 5
    · have hr : R = ⟨#[]⟩ := by rw [HR.out]; unfold madeS; rw [if_neg (fun h => h.2.1 h5)]
      subst hr
      have d5 : (k == 5) = true := by simpa using h5
      clear HR h5
      have c0 := HX.out.q0
      go_enter Tryd.func15, Tryd.ntmps15
      go_wp2_with fail
      refine (specImg _ l _ RV.out hn).mono ?_
      rintro e w1 ⟨rfl, rfl⟩
      rw [HI.out]
      go_wp2_with fail
      go_ret
      exact ⟨rfl, HB.out⟩
    have d5 : (k == 5) = false := by simpa using h5
    have H5 := Lib.hid h5
    clear h5
    have c0 := HX.out.q0
    have c1 := HX.out.q1
    have c2 := HX.out.q2
    have c3 := HX.out.q3
    cases hst : stepB (l.length : Int) k t f d with
    | false =>
      have hr : R = ⟨#[]⟩ := by rw [HR.out]; unfold madeS; rw [if_neg (fun h => by have := h.2.2; simp only at this; rw [hst] at this; cases this)]
      subst hr
      have HST := Lib.hid hst
      clear HR hst
      go_enter Tryd.func15, Tryd.ntmps15
      go_wp2_with fail
      refine (specImg _ l _ RV.out hn).mono ?_
      rintro e w1 ⟨rfl, rfl⟩
      rw [HI.out]
      go_wp2_with fail
      refine (specRightS k t f _ d _).mono ?_
      rintro e w1 ⟨rfl, hb⟩
      have HB2 := Lib.hid (below_more HB.out hb)
      clear hb
      rw [HST.out]
      go_wp2_with fail
      go_ret
      exact ⟨rfl, HB2.out⟩
    | true =>
      obtain ⟨f0, f1, -⟩ := ok_from hst H5.out
      have HST := Lib.hid hst
      have hr : R = makeS (k, t, f, d) (l.getD f.toNat ⟨#[]⟩) := by rw [HR.out]; unfold madeS; rw [if_pos ⟨HI.out, H5.out, hst⟩]
      obtain ⟨m, rfl⟩ : ∃ m : Nat, f = m := ⟨f.toNat, by omega⟩
      have hm : m < l.length := by omega
      have hg : l.getD ((m : Int)).toNat ⟨#[]⟩ = l[m] := by rw [Int.toNat_natCast, List.getD_eq_getElem?_getD, List.getElem?_eq_getElem hm]; rfl
      rw [hg] at hr
      have HR2 := Lib.hid hr
      have hsm := hs _ (List.getElem_mem hm)
      obtain ⟨b, off, rfl, hbl, hcell⟩ := RV.out.get (by omega)
      have HC := Lib.hid (show (w.alloc (.cells #[.int .i64 k, .int .i64 t, .int .i64 m, .string d] 33)).cell? ⟨b, off + m, none⟩ = some (.string l[m]) by rw [hcell m (by omega), strs_at l m hm])
      clear HR hst hr hg hcell
      go_enter Tryd.func15, Tryd.ntmps15
      go_wp2_with fail
      refine (specImg _ l _ RV.out hn).mono ?_
      rintro e w1 ⟨rfl, rfl⟩
      rw [HI.out]
      go_wp2_with fail
      refine (specRightS k t m _ d _).mono ?_
      rintro e w1 ⟨rfl, hb⟩
      have hx := HX.out.next hb
      replace c0 := hx.q0
      replace c1 := hx.q1
      replace c2 := hx.q2
      replace c3 := hx.q3
      have r0 : w1.cell? ⟨b, off + m, none⟩ = some (.string l[m]) := (hb.cell (p := ⟨b, off + m, none⟩) hbl).trans HC.out
      have HB2 := Lib.hid (below_more HB.out hb)
      have hsz : w.heap.size ≤ w1.heap.size := HB2.out.size
      clear hb hx
      rw [HST.out]
      generalize l[m] = src at *
      go_wp2_with fail
      have hc := specMake k t m d src w1.drew hd hsm
      rw [← HR2.out] at hc
      go_region_with ((go_at_call 45; refine hc.mono ?_; rintro e w2 ⟨rfl, hb2⟩))
      all_goals (
        have HB3 := Lib.hid (HB2.out.drew.trans (hb2.mono hsz))
        clear hb2
        go_wp2_with fail
        go_ret
        exact ⟨rfl, HB3.out⟩)
end Go.Proofs.YtgiiclkjffdjgaaDoor
