/- The law FnReserve, walked. -/
import Derived.Test.YtmhmjofmafeidaaADraw3
import Derived.Test.YtmhmjofmafeidaaAFnM
import Derived.Test.YtmhmjofmafeidaaAIres
import Derived.Test.YtmhmjofmafeidaaASres2
import Derived.Test.YtmhmjofmafeidaaAOb
import Derived.Test.YtmhmjofmafeidaaSome
namespace Go.Proofs.Ytmhmjofmafeidaa
open Go.RowKit

def SubRel (fr sel : List Int) (W : World) (k i : Value) (wr : World) : Prop :=
  ∃ p q : Nat, q ≤ fr.length ∧ p ≤ sel.length ∧ k = .int .i64 (p : Int) ∧ i = .int .i64 (q : Int) ∧ (sel.drop p).Sublist (fr.drop q) ∧ Still W wr
def LongRel (rs : List extT) (n : Int) (W : World) (lg i : Value) (wr : World) : Prop :=
  ∃ q : Nat, q ≤ rs.length ∧ lg = .bool (longB (rs.take q) n) ∧ i = .int .i64 (q : Int) ∧ wr = W
set_option maxHeartbeats 8000000 in
set_option maxRecDepth 100000 in
theorem reserveFn (a : Option Addr) (len cap : Nat) (w : World) (hB : Bytes w a len) (hl : len ≤ 9223372036854775807) :
    Calls Try.prog 4 #[.slice a len cap] w fun e w' => e = .returned (.bool true) ∧ Below w.heap.size w w' := by
  have HB := Lib.hid hB
  clear hB
  by_cases hbig : 1048576 < len
  · have d : decide ((1048576 : Int) < (len : Int)) = true := decide_eq_true (by omega)
    go_enter Try.func4, Try.ntmps4
    go_wp2_with fail
    go_ret
    exact ⟨rfl, Below.refl _ _⟩
  have d : decide ((1048576 : Int) < (len : Int)) = false := decide_eq_false (by omega)
  clear hl
  go_enter Try.func4, Try.ntmps4
  go_wp2_with fail
  refine (drawReserve_any a len cap w HB.out (by omega)).mono ?_
  rintro e w1 ⟨la, lb, va, vb, n, hla, hlb, ⟨hn0, hn1⟩, rfl, ha, hb, hw1⟩
  obtain ⟨xa, ca, rfl, -⟩ := id ha.2
  obtain ⟨xb, cb, rfl, -⟩ := id hb.2
  have RA := Lib.hid ha.rd
  have RB := Lib.hid hb.rd
  have B1 := Lib.hid hw1
  have hz1 := hw1.size
  clear ha hb hw1 HB
  obtain ⟨R, hR⟩ : ∃ R, R = resO la lb n := ⟨_, rfl⟩
  have hRl : R.1.length ≤ 24 := by rw [hR]; exact resO_len la lb n
  have HV := Lib.hid hR
  clear hR
  go_wp2_with fail
  have hc := implReserve _ _ la lb n w1 RA.out RB.out (by omega) (by omega) hn0 hn1
  rw [← HV.out] at hc
  refine hc.mono ?_
  clear hc
  rintro e w2 ⟨vx, rfl, hox, hb2⟩
  obtain ⟨ax, cx, rfl, -⟩ := id hox.2
  have RA2 := Lib.hid (RA.out.below hb2 (Nat.le_refl _))
  have RB2 := Lib.hid (RB.out.below hb2 (Nat.le_refl _))
  have B2 := Lib.hid (B1.out.trans (hb2.mono hz1))
  have RX := Lib.hid hox.rd
  have hz2 := hb2.size
  clear hb2 hox RA RB B1
  go_wp2_with fail
  have hc := specReserve _ _ la lb n w2 RA2.out RB2.out (by omega) (by omega) hn0 hn1
  rw [← HV.out] at hc
  refine hc.mono ?_
  clear hc
  rintro e w3 ⟨vy, rfl, hoy, hb3⟩
  obtain ⟨ay, cy, rfl, -⟩ := id hoy.2
  have RA3 := Lib.hid (RA2.out.below hb3 (Nat.le_refl _))
  have RB3 := Lib.hid (RB2.out.below hb3 (Nat.le_refl _))
  have RX3 := Lib.hid (RX.out.below hb3 (Nat.le_refl _))
  have RY3 := Lib.hid hoy.rd
  have B3 := Lib.hid (B2.out.trans (hb3.mono B2.out.size))
  have hz3 := hb3.size
  clear hb3 hoy RA2 RB2 RX B2
  go_wp2_with fail
  have hb4 := below_alloc1 w3 (.cells #[.slice ax R.1.length cx, .int .i64 R.2] 30)
  have hb5 := below_alloc1 (w3.alloc (.cells #[.slice ax R.1.length cx, .int .i64 R.2] 30)) (.cells #[.slice ay R.1.length cy, .int .i64 R.2] 30)
  have hz4 := size_alloc1 w3 (.cells #[.slice ax R.1.length cx, .int .i64 R.2] 30)
  have X := Lib.hid ((bx_new w3 30 #[.slice ax R.1.length cx, .int .i64 R.2]).next hb5)
  have hb6 := hb4.trans (hb5.mono hb4.size)
  generalize ((w3.alloc (.cells #[.slice ax R.1.length cx, .int .i64 R.2] 30)).alloc (.cells #[.slice ay R.1.length cy, .int .i64 R.2] 30)) = w5 at *
  have RA := Lib.hid (RA3.out.below hb6 (Nat.le_refl _))
  have RB := Lib.hid (RB3.out.below hb6 (Nat.le_refl _))
  have RX := Lib.hid (RX3.out.below hb6 (Nat.le_refl _))
  have RY := Lib.hid (RY3.out.below hb6 (Nat.le_refl _))
  have B := Lib.hid (B3.out.trans (hb6.mono B3.out.size))
  clear hb4 hb5 hb6 hz4 RA3 RB3 RX3 RY3 B3 hz3
  generalize w3.heap.size = nx at *
  refine (lwNums_any _ _ R.1 w5 RX.out RY.out (by omega)).mono ?_
  rintro e w6 ⟨rfl, hst⟩
  have hb := hst.below w5.heap.size
  replace RA := Lib.hid (RA.out.below hb (Nat.le_refl _))
  replace RB := Lib.hid (RB.out.below hb (Nat.le_refl _))
  replace RX := Lib.hid (RX.out.below hb (Nat.le_refl _))
  replace X := Lib.hid (X.out.next hb)
  replace B := Lib.hid (B.out.trans (hb.mono B.out.size))
  clear hst hb
  clear RY
  have k0 := X.out.cell 0
  have k1 := X.out.cell 1
  simp at k0 k1
  go_wp2_with fail
  clear k0 k1
  refine (specRightL _ la w6 RA.out (by omega)).mono ?_
  rintro e w7 ⟨rfl, hst⟩
  have hb := hst.below w6.heap.size
  replace RA := Lib.hid (RA.out.below hb (Nat.le_refl _))
  replace RB := Lib.hid (RB.out.below hb (Nat.le_refl _))
  replace RX := Lib.hid (RX.out.below hb (Nat.le_refl _))
  replace X := Lib.hid (X.out.next hb)
  replace B := Lib.hid (B.out.trans (hb.mono B.out.size))
  clear hst hb
  cases oa : okL la with
  | false =>
    have k0 := X.out.cell 0
    have k1 := X.out.cell 1
    simp at k0 k1
    have hRR : R = ([], 1) := by rw [HV.out]; exact resO_bad la lb n (by omega) (by rw [oa]; simp)
    have hr2 : R.2 = 1 := by rw [hRR]
    rw [hr2] at k1
    clear hRR hr2
    go_wp2_with fail
    go_ret
    exact ⟨rfl, B.out⟩
  | true =>
  go_wp2_with fail
  refine (specRightL _ lb w7 RB.out (by omega)).mono ?_
  rintro e w8 ⟨rfl, hst⟩
  have hb := hst.below w7.heap.size
  replace RA := Lib.hid (RA.out.below hb (Nat.le_refl _))
  replace RB := Lib.hid (RB.out.below hb (Nat.le_refl _))
  replace RX := Lib.hid (RX.out.below hb (Nat.le_refl _))
  replace X := Lib.hid (X.out.next hb)
  replace B := Lib.hid (B.out.trans (hb.mono B.out.size))
  clear hst hb
  cases ob : okL lb with
  | false =>
    have k0 := X.out.cell 0
    have k1 := X.out.cell 1
    simp at k0 k1
    have hRR : R = ([], 1) := by rw [HV.out]; exact resO_bad la lb n (by omega) (by rw [ob]; simp)
    have hr2 : R.2 = 1 := by rw [hRR]
    rw [hr2] at k1
    clear hRR hr2
    go_wp2_with fail
    go_ret
    exact ⟨rfl, B.out⟩
  | true =>
  by_cases hneg : n < 0
  · have d1 : decide (n < 0) = true := decide_eq_true hneg
    have k0 := X.out.cell 0
    have k1 := X.out.cell 1
    simp at k0 k1
    have hRR : R = ([], 1) := by rw [HV.out]; exact resO_bad la lb n (by omega) (by omega)
    have hr2 : R.2 = 1 := by rw [hRR]
    rw [hr2] at k1
    clear hRR hr2
    go_wp2_with fail
    go_ret
    exact ⟨rfl, B.out⟩
  have d1 : decide (n < 0) = false := decide_eq_false hneg
  have HFL := Lib.hid (show freeL la lb = freeT la lb 24 by unfold freeL; rw [oa, ob]; rfl)
  go_wp2_with fail
  refine (specFree _ _ la lb w8 RA.out RB.out (by omega) (by omega)).mono ?_
  rintro e w9 ⟨fv, rfl, hg, hb⟩
  rw [HFL.out] at hg
  obtain ⟨fa, fc, rfl⟩ := hg.form
  have RF := Lib.hid hg.own.rd
  have hfl := freeT_len la lb 24
  clear hg
  replace RA := Lib.hid (RA.out.below hb (Nat.le_refl _))
  replace RB := Lib.hid (RB.out.below hb (Nat.le_refl _))
  replace RX := Lib.hid (RX.out.below hb (Nat.le_refl _))
  replace X := Lib.hid (X.out.next hb)
  replace B := Lib.hid (B.out.trans (hb.mono B.out.size))
  clear hb
  have hok := freeT_ok la lb
  by_cases hfew : ((freeT la lb 24).length : Int) < n
  · have hRR : R = ([], 11) := by rw [HV.out]; exact resO_few la lb n (by omega) ⟨oa, ob, by omega⟩ hfew
    have hr2 : R.2 = 11 := by rw [hRR]
    have k0 := X.out.cell 0
    have k1 := X.out.cell 1
    simp at k0 k1
    rw [hr2] at k1
    clear hRR hr2
    have d2 : decide (n ≤ ((freeT la lb 24).length : Int)) = false := decide_eq_false (by omega)
    go_wp2_with fail
    go_ret
    exact ⟨rfl, B.out⟩
  obtain ⟨N, rfl⟩ : ∃ N : Nat, n = (N : Int) := ⟨n.toNat, by omega⟩
  have hRR : R = (selL (freeT la lb 24) N, 0) := by rw [HV.out]; exact resO_ok la lb N (by omega) ⟨oa, ob⟩ (by omega)
  subst hRR
  have d2 : decide ((N : Int) ≤ ((freeT la lb 24).length : Int)) = true := decide_eq_true (by omega)
  have hNle : N ≤ (freeT la lb 24).length := by omega
  clear HFL HV RA RB oa ob hn0 hn1 hneg d1 hfew
  generalize freeT la lb 24 = fr at *
  have hsl := selL_len fr N hNle
  have HSUB := Lib.hid (sel_sub fr hok N)
  have hsel : ∀ e, firstR (runsL fr) N = some e → selL fr N = spanL e.1 N := fun e => selL_some fr N e
  have HSEL := Lib.hid hsel
  clear hsel
  simp only at hsl hRl X RX
  obtain ⟨sel, hs⟩ : ∃ sel, sel = selL fr N := ⟨_, rfl⟩
  rw [← hs] at HSUB HSEL hsl hRl X RX ⊢
  have HS := Lib.hid hs
  clear hs
  rw [hsl] at X RX hRl ⊢
  have k0 := X.out.cell 0
  have k1 := X.out.cell 1
  simp at k0 k1
  go_wp2_with fail
  go_loopw [9, 10] (fun k i wr => SubRel fr sel w9 k i wr) (fun _ i _ => fr.length - (intOf i).toNat)
  case atStart => exact ⟨0, 0, by omega, by omega, rfl, rfl, by simpa using HSUB.out, Still.refl _⟩
  case round =>
    clear k0 k1
    obtain ⟨p, q, hq, hp, rfl, rfl, hsub, hst⟩ := hrel
    have hb := hst.below w9.heap.size
    have Xr := Lib.hid (X.out.next hb)
    have RFr := Lib.hid (RF.out.below hb (Nat.le_refl _))
    have RXr := Lib.hid (RX.out.below hb (Nat.le_refl _))
    have Br := Lib.hid (B.out.trans (hb.mono B.out.size))
    have HST := Lib.hid hst
    have HSB := Lib.hid hsub
    clear hb hst hsub
    have k0 := Xr.out.cell 0
    have k1 := Xr.out.cell 1
    simp at k0 k1
    by_cases hq2 : q < fr.length
    · have e0 : (q : Int) < (fr.length : Int) := by omega
      have e1 : (0 : Int) ≤ (q : Int) := by omega
      by_cases hp2 : p < N
      · have e2 : (p : Int) < (N : Int) := by omega
        have e3 : (0 : Int) ≤ (p : Int) := by omega
        obtain ⟨b1, o1, rfl, hl1, hc1⟩ := RFr.out.get (by omega)
        obtain ⟨b2, o2, rfl, hl2, hc2⟩ := RXr.out.get (by omega)
        have r1 := hc1 q (by omega)
        have r2 := hc2 p (by omega)
        rw [ints_at fr q hq2] at r1
        rw [ints_at sel p (by omega)] at r2
        clear hc1 hc2
        by_cases heq : fr[q] = sel[p]
        · have HN := Lib.hid (sub_hit hq2 (by omega) HSB.out heq)
          rw [heq] at r1
          clear heq
          generalize sel[p] = y at *
          go_wp2_with fail
          go_quiet (fail)
          go_wp2_with fail
          go_roundw
          case rel => exact ⟨p + 1, q + 1, by omega, by omega, by go_num, by go_num, HN.out, HST.out.trans ⟨_, rfl⟩⟩
          case measure => simp [intOf]; omega
        · have HN := Lib.hid (sub_miss hq2 (by omega) HSB.out heq)
          obtain ⟨x, hx⟩ : ∃ x, x = fr[q] := ⟨_, rfl⟩
          obtain ⟨y, hy⟩ : ∃ y, y = sel[p] := ⟨_, rfl⟩
          rw [← hx] at r1 heq
          rw [← hy] at r2 heq
          clear hx hy
          have d5 : decide (x = y) = false := decide_eq_false heq
          have d6 : (x == y) = false := by simp; exact heq
          clear heq
          go_wp2_with fail
          go_quiet (fail)
          go_wp2_with fail
          go_roundw
          case rel => exact ⟨p, q + 1, by omega, by omega, rfl, by go_num, HN.out, HST.out.trans ⟨_, rfl⟩⟩
          case measure => simp [intOf]; omega
      · obtain rfl : N = p := by omega
        go_wp2_with fail
        refine (specExt _ fr wr RFr.out (by omega)).mono ?_
        rintro e v1 ⟨ev, rfl, hg, hb⟩
        rw [extO_yes fr hok] at hg
        obtain ⟨ra, rc, rfl⟩ := hg.form
        have RR := Lib.hid hg.own.rd
        have X1 := Lib.hid (Xr.out.next hb)
        have RX1 := Lib.hid (RXr.out.below hb (Nat.le_refl _))
        have B1 := Lib.hid (Br.out.trans (hb.mono Br.out.size))
        have hrl := runsL_len fr
        clear hg hb
        obtain ⟨rs, hrs⟩ : ∃ rs, rs = runsL fr := ⟨_, rfl⟩
        rw [← hrs] at RR hrl HSEL ⊢
        clear hrs
        go_wp2_with fail
        go_loopw [11, 13] (fun lg i wi => LongRel rs (N : Int) v1 lg i wi) (fun _ i _ => rs.length - (intOf i).toNat)
        case atStart => exact ⟨0, by omega, by simp [longB], rfl, rfl⟩
        case round =>
          obtain ⟨q2, hq2, rfl, rfl, hww⟩ := hrel
          rw [hww]
          clear hww
          by_cases hlt : q2 < rs.length
          · obtain ⟨b', off', rfl, hbl', hcell'⟩ := RR.out.get (by omega)
            have r1 := hcell' (q2 * 2 + 1) (by omega)
            rw [extCs_1 rs q2 hlt, ← Nat.add_assoc] at r1
            clear hcell'
            have e0 : (q2 : Int) < (rs.length : Int) := by omega
            have e1 : (0 : Int) ≤ (q2 : Int) := by omega
            have HT := Lib.hid (long_take rs (N : Int) q2 hlt)
            cases hlb : longB (rs.take q2) (N : Int) with
            | true =>
              go_wp2_with fail
              go_roundw
              case rel => exact ⟨q2 + 1, by omega, by rw [HT.out, hlb]; rfl, by go_num, rfl⟩
              case measure => simp [intOf]; omega
            | false =>
              obtain ⟨x, hx⟩ : ∃ x, x = rs[q2].2 := ⟨_, rfl⟩
              rw [← hx] at r1 HT
              clear hx
              go_wp2_with fail
              go_roundw
              case rel => exact ⟨q2 + 1, by omega, by rw [HT.out, hlb]; rfl, by go_num, rfl⟩
              case measure => simp [intOf]; omega
          · obtain rfl : q2 = rs.length := by omega
            rw [List.take_length]
            have k0 := X1.out.cell 0
            have k1 := X1.out.cell 1
            simp at k0 k1
            cases hlb : longB rs (N : Int) with
            | false =>
              go_wp2_with fail
              go_ret
              exact ⟨rfl, B1.out⟩
            | true =>
              obtain ⟨e, he⟩ := long_first rs (N : Int) hlb
              have hsp := HSEL.out e he
              have hle : (extO sel).length ≤ 1 := by rw [hsp]; exact ext_span e.1 N
              go_wp2_with fail
              refine (implExt _ sel v1 (by rw [hsl]; exact RX1.out) (by omega)).mono ?_
              rintro e2 v2 ⟨xv, rfl, hov, hb2⟩
              obtain ⟨xa2, xc2, rfl, -⟩ := id hov.2
              have B2 := Lib.hid (B1.out.trans (hb2.mono B1.out.size))
              clear hov hb2 hsp he
              have d9 : decide (((extO sel).length : Int) ≤ 1) = true := decide_eq_true (by omega)
              go_wp2_with fail
              go_ret
              exact ⟨rfl, B2.out⟩
    · obtain rfl : q = fr.length := by omega
      obtain rfl : N = p := by have := sub_end hp HSB.out; omega
      go_wp2_with fail
      refine (specExt _ fr wr RFr.out (by omega)).mono ?_
      rintro e v1 ⟨ev, rfl, hg, hb⟩
      rw [extO_yes fr hok] at hg
      obtain ⟨ra, rc, rfl⟩ := hg.form
      have RR := Lib.hid hg.own.rd
      have X1 := Lib.hid (Xr.out.next hb)
      have RX1 := Lib.hid (RXr.out.below hb (Nat.le_refl _))
      have B1 := Lib.hid (Br.out.trans (hb.mono Br.out.size))
      have hrl := runsL_len fr
      clear hg hb
      obtain ⟨rs, hrs⟩ : ∃ rs, rs = runsL fr := ⟨_, rfl⟩
      rw [← hrs] at RR hrl HSEL ⊢
      clear hrs
      go_wp2_with fail
      go_loopw [11, 13] (fun lg i wi => LongRel rs (N : Int) v1 lg i wi) (fun _ i _ => rs.length - (intOf i).toNat)
      case atStart => exact ⟨0, by omega, by simp [longB], rfl, rfl⟩
      case round =>
        obtain ⟨q2, hq2, rfl, rfl, hww⟩ := hrel
        rw [hww]
        clear hww
        by_cases hlt : q2 < rs.length
        · obtain ⟨b', off', rfl, hbl', hcell'⟩ := RR.out.get (by omega)
          have r1 := hcell' (q2 * 2 + 1) (by omega)
          rw [extCs_1 rs q2 hlt, ← Nat.add_assoc] at r1
          clear hcell'
          have e0 : (q2 : Int) < (rs.length : Int) := by omega
          have e1 : (0 : Int) ≤ (q2 : Int) := by omega
          have HT := Lib.hid (long_take rs (N : Int) q2 hlt)
          cases hlb : longB (rs.take q2) (N : Int) with
          | true =>
            go_wp2_with fail
            go_roundw
            case rel => exact ⟨q2 + 1, by omega, by rw [HT.out, hlb]; rfl, by go_num, rfl⟩
            case measure => simp [intOf]; omega
          | false =>
            obtain ⟨x, hx⟩ : ∃ x, x = rs[q2].2 := ⟨_, rfl⟩
            rw [← hx] at r1 HT
            clear hx
            go_wp2_with fail
            go_roundw
            case rel => exact ⟨q2 + 1, by omega, by rw [HT.out, hlb]; rfl, by go_num, rfl⟩
            case measure => simp [intOf]; omega
        · obtain rfl : q2 = rs.length := by omega
          rw [List.take_length]
          have k0 := X1.out.cell 0
          have k1 := X1.out.cell 1
          simp at k0 k1
          cases hlb : longB rs (N : Int) with
          | false =>
            go_wp2_with fail
            go_ret
            exact ⟨rfl, B1.out⟩
          | true =>
            obtain ⟨e, he⟩ := long_first rs (N : Int) hlb
            have hsp := HSEL.out e he
            have hle : (extO sel).length ≤ 1 := by rw [hsp]; exact ext_span e.1 N
            go_wp2_with fail
            refine (implExt _ sel v1 (by rw [hsl]; exact RX1.out) (by omega)).mono ?_
            rintro e2 v2 ⟨xv, rfl, hov, hb2⟩
            obtain ⟨xa2, xc2, rfl, -⟩ := id hov.2
            have B2 := Lib.hid (B1.out.trans (hb2.mono B1.out.size))
            clear hov hb2 hsp he
            have d9 : decide (((extO sel).length : Int) ≤ 1) = true := decide_eq_true (by omega)
            go_wp2_with fail
            go_ret
            exact ⟨rfl, B2.out⟩
end Go.Proofs.Ytmhmjofmafeidaa
