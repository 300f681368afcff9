/- The free numbers: the bits of an extent; the program's FreeOf and the model's. -/
import Derived.Test.YtmhmjofmafeidaaAFreeM
import Derived.Test.YtmhmjofmafeidaaABitsOf
namespace Go.Proofs.Ytmhmjofmafeidaa
open Go.RowKit

theorem pow24 (c : Nat) (h : c ≤ 24) : 2 ^ c ≤ 16777216 := by
  have h5 := Nat.pow_le_pow_right (n := 2) (by decide) h
  have h6 : (2 : Nat) ^ 24 = 16777216 := by decide
  omega
theorem ext_val (f c : Nat) (h : f + c ≤ 24) : wrap64 (wrap64 (wrap64 (2 ^ c) - 1) * 2 ^ f) = (((2 ^ c - 1) * 2 ^ f : Nat) : Int) := by
  have h1 := pow24 c (by omega)
  have h2 := pow24 f (by omega)
  have h0 : 1 ≤ 2 ^ c := Nat.one_le_two_pow
  have h3 : (2 ^ c - 1) * 2 ^ f ≤ 16777216 := by
    have e1 : (2 ^ c - 1) * 2 ^ f ≤ 2 ^ c * 2 ^ f := Nat.mul_le_mul_right _ (by omega)
    rw [← Nat.pow_add] at e1
    have := pow24 (c + f) (by omega)
    omega
  rw [show (2 : Int) ^ c = ((2 ^ c : Nat) : Int) by push_cast; rfl, show (2 : Int) ^ f = ((2 ^ f : Nat) : Int) by push_cast; rfl]
  generalize 2 ^ c = C at *
  generalize 2 ^ f = F at *
  rw [IntWalk.wrap64_in (C : Int) (by omega), IntWalk.wrap64_in ((C : Int) - 1) (by omega), show (C : Int) - 1 = ((C - 1 : Nat) : Int) by omega, ← Int.natCast_mul, IntWalk.wrap64_in _ (by omega)]
set_option maxRecDepth 100000 in
set_option maxHeartbeats 1000000 in
theorem extBits_any (f c : Nat) (w : World) (h : f + c ≤ 24) :
    Calls Try.prog 53 #[.agg #[.int .i64 (f : Int), .int .i64 (c : Int)]] w fun e w' => e = .returned (.int .i64 (((2 ^ c - 1) * 2 ^ f : Nat) : Int)) ∧ Below w.heap.size w w' := by
  have HV := Lib.hid (ext_val f c h)
  go_enter Try.func53, Try.ntmps53
  go_wp2_with fail
  go_quiet (fail)
  go_wp2_with fail
  go_ret
  exact ⟨by rw [← HV.out]; rfl, below_drewN (below_alloc1 w _) _⟩
theorem extBits_area (w : World) :
    Calls Try.prog 53 #[.agg #[.int .i64 0, .int .i64 24]] w fun e w' => e = .returned (.int .i64 16777215) ∧ Below w.heap.size w w' := extBits_any 0 24 w (by decide)
theorem free_val (a b : List Int) (ha : okL a = true) (hb : okL b = true) : ∃ n : Nat, n ≤ 16777215 ∧ bits BinOp.andNot IntKind.i64 16777215 (bits BinOp.or IntKind.i64 (maskL a) (maskL b)) = (n : Int) ∧ fromB (n : Int) = freeL a b := by
  have e : (2 : Nat) ^ 62 = 4611686018427387904 := by decide
  have ea : maskL a = ((maskT a a.length : Nat) : Int) := by unfold maskL; rw [ha]; rfl
  have eb : maskL b = ((maskT b b.length : Nat) : Int) := by unfold maskL; rw [hb]; rfl
  have ta := maskT_top a ha a.length (Nat.le_refl _)
  have tb := maskT_top b hb b.length (Nat.le_refl _)
  rw [ea, eb, i64_or _ _ (by omega) (by omega)]
  have hor : maskT a a.length ||| maskT b b.length < 2 ^ 24 := Nat.or_lt_two_pow (by omega) (by omega)
  obtain ⟨n, h1, h2, h3⟩ := i64_andNot 16777215 (maskT a a.length ||| maskT b b.length) (by decide) (Nat.lt_trans hor (by decide))
  refine ⟨n, h1, h3, ?_⟩
  unfold fromB freeL
  rw [if_pos ⟨by omega, by omega⟩, ha, hb]
  refine free_of_bits a b n (fun k hk => ?_) (by omega) 24 (Nat.le_refl _)
  rw [h2 k (by omega), full_bit k hk, Nat.testBit_or, mask_has a ha, mask_has b hb]
  simp
set_option maxRecDepth 100000 in
set_option maxHeartbeats 1000000 in
theorem implFree (u v : Value) (a b : List Int) (w : World) (h1 : Rd w u a.length 1 (ints a)) (h2 : Rd w v b.length 1 (ints b)) (n1 : a.length ≤ 1048576) (n2 : b.length ≤ 1048576) :
    Calls Try.prog 18 #[u, v] w (MadeG w (freeL a b)) := by
  obtain ⟨a1, c1, rfl, -⟩ := id h1.2
  obtain ⟨a2, c2, rfl, -⟩ := id h2.2
  have HA := Lib.hid h1
  have HB := Lib.hid h2
  clear h1 h2
  cases hoa : okL a with
  | false =>
    have HL : freeL a b = [] := by unfold freeL; rw [hoa]; rfl
    rw [HL]
    go_enter Try.func18, Try.ntmps18
    go_wp2_with fail
    refine (implRightL _ a w HA.out n1).mono ?_
    rintro e w1 ⟨rfl, rfl⟩
    rw [hoa]
    go_wp2_with fail
    go_ret
    exact ⟨_, rfl, Gr.nil _ _ _ _, Below.refl _ _⟩
  | true =>
    cases hob : okL b with
    | false =>
      have HL : freeL a b = [] := by unfold freeL; rw [hoa, hob]; rfl
      rw [HL]
      go_enter Try.func18, Try.ntmps18
      go_wp2_with fail
      refine (implRightL _ a w HA.out n1).mono ?_
      rintro e w1 ⟨rfl, rfl⟩
      rw [hoa]
      go_wp2_with fail
      refine (implRightL _ b _ HB.out n2).mono ?_
      rintro e w2 ⟨rfl, rfl⟩
      rw [hob]
      go_wp2_with fail
      go_ret
      exact ⟨_, rfl, Gr.nil _ _ _ _, Below.refl _ _⟩
    | true =>
      have HF := Lib.hid (free_val a b hoa hob)
      go_enter Try.func18, Try.ntmps18
      go_wp2_with fail
      refine (implRightL _ a w HA.out n1).mono ?_
      rintro e w1 ⟨rfl, rfl⟩
      rw [hoa]
      go_wp2_with fail
      refine (implRightL _ b _ HB.out n2).mono ?_
      rintro e w2 ⟨rfl, rfl⟩
      rw [hob]
      go_wp2_with fail
      refine (extBits_area _).mono ?_
      rintro e w3 ⟨rfl, hb3⟩
      have HB3 := Lib.hid hb3
      clear hb3
      go_wp2_with fail
      refine (implBitsOf _ a w3 (HA.out.below HB3.out (Nat.le_refl _)) n1).mono ?_
      rintro e w4 ⟨rfl, rfl⟩
      go_wp2_with fail
      refine (implBitsOf _ b _ (HB.out.below HB3.out (Nat.le_refl _)) n2).mono ?_
      rintro e w5 ⟨rfl, rfl⟩
      go_wp2_with fail
      obtain ⟨n, q1, q2, q3⟩ := HF.out
      rw [q2]
      have hc := implFromB (n : Int) w5 (by omega) (by omega)
      rw [q3] at hc
      refine hc.mono ?_
      clear hc q2 q3
      rintro e w6 ⟨v6, rfl, hg, hb6⟩
      have hz := HB3.out.size
      have HG := Lib.hid (hg.lower hz)
      have HB6 := Lib.hid (HB3.out.trans (hb6.mono hz))
      clear hg hb6
      go_wp2_with fail
      go_ret
      exact ⟨_, rfl, HG.out, HB6.out⟩

theorem hasL_take (l : List Int) (n : Int) (k : Nat) (h : k < l.length) : hasL (l.take (k + 1)) n = (hasL (l.take k) n || l[k] == n) := by
  rw [List.take_succ_eq_append_getElem h]; simp only [hasL, List.any_append, List.any_cons, List.any_nil, Bool.or_false]
def HasRel (l : List Int) (n : Int) (i : Value) : Prop := ∃ k : Nat, k ≤ l.length ∧ i = .int .i64 k ∧ hasL (l.take k) n = false
theorem hasL_mono (l : List Int) (n : Int) (k : Nat) (h : hasL (l.take k) n = true) : hasL l n = true := by
  rw [hasL_iff] at *; exact List.mem_of_mem_take h
set_option maxRecDepth 100000 in
set_option maxHeartbeats 1000000 in
theorem has_any (v : Value) (l : List Int) (n : Int) (w : World) (h : Rd w v l.length 1 (ints l)) (hn : l.length ≤ 1048576) :
    Calls Try.prog 66 #[v, .int .i64 n] w fun e w' => e = .returned (.bool (hasL l n)) ∧ w' = w := by
  obtain ⟨_, a, c, rfl, hc⟩ := h
  have HC := Lib.hid hc
  clear hc
  obtain ⟨q, hq⟩ : ∃ q, q = hasL l n := ⟨_, rfl⟩
  rw [← hq]
  have HQ := Lib.hid hq
  clear hq
  go_enter Try.func66, Try.ntmps66
  go_wp2_with fail
  go_loopw [5] (fun i wr => HasRel l n i ∧ wr = w) (fun i _ => l.length - (intOf i).toNat)
  case atStart => exact ⟨⟨0, by omega, rfl, rfl⟩, rfl⟩
  case round =>
    obtain ⟨⟨k, hk, rfl, hno⟩, rfl⟩ := hrel
    have HNO := Lib.hid hno
    clear hno
    by_cases hlt : k < l.length
    · obtain ⟨b, off, rfl, hbl, hcell⟩ := HC.out (by omega)
      have hc1 : wr.cell? ⟨b, off + k, none⟩ = some (.int .i64 l[k]) := by rw [hcell k (by omega), ints_at l k hlt]
      clear hcell
      have HT := Lib.hid (hasL_take l n k hlt)
      generalize hx : l[k] = x at *
      by_cases he : x = n
      · have HF : q = true := by rw [HQ.out]; exact hasL_mono l n (k + 1) (by rw [HT.out]; simp [he])
        go_wp2_with fail
        go_ret
        exact ⟨by rw [HF]; rfl, rfl⟩
      · have d1 : decide (x = n) = false := decide_eq_false he
        have HF : hasL (l.take (k + 1)) n = false := by rw [HT.out, HNO.out]; simp [he]
        have HF' := Lib.hid HF
        clear HF
        go_wp2_with fail
        go_roundw
        case rel => exact ⟨⟨k + 1, by omega, by go_num, HF'.out⟩, trivial⟩
        case measure => simp [intOf]; omega
    · obtain rfl : k = l.length := by omega
      have HF : q = false := by rw [HQ.out]; have := HNO.out; rwa [List.take_length] at this
      go_wp2_with fail
      go_ret
      exact ⟨by rw [HF]; rfl, rfl⟩

def FrRel (a b : List Int) (w : World) (lv i : Value) (wr : World) : Prop := ∃ k : Nat, k ≤ 24 ∧ i = .int .i64 k ∧ GrB w (freeT a b k) lv wr
set_option maxRecDepth 100000 in
set_option maxHeartbeats 1000000 in
theorem specLFree (u v : Value) (a b : List Int) (w : World) (h1 : Rd w u a.length 1 (ints a)) (h2 : Rd w v b.length 1 (ints b)) (n1 : a.length ≤ 1048576) (n2 : b.length ≤ 1048576) :
    Calls Try.prog 55 #[u, v] w (MadeG w (freeT a b 24)) := by
  obtain ⟨i0, hi, hz0, hz1, hz2⟩ := info_parts Try.info2
  obtain ⟨a1, c1, rfl, -⟩ := id h1.2
  obtain ⟨a2, c2, rfl, -⟩ := id h2.2
  have HA := Lib.hid h1
  have HB := Lib.hid h2
  clear h1 h2
  go_enter Try.func55, Try.ntmps55
  go_wp2_with fail
  go_loopw [5, 6] (fun lv i wr => FrRel a b w lv i wr) (fun _ i _ => 24 - (intOf i).toNat)
  case atStart => exact ⟨0, by omega, rfl, .inr ⟨rfl, rfl, .inr ⟨_, rfl⟩⟩, below_alloc1 w _⟩
  case round =>
    obtain ⟨k, hk, rfl, hg⟩ := hrel
    obtain ⟨a3, c3, rfl⟩ := hg.1.form
    have HG := Lib.hid hg
    clear hg
    by_cases hlt : k < 24
    · have hlen := freeT_len a b k
      have hsz := HG.out.2.size
      go_wp2_with fail
      refine (has_any _ a (k : Int) wr (HA.out.below HG.out.2 (Nat.le_refl _)) n1).mono ?_
      rintro e w1 ⟨rfl, rfl⟩
      cases q1 : hasL a (k : Int) with
      | true =>
        have HQ := Lib.hid (freeT_no1 a b k q1)
        clear q1
        go_wp2_with fail
        go_roundw
        case rel => exact ⟨k + 1, by omega, by go_num, by rw [HQ.out]; exact HG.out⟩
        case measure => simp [intOf]; omega
      | false =>
        have Q1 := Lib.hid q1
        clear q1
        go_wp2_with fail
        refine (has_any _ b (k : Int) _ (HB.out.below HG.out.2 (Nat.le_refl _)) n2).mono ?_
        rintro e w2 ⟨rfl, rfl⟩
        cases q2 : hasL b (k : Int) with
        | true =>
          have HQ := Lib.hid (freeT_no2 a b k q2)
          clear q2
          go_wp2_with fail
          go_roundw
          case rel => exact ⟨k + 1, by omega, by go_num, by rw [HQ.out]; exact HG.out⟩
          case measure => simp [intOf]; omega
        | false =>
          have HQ := Lib.hid (freeT_yes a b k Q1.out q2)
          clear q2
          go_wp2_with ((with_reducible show wpList _ _ _ (⟨some 25, _, _, _, _, _⟩ :: _) _ _); refine wpList_append_gr (lo := w.heap.size) (e := 2) (sz := 1) (v := .slice a3 (freeT a b k).length c3) (n := (freeT a b k).length) (xs := ints (freeT a b k)) rfl (.tmp 22) (.tmp 24) 23 rfl i0 _ 8 Try.underlying23 hi hz0 hz1 hz2 rfl (by decide) rfl (by rw [ints_length]; omega) ?_ ⟨w2.heap.size, 0, none⟩ 1 1 rfl [.int .i64 (k : Int)] (by decide) rfl ?_ ?_ (by unfold maxLen; omega) (by omega) (by simp; omega) ?_)
          · exact (HG.out.next (below_alloc1 w2 _)).1
          · exact one_new w2 2 (.int .i64 (k : Int))
          · intro u hu; simp at hu; subst hu; rfl
          · intro gg cc w4 hgn hgr hloc
            have G4 := Lib.hid ((HG.out.next (below_alloc1 w2 _)).grow (k : Int) hgn hgr)
            clear hgn hgr hloc
            go_wp2_with fail
            go_roundw
            case rel => exact ⟨k + 1, by omega, by go_num, by rw [HQ.out]; exact G4.out⟩
            case measure => simp [intOf]; omega
    · obtain rfl : k = 24 := by omega
      go_wp2_with fail
      go_ret
      exact ⟨_, rfl, HG.out.1, HG.out.2⟩

set_option maxRecDepth 100000 in
set_option maxHeartbeats 1000000 in
theorem specFree (u v : Value) (a b : List Int) (w : World) (h1 : Rd w u a.length 1 (ints a)) (h2 : Rd w v b.length 1 (ints b)) (n1 : a.length ≤ 1048576) (n2 : b.length ≤ 1048576) :
    Calls Try.prog 26 #[u, v] w (MadeG w (freeL a b)) := by
  obtain ⟨a1, c1, rfl, -⟩ := id h1.2
  obtain ⟨a2, c2, rfl, -⟩ := id h2.2
  have HA := Lib.hid h1
  have HB := Lib.hid h2
  clear h1 h2
  obtain ⟨R, hR⟩ : ∃ R, R = freeL a b := ⟨_, rfl⟩
  rw [← hR]
  have HV := Lib.hid hR
  clear hR
  go_enter Try.func26, Try.ntmps26
  go_wp2_with fail
  refine (specRightL _ a w HA.out n1).mono ?_
  rintro e w1 ⟨rfl, hst⟩
  have B1 := Lib.hid (hst.below w.heap.size)
  clear hst
  cases hoa : okL a with
  | false =>
    have HL : R = [] := by rw [HV.out]; unfold freeL; rw [hoa]; rfl
    subst HL
    clear hoa
    go_wp2_with fail
    go_ret
    exact ⟨_, rfl, .inr ⟨rfl, rfl, .inr ⟨_, rfl⟩⟩, B1.out.trans ((below_alloc1 w1 _).mono B1.out.size)⟩
  | true =>
    have OA := Lib.hid hoa
    clear hoa
    go_wp2_with fail
    refine (specRightL _ b w1 (HB.out.below B1.out (Nat.le_refl _)) n2).mono ?_
    rintro e w2 ⟨rfl, hst⟩
    have B2 := Lib.hid (B1.out.trans (hst.below w.heap.size))
    clear hst B1
    cases hob : okL b with
    | false =>
      have HL : R = [] := by rw [HV.out]; unfold freeL; rw [OA.out, hob]; rfl
      subst HL
      clear hob
      go_wp2_with fail
      go_ret
      exact ⟨_, rfl, .inr ⟨rfl, rfl, .inr ⟨_, rfl⟩⟩, B2.out.trans ((below_alloc1 w2 _).mono B2.out.size)⟩
    | true =>
      have HL : R = freeT a b 24 := by rw [HV.out]; unfold freeL; rw [OA.out, hob]; rfl
      subst HL
      clear hob
      go_wp2_with fail
      refine (specLFree _ _ a b w2 (HA.out.below B2.out (Nat.le_refl _)) (HB.out.below B2.out (Nat.le_refl _)) n1 n2).mono ?_
      rintro e w3 ⟨v3, rfl, hg, hb3⟩
      have hz := B2.out.size
      have HG := Lib.hid (hg.lower hz)
      have B3 := Lib.hid (B2.out.trans (hb3.mono hz))
      clear hg hb3
      go_wp2_with fail
      go_ret
      exact ⟨_, rfl, HG.out, B3.out⟩
theorem MadeG.row {w w' : World} {l : List Int} {e : Ending} (h : MadeG w l e w') : MadeRow w l.length 1 (ints l) e w' := by
  obtain ⟨v, rfl, hg, hb⟩ := h
  exact ⟨v, rfl, hg.own, hb⟩
end Go.Proofs.Ytmhmjofmafeidaa
