/- The program's hasSector and FlashRight. -/
import Derived.Test.YtkeimgglikdbfaaM1
namespace Go.Proofs.Ytkeimgglikdbfaa
open Go.RowKit

set_option maxHeartbeats 1000000 in
set_option maxRecDepth 100000 in
theorem implHas (a a' : Option Addr) (n c n' c' : Nat) (x : Int) (w : World) (hn : n ≤ 1048576) (b : Bool) (hb : b = true ↔ 0 ≤ x ∧ x < (n : Int)) :
    Calls Try.prog 30 #[.agg #[.slice a n c, .slice a' n' c'], .int .i64 x] w fun e w' => e = .returned (.bool b) ∧ Below w.heap.size w w' := by
  have HB := Lib.hid (below_alloc1 w (.cells #[.slice a n c, .slice a' n' c'] 26))
  have H := Lib.hid hb
  clear hb
  by_cases h0 : 0 ≤ x
  · by_cases h1 : x < (n : Int)
    · obtain rfl : b = true := H.out.2 ⟨h0, h1⟩
      clear H
      go_enter Try.func30, Try.ntmps30
      go_wp2
      go_ret
      exact ⟨rfl, HB.out⟩
    · obtain rfl : b = false := by cases b; rfl; exact absurd (H.out.1 rfl).2 h1
      clear H
      have d1 : decide (x < (n : Int)) = false := decide_eq_false h1
      go_enter Try.func30, Try.ntmps30
      go_wp2
      go_ret
      exact ⟨rfl, HB.out⟩
  · obtain rfl : b = false := by cases b; rfl; exact absurd (H.out.1 rfl).1 h0
    clear H
    have d0 : decide (0 ≤ x) = false := decide_eq_false h0
    go_enter Try.func30, Try.ntmps30
    go_wp2
    go_ret
    exact ⟨rfl, HB.out⟩

/-- Whether sector j is among the first k elements of Dirty. -/
def seenAt (F : FM) (k j : Nat) : Bool := (F.dir.take k).any (fun d => d.1 == (j : Int))
theorem seenAt_zero (F : FM) (j : Nat) : seenAt F 0 j = false := rfl
theorem seenAt_succ (F : FM) (k j : Nat) (h : k < F.dir.length) : seenAt F (k + 1) j = (seenAt F k j || F.dir[k].1 == (j : Int)) := by
  unfold seenAt
  rw [List.take_succ_eq_append_getElem h, List.any_append]; simp
theorem seenAt_yes {F : FM} {k j : Nat} (h : seenAt F k j = true) (hk : k ≤ F.dir.length) : ∃ i, ∃ (hi : i < F.dir.length), i < k ∧ F.dir[i].1 = (j : Int) := by
  unfold seenAt at h
  rw [List.any_eq_true] at h
  obtain ⟨d, hd, he⟩ := h
  obtain ⟨i, hi, rfl⟩ := List.mem_iff_getElem.1 hd
  rw [List.length_take] at hi
  exact ⟨i, by omega, by omega, by simpa using he⟩
theorem seenAt_no {F : FM} {k j : Nat} (h : seenAt F k j = false) (i : Nat) (hi : i < F.dir.length) (hk : i < k) : F.dir[i].1 ≠ (j : Int) := by
  intro e
  have : seenAt F k j = true := by
    unfold seenAt
    rw [List.any_eq_true]
    exact ⟨F.dir[i], by rw [List.mem_take_iff_getElem]; exact ⟨i, by omega, rfl⟩, by simp [e]⟩
  rw [this] at h; cases h
def OnceSeen (F : FM) (W : World) (g : Nat) (i : Value) (wr : World) : Prop := ∃ k : Nat, k ≤ F.dir.length ∧ i = .int .i64 k ∧ Seen F k ∧ CellsAt wr g 72 40 (fun j => .bool (seenAt F k j)) ∧ Below g W wr

set_option maxHeartbeats 2000000 in
set_option maxRecDepth 100000 in
theorem implRight (sv dv : Value) (F : FM) (w : World) (h : FRd w sv dv F) (hf : FFits F) (hs : ∀ s ∈ F.sec, s.size ≤ 1048576) (hd : ∀ d ∈ F.dir, d.2.size ≤ 1048576) :
    Calls Try.prog 23 #[.agg #[sv, dv]] w (RightPost F w) := by
  obtain ⟨f1, f2⟩ := hf
  have hb := (Below.refl w.heap.size w).alloc (Nat.le_refl _) (.cells #[sv, dv] 26)
  have H := Lib.hid (h.below hb (Nat.le_refl _))
  obtain ⟨⟨-, a, c, rfl, h1⟩, ⟨-, a', c', rfl, h2⟩⟩ := h
  have HB := Lib.hid hb
  have HS := Lib.hid hs
  have HD := Lib.hid hd
  clear h1 h2 hb hs hd
  by_cases hA : 1 ≤ F.sec.length ∧ F.sec.length ≤ 40 ∧ F.dir.length ≤ F.sec.length
  · obtain ⟨g1, g2, g3⟩ := hA
    have d1 : decide ((F.sec.length : Int) < 1) = false := decide_eq_false (by omega)
    have d2 : decide ((40 : Int) < (F.sec.length : Int)) = false := decide_eq_false (by omega)
    have d3 : decide (F.sec.length < F.dir.length) = false := decide_eq_false (by omega)
    go_enter Try.func23, Try.ntmps23
    go_wp2_with fail
    have X0 := Lib.hid (bx_new w 26 #[.slice a F.sec.length c, .slice a' F.dir.length c'])
    have hzW := size_alloc1 w (.cells #[.slice a F.sec.length c, .slice a' F.dir.length c'] 26)
    generalize w.alloc (.cells #[.slice a F.sec.length c, .slice a' F.dir.length c'] 26) = W at *
    have c0 := X0.out.c0
    have c1 := X0.out.c1
    go_loop [28] (fun i => SecRel F i) (fun i => F.sec.length - (intOf i).toNat)
    case atStart => exact ⟨0, by omega, rfl, fun j _ hj => absurd hj (by omega)⟩
    case round =>
      obtain ⟨k, hk, rfl, hseen⟩ := hrel
      have SEEN := Lib.hid hseen
      clear hseen
      by_cases hlt : k < F.sec.length
      · obtain ⟨b, off, rfl, hbl, hc⟩ := H.out.1.get (by omega)
        have hcell : W.cell? ⟨b, off + k, none⟩ = some (.string F.sec[k]) := by rw [hc k (by omega), strs_at _ k hlt]
        have hsk := HS.out F.sec[k] (List.getElem_mem hlt)
        clear hc
        by_cases hbig : 96 < F.sec[k].size
        · go_wp2_with fail
          go_ret
          exact ⟨false, rfl, ⟨(fun e => by cases e), fun r => absurd (r.fits k hlt) (by omega)⟩, HB.out⟩
        · go_wp2_with fail
          go_round
          case rel =>
            refine ⟨k + 1, by omega, by go_num, fun j h hj => ?_⟩
            by_cases hjk : j = k
            · subst hjk; omega
            · exact SEEN.out j h (by omega)
          case measure => simp [intOf]; omega
      · obtain rfl : k = F.sec.length := by omega
        have FITS := Lib.hid (show ∀ j (h : j < F.sec.length), F.sec[j].size ≤ 96 from fun j h => SEEN.out j h h)
        clear SEEN hlt hk
        clear c0
        have CN := Lib.hid (cellsAt_new W W.heap.size 40 72 (fun j => .bool (seenAt F 0 j)) rfl (cs := cellsV 40 (fun j => .bool (seenAt F 0 j))) rfl)
        have BN := Lib.hid (below_alloc1 W (.cells (cellsV 40 (fun j => .bool (seenAt F 0 j))) 72))
        have ha : ((W.alloc (.cells (cellsV 40 (fun j => .bool (seenAt F 0 j))) 72)).cell? ⟨w.heap.size, 1, none⟩) = some (.slice a' F.dir.length c') := (X0.out.next BN.out).c1
        have c1' : ((W.alloc (.cells (cellsV 40 (fun _ => .bool false)) 72)).cell? ⟨w.heap.size, 1, none⟩) = some (.slice a' F.dir.length c') := ha
        clear ha
        go_wp2_with fail
        go_loopw [39] (fun i wr => OnceSeen F W W.heap.size i wr) (fun i _ => F.dir.length - (intOf i).toNat)
        case atStart => exact ⟨0, by omega, rfl, ⟨fun j _ hj => absurd hj (by omega), fun j _ hj => absurd hj (by omega), fun j _ hj => absurd hj (by omega), fun i j _ _ hj => absurd hj (by omega)⟩, CN.out, BN.out⟩
        case round =>
          clear c1'
          obtain ⟨k, hk, rfl, hseen, hcs, hbw⟩ := hrel
          have SEEN := Lib.hid hseen
          have hlw : W.heap.size < wr.heap.size := hcs.lt
          clear hseen
          by_cases hlt : k < F.dir.length
          · obtain ⟨b, off, rfl, hbl, hc⟩ := H.out.2.get (by omega)
            have hc0 : wr.cell? ⟨b, off + k * 2, none⟩ = some (.int .i64 F.dir[k].1) := by rw [hbw.cell (p := ⟨b, off + k * 2, none⟩) hbl, hc (k * 2) (by omega), dirs_even _ k hlt]
            have hc1 : wr.cell? ⟨b, off + k * 2 + 1, none⟩ = some (.string F.dir[k].2) := by rw [hbw.cell (p := ⟨b, off + k * 2 + 1, none⟩) hbl, Nat.add_assoc, hc (k * 2 + 1) (by omega), dirs_odd _ k hlt]
            have hsk := HD.out F.dir[k] (List.getElem_mem hlt)
            have xb := X0.out.below hbw (by omega)
            have bA := below_alloc1 wr (.cells #[.int .i64 F.dir[k].1, .string F.dir[k].2] 63)
            have xc := xb.next bA
            have r0 := xc.c0
            have r1 := xc.c1
            have e0 : (k : Int) < (F.dir.length : Int) := by omega
            have e1 : (0 : Int) ≤ (k : Int) := by omega
            have CS := Lib.hid hcs
            have BW := Lib.hid hbw
            have BA := Lib.hid (BW.out.trans (bA.mono (by omega)))
            have XD := Lib.hid (bx_new wr 63 #[.int .i64 F.dir[k].1, .string F.dir[k].2])
            have CA := Lib.hid (CS.out.below bA (by omega))
            have hzA := size_alloc1 wr (.cells #[.int .i64 F.dir[k].1, .string F.dir[k].2] 63)
            clear hc hcs hbw xb bA xc
            go_wp2_with fail
            generalize wr.alloc (.cells #[.int .i64 F.dir[k].1, .string F.dir[k].2] 63) = WA at *
            generalize wr.heap.size = g at *
            by_cases hin : 0 ≤ F.dir[k].1 ∧ F.dir[k].1 < (F.sec.length : Int)
            · obtain ⟨i0, i1⟩ := hin
              have i2 : F.dir[k].1 < 40 := by omega
              refine (implHas _ _ _ _ _ _ F.dir[k].1 _ (by omega) true ⟨fun _ => ⟨i0, i1⟩, fun _ => rfl⟩).mono ?_
              rintro e w2 ⟨rfl, hb2⟩
              have XD2 := XD.out.next hb2
              have CS2 := CA.out.below hb2 (by omega)
              have s0 := XD2.c0
              have s1 := XD2.c1
              have sc := CS2.cell F.dir[k].1.toNat (by omega)
              have sf := CS2.frozen F.dir[k].1.toNat
              have B2 := Lib.hid (BA.out.trans (hb2.mono (by omega)))
              have C2 := Lib.hid CS2
              have z2 : WA.heap.size ≤ w2.heap.size := hb2.size
              clear hb2 XD2 CS2 r0 r1 hc0 hc1
              obtain ⟨sn, hsn⟩ : ∃ sn, sn = seenAt F k F.dir[k].1.toNat := ⟨_, rfl⟩
              rw [← hsn] at sc
              rw [hzW] at sc sf
              have SN := Lib.hid hsn
              clear hsn
              have et : ((F.dir[k].1.toNat : Nat) : Int) = F.dir[k].1 := by omega
              have ET := Lib.hid et
              clear et
              cases sn with
              | true =>
                go_wp2_with fail
                go_ret
                refine ⟨false, rfl, ⟨(fun e => by cases e), fun r => ?_⟩, HB.out.trans (B2.out.mono (by omega))⟩
                obtain ⟨i, hi, hik, he⟩ := seenAt_yes SN.out.symm (by omega)
                exact absurd (he.trans ET.out) (r.once i k hlt hik)
              | false =>
                by_cases hbig : 96 < F.dir[k].2.size
                · go_wp2_with fail
                  go_ret
                  exact ⟨false, rfl, ⟨(fun e => by cases e), fun r => absurd (r.data k hlt) (by omega)⟩, HB.out.trans (B2.out.mono (by omega))⟩
                · go_wp2_with fail
                  go_roundw
                  case rel =>
                    have fin : OnceSeen F W W.heap.size (.int .i64 ((k : Int) + 1)) (w2.setCell ⟨w.heap.size + 1, F.dir[k].1.toNat, none⟩ (.bool true)) := by
                      rw [← hzW]
                      refine ⟨k + 1, by omega, by go_num, ?_, ?_, B2.out.setCell (p := ⟨W.heap.size, F.dir[k].1.toNat, none⟩) (Nat.le_refl _) _⟩
                      · have S := SEEN.out
                        refine ⟨fun j h hj => ?_, fun j h hj => ?_, fun j h hj => ?_, fun i j h hi hj => ?_⟩ <;> (by_cases hjk : j = k)
                        · subst hjk; exact i0
                        · exact S.at0 j h (by omega)
                        · subst hjk; omega
                        · exact S.at1 j h (by omega)
                        · subst hjk; omega
                        · exact S.data j h (by omega)
                        · subst hjk; exact fun e => seenAt_no SN.out.symm i (by omega) hi (e.trans ET.out.symm)
                        · exact S.once i j h hi (by omega)
                      · refine C2.out.set F.dir[k].1.toNat (.bool true) ?_ (fun i hi => ?_)
                        · rw [seenAt_succ F k _ hlt]; simp [ET.out]
                        · rw [seenAt_succ F k _ hlt]
                          have : (F.dir[k].1 == (i : Int)) = false := by
                            simp; intro e; apply hi; omega
                          rw [this, Bool.or_false]
                    first | exact fin | ((repeat apply Exists.intro); exact ⟨fin, rfl⟩)
                  case measure => simp [intOf]; omega
            · refine (implHas _ _ _ _ _ _ F.dir[k].1 _ (by omega) false ⟨(fun e => by cases e), fun r => absurd r hin⟩).mono ?_
              rintro e w2 ⟨rfl, hb2⟩
              have B2 := Lib.hid (BA.out.trans (hb2.mono (by omega)))
              have HIN := Lib.hid hin
              clear hb2 hin
              go_wp2_with fail
              go_ret
              exact ⟨false, rfl, ⟨(fun e => by cases e), fun r => absurd ⟨r.at0 k hlt, by have := r.at1 k hlt; omega⟩ HIN.out⟩, HB.out.trans (B2.out.mono (by omega))⟩
          · obtain rfl : k = F.dir.length := by omega
            have BW := Lib.hid hbw
            clear hbw hcs
            go_wp2_with fail
            go_ret
            have S := SEEN.out
            exact ⟨true, rfl, ⟨fun _ => ⟨g1, g2, g3, FITS.out, fun j h => S.at0 j h h, fun j h => S.at1 j h h, fun j h => S.data j h h, fun i j h hi => S.once i j h hi h⟩, fun _ => rfl⟩, HB.out.trans (BW.out.mono (by omega))⟩
  · have HA := Lib.hid hA
    have nope : ∀ r : Right F, False := fun r => HA.out ⟨r.least, r.most, r.dirty⟩
    have NO := Lib.hid nope
    clear nope
    by_cases h1 : F.sec.length < 1
    · clear hA HA
      go_enter Try.func23, Try.ntmps23
      go_wp2_with fail
      go_ret
      exact ⟨false, rfl, ⟨(fun e => by cases e), fun r => (NO.out r).elim⟩, HB.out⟩
    · by_cases h2 : 40 < F.sec.length
      · clear hA HA
        have d1 : decide ((F.sec.length : Int) < 1) = false := decide_eq_false (by omega)
        go_enter Try.func23, Try.ntmps23
        go_wp2_with fail
        go_ret
        exact ⟨false, rfl, ⟨(fun e => by cases e), fun r => (NO.out r).elim⟩, HB.out⟩
      · have h3 : F.sec.length < F.dir.length := by omega
        have d1 : decide ((F.sec.length : Int) < 1) = false := decide_eq_false (by omega)
        have d2 : decide ((40 : Int) < (F.sec.length : Int)) = false := decide_eq_false (by omega)
        clear hA HA
        go_enter Try.func23, Try.ntmps23
        go_wp2_with fail
        go_ret
        exact ⟨false, rfl, ⟨(fun e => by cases e), fun r => (NO.out r).elim⟩, HB.out⟩
end Go.Proofs.Ytkeimgglikdbfaa
