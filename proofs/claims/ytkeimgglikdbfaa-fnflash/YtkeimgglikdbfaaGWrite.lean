/- The model's FlashWrite, with what an append wants. -/
import Derived.Test.YtkeimgglikdbfaaGPut
import Derived.Test.YtkeimgglikdbfaaGNew
import Derived.Test.YtkeimgglikdbfaaSWrite
namespace Go.Proofs.Ytkeimgglikdbfaa
open Go.RowKit

set_option maxHeartbeats 4000000 in
set_option maxRecDepth 100000 in
theorem specWriteG (sv dv : Value) (F : FM) (at_ : Int) (x : ByteArray) (w : World) (h : FRd w sv dv F) (hf : FFits F) (hs : ∀ s ∈ F.sec, s.size ≤ 1048576) (hd : ∀ d ∈ F.dir, d.2.size ≤ 1048576) (hx : x.size ≤ 1048576) :
    Calls Try.prog 13 #[.agg #[sv, dv], .int .i64 at_, .string x] w (OMadeG w (writeOf F at_ x)) := by
  obtain ⟨a, c, rfl, -⟩ := id h.1.2
  obtain ⟨a', c', rfl, -⟩ := id h.2.2
  have HF := Lib.hid hf
  have HS := Lib.hid hs
  have HD := Lib.hid hd
  have HR := Lib.hid h
  obtain ⟨O, hO⟩ : ∃ O, O = writeOf F at_ x := ⟨_, rfl⟩
  rw [← hO]
  unfold writeOf at hO
  have H0 := Lib.hid hO
  clear h hf hs hd hO
  have hb2 : Below w.heap.size w ((w.alloc (.cells #[.slice a F.sec.length c, .slice a' F.dir.length c'] 26)).alloc (.cells #[.slice none 0 0, .slice none 0 0, .string { data := #[] }, .int .i64 0] 30)) := ((Below.refl _ w).alloc (Nat.le_refl _) _).alloc (by simp) _
  have kz : ((w.alloc (.cells #[.slice a F.sec.length c, .slice a' F.dir.length c'] 26)).alloc (.cells #[.slice none 0 0, .slice none 0 0, .string { data := #[] }, .int .i64 0] 30)).heap.size = w.heap.size + 2 := by simp
  have hbo := boxOut_new w (.slice a F.sec.length c) (.slice a' F.dir.length c') (.slice none 0 0) (.slice none 0 0) (.string { data := #[] }) (.int .i64 0) 26 30
  have HB0 := Lib.hid hb2
  have HBO0 := Lib.hid hbo
  clear hb2 hbo
  by_cases hbig : 8000 < x.size
  · have hO : O = illOf 2 := by rw [H0.out, if_pos hbig]
    clear H0
    subst hO
    have d0 : decide ((8000 : Int) < (x.size : Int)) = true := decide_eq_true (by omega)
    go_enter Try.func13, Try.ntmps13
    go_wp2_with fail
    generalize (w.alloc (.cells #[.slice a F.sec.length c, .slice a' F.dir.length c'] 26)).alloc (.cells #[.slice none 0 0, .slice none 0 0, .string { data := #[] }, .int .i64 0] 30) = W at *
    have hzW : w.heap.size + 2 ≤ W.heap.size := by omega
    refine (specIllG 2 W).mono ?_
    rintro e wz ⟨sz, dz, rfl, hoz, hbz⟩
    obtain ⟨az1, nz1, rfl, -⟩ := id hoz.1.2
    obtain ⟨az2, nz2, rfl, -⟩ := id hoz.2.1.2
    obtain ⟨-, -, q0, q1, q2, q3, f0, f1, f2, f3⟩ := HBO0.out.next hzW hbz
    obtain ⟨x0, hx0⟩ := Option.isSome_iff_exists.1 q0
    obtain ⟨x1, hx1⟩ := Option.isSome_iff_exists.1 q1
    obtain ⟨x2, hx2⟩ := Option.isSome_iff_exists.1 q2
    obtain ⟨x3, hx3⟩ := Option.isSome_iff_exists.1 q3
    clear q0 q1 q2 q3
    have HO := Lib.hid (hoz.lower hzW)
    have HB := Lib.hid (HB0.out.trans (hbz.mono (by omega)))
    clear HBO0 HB0 hbz hoz
    go_wp2_with fail
    refine bodyPost_ret (v := .agg #[.slice az1 (illOf 2).fl.sec.length nz1, .slice az2 (illOf 2).fl.dir.length nz2, .string (illOf 2).data, .int .i64 (illOf 2).code]) (by simp [results, Try.results13, go_sem, hx0, hx1, hx2, hx3]) rfl ⟨_, _, rfl, ?_, ?_⟩
    · exact ((((HO.out.other _ _ (by simp)).other _ _ (by simp)).other _ _ (by simp)).other _ _ (by simp)).lower (by omega)
    · exact (((HB.out.setCell (p := ⟨w.heap.size + 1, 0, none⟩) (by simp) _).setCell (p := ⟨w.heap.size + 1, 1, none⟩) (by simp) _).setCell (p := ⟨w.heap.size + 1, 2, none⟩) (by simp) _).setCell (p := ⟨w.heap.size + 1, 3, none⟩) (by simp) _
  have d0 : decide ((8000 : Int) < (x.size : Int)) = false := decide_eq_false (by omega)
  have H1 := Lib.hid (H0.out.trans (if_neg hbig))
  clear H0
  go_enter Try.func13, Try.ntmps13
  go_wp2_with fail
  generalize (w.alloc (.cells #[.slice a F.sec.length c, .slice a' F.dir.length c'] 26)).alloc (.cells #[.slice none 0 0, .slice none 0 0, .string { data := #[] }, .int .i64 0] 30) = W at *
  refine (specRight _ _ F W (HR.out.below HB0.out (Nat.le_refl _)) HF.out HS.out HD.out).mono ?_
  rintro e w1 ⟨b, rfl, hiff, hb1⟩
  have hbo1 := HBO0.out.next (by omega) hb1
  have hbw : Below w.heap.size w w1 := HB0.out.trans (hb1.mono (by omega))
  have hz1 : w.heap.size + 2 ≤ w1.heap.size := by have := hb1.size; omega
  clear HB0 HBO0 kz hb1
  clear W
  cases b with
  | false =>
    have hn : ¬ Right F := fun r => by simpa using hiff.2 r
    have hO : O = illOf 1 := by rw [H1.out, if_neg (fun r => hn r.1)]
    clear H1 hiff hn
    subst hO
    have HBO := Lib.hid hbo1
    have HBW := Lib.hid hbw
    clear hbo1 hbw
    go_wp2_with fail
    refine (specIllG 1 w1).mono ?_
    rintro e wz ⟨sz, dz, rfl, hoz, hbz⟩
    obtain ⟨az1, nz1, rfl, -⟩ := id hoz.1.2
    obtain ⟨az2, nz2, rfl, -⟩ := id hoz.2.1.2
    obtain ⟨-, -, q0, q1, q2, q3, f0, f1, f2, f3⟩ := HBO.out.next hz1 hbz
    obtain ⟨x0, hx0⟩ := Option.isSome_iff_exists.1 q0
    obtain ⟨x1, hx1⟩ := Option.isSome_iff_exists.1 q1
    obtain ⟨x2, hx2⟩ := Option.isSome_iff_exists.1 q2
    obtain ⟨x3, hx3⟩ := Option.isSome_iff_exists.1 q3
    clear q0 q1 q2 q3
    have HO := Lib.hid (hoz.lower hz1)
    have HB := Lib.hid (HBW.out.trans (hbz.mono (by omega)))
    clear HBO HBW hbz hoz
    go_wp2_with fail
    refine bodyPost_ret (v := .agg #[.slice az1 (illOf 1).fl.sec.length nz1, .slice az2 (illOf 1).fl.dir.length nz2, .string (illOf 1).data, .int .i64 (illOf 1).code]) (by simp [results, Try.results13, go_sem, hx0, hx1, hx2, hx3]) rfl ⟨_, _, rfl, ?_, ?_⟩
    · exact ((((HO.out.other _ _ (by simp)).other _ _ (by simp)).other _ _ (by simp)).other _ _ (by simp)).lower (by omega)
    · exact (((HB.out.setCell (p := ⟨w.heap.size + 1, 0, none⟩) (by simp) _).setCell (p := ⟨w.heap.size + 1, 1, none⟩) (by simp) _).setCell (p := ⟨w.heap.size + 1, 2, none⟩) (by simp) _).setCell (p := ⟨w.heap.size + 1, 3, none⟩) (by simp) _
  | true =>
    have hr : Right F := hiff.1 rfl
    obtain ⟨l0, l1, l2⟩ : 1 ≤ F.sec.length ∧ F.sec.length ≤ 40 ∧ F.dir.length ≤ 40 := ⟨hr.least, hr.most, Nat.le_trans hr.dirty hr.most⟩
    by_cases hsz : 96 < x.size
    · have hO : O = illOf 1 := by rw [H1.out, if_neg (fun r => by omega)]
      clear H1 hiff hr
      subst hO
      have d1 : decide ((96 : Int) < (x.size : Int)) = true := decide_eq_true (by omega)
      have HBO := Lib.hid hbo1
      have HBW := Lib.hid hbw
      clear hbo1 hbw
      go_wp2_with fail
      refine (specIllG 1 w1).mono ?_
      rintro e wz ⟨sz, dz, rfl, hoz, hbz⟩
      obtain ⟨az1, nz1, rfl, -⟩ := id hoz.1.2
      obtain ⟨az2, nz2, rfl, -⟩ := id hoz.2.1.2
      obtain ⟨-, -, q0, q1, q2, q3, f0, f1, f2, f3⟩ := HBO.out.next hz1 hbz
      obtain ⟨x0, hx0⟩ := Option.isSome_iff_exists.1 q0
      obtain ⟨x1, hx1⟩ := Option.isSome_iff_exists.1 q1
      obtain ⟨x2, hx2⟩ := Option.isSome_iff_exists.1 q2
      obtain ⟨x3, hx3⟩ := Option.isSome_iff_exists.1 q3
      clear q0 q1 q2 q3
      have HO := Lib.hid (hoz.lower hz1)
      have HB := Lib.hid (HBW.out.trans (hbz.mono (by omega)))
      clear HBO HBW hbz hoz
      go_wp2_with fail
      refine bodyPost_ret (v := .agg #[.slice az1 (illOf 1).fl.sec.length nz1, .slice az2 (illOf 1).fl.dir.length nz2, .string (illOf 1).data, .int .i64 (illOf 1).code]) (by simp [results, Try.results13, go_sem, hx0, hx1, hx2, hx3]) rfl ⟨_, _, rfl, ?_, ?_⟩
      · exact ((((HO.out.other _ _ (by simp)).other _ _ (by simp)).other _ _ (by simp)).other _ _ (by simp)).lower (by omega)
      · exact (((HB.out.setCell (p := ⟨w.heap.size + 1, 0, none⟩) (by simp) _).setCell (p := ⟨w.heap.size + 1, 1, none⟩) (by simp) _).setCell (p := ⟨w.heap.size + 1, 2, none⟩) (by simp) _).setCell (p := ⟨w.heap.size + 1, 3, none⟩) (by simp) _
    have d1 : decide ((96 : Int) < (x.size : Int)) = false := decide_eq_false (by omega)
    have hO1 := H1.out
    rw [if_pos ⟨hr, by omega⟩] at hO1
    have HO1 := Lib.hid hO1
    have HRT := Lib.hid hr
    clear H1 hiff hr hO1
    obtain ⟨b0, b1, -⟩ := id hbo1
    by_cases hin : 0 ≤ at_ ∧ at_ < F.sec.length
    · have hO : O = ⟨putOf F at_ x, ByteArray.empty, 0⟩ := by rw [HO1.out, if_pos hin]
      clear HO1
      subst hO
      obtain ⟨n0, n1⟩ := hin
      have m0 : IntKind.i64.wrap ((F.sec.length : Int) - 1) = (F.sec.length : Int) - 1 := IntWalk.i64_in _ (by omega)
      go_wp2_with fail
      refine (is_yes at_ 0 _ w1 n0 (by omega)).mono ?_
      rintro e w2 ⟨rfl, rfl⟩
      have HBO := Lib.hid hbo1
      have HBW := Lib.hid hbw
      clear hbo1 hbw
      go_wp2_with fail
      refine (specPutG _ _ F at_ x _ (HR.out.below HBW.out (Nat.le_refl _)) HF.out).mono ?_
      rintro e w3 ⟨sv3, dv3, rfl, ho3, hb3⟩
      obtain ⟨a1, p1, rfl, -⟩ := id ho3.1.2
      obtain ⟨a2, p2, rfl, -⟩ := id ho3.2.1.2
      obtain ⟨-, -, q0, q1, q2, q3, f0, f1, f2, f3⟩ := HBO.out.next hz1 hb3
      obtain ⟨x0, hx0⟩ := Option.isSome_iff_exists.1 q0
      obtain ⟨x1, hx1⟩ := Option.isSome_iff_exists.1 q1
      obtain ⟨x2, hx2⟩ := Option.isSome_iff_exists.1 q2
      obtain ⟨x3, hx3⟩ := Option.isSome_iff_exists.1 q3
      clear q0 q1 q2 q3
      have HO := Lib.hid (ho3.lower hz1)
      have HB := Lib.hid (HBW.out.trans (hb3.mono (by omega)))
      clear HBO HBW hb3 ho3 b0 b1
      go_wp2_with fail
      refine bodyPost_ret (v := .agg #[.slice a1 (putOf F at_ x).sec.length p1, .slice a2 (putOf F at_ x).dir.length p2, .string { data := #[] }, .int .i64 0]) (by simp [results, Try.results13, go_sem, hx0, hx1, hx2, hx3]) rfl ⟨_, _, rfl, ?_, ?_⟩
      · exact ((((HO.out.other _ _ (by simp)).other _ _ (by simp)).other _ _ (by simp)).other _ _ (by simp)).lower (by omega)
      · exact (((HB.out.setCell (p := ⟨w.heap.size + 1, 0, none⟩) (by simp) _).setCell (p := ⟨w.heap.size + 1, 1, none⟩) (by simp) _).setCell (p := ⟨w.heap.size + 1, 2, none⟩) (by simp) _).setCell (p := ⟨w.heap.size + 1, 3, none⟩) (by simp) _
    · have hO : O = illOf 8 := by rw [HO1.out, if_neg hin]
      clear HO1
      subst hO
      have hout : at_ < 0 ∨ 0 ≤ at_ ∧ (F.sec.length : Int) - 1 < at_ := by omega
      have HOUT := Lib.hid hout
      have m0 : IntKind.i64.wrap ((F.sec.length : Int) - 1) = (F.sec.length : Int) - 1 := IntWalk.i64_in _ (by omega)
      clear hin hout
      have HBO := Lib.hid hbo1
      have HBW := Lib.hid hbw
      clear hbo1 hbw
      go_wp2_with fail
      refine (is_no at_ 0 _ w1 HOUT.out).mono ?_
      rintro e w2 ⟨rfl, rfl⟩
      go_wp2_with fail
      refine (specIllG 8 _).mono ?_
      rintro e wz ⟨sz, dz, rfl, hoz, hbz⟩
      obtain ⟨az1, nz1, rfl, -⟩ := id hoz.1.2
      obtain ⟨az2, nz2, rfl, -⟩ := id hoz.2.1.2
      obtain ⟨-, -, q0, q1, q2, q3, f0, f1, f2, f3⟩ := HBO.out.next hz1 hbz
      obtain ⟨x0, hx0⟩ := Option.isSome_iff_exists.1 q0
      obtain ⟨x1, hx1⟩ := Option.isSome_iff_exists.1 q1
      obtain ⟨x2, hx2⟩ := Option.isSome_iff_exists.1 q2
      obtain ⟨x3, hx3⟩ := Option.isSome_iff_exists.1 q3
      clear q0 q1 q2 q3
      have HO := Lib.hid (hoz.lower hz1)
      have HB := Lib.hid (HBW.out.trans (hbz.mono (by omega)))
      clear HBO HBW hbz hoz
      go_wp2_with fail
      refine bodyPost_ret (v := .agg #[.slice az1 (illOf 8).fl.sec.length nz1, .slice az2 (illOf 8).fl.dir.length nz2, .string (illOf 8).data, .int .i64 (illOf 8).code]) (by simp [results, Try.results13, go_sem, hx0, hx1, hx2, hx3]) rfl ⟨_, _, rfl, ?_, ?_⟩
      · exact ((((HO.out.other _ _ (by simp)).other _ _ (by simp)).other _ _ (by simp)).other _ _ (by simp)).lower (by omega)
      · exact (((HB.out.setCell (p := ⟨w.heap.size + 1, 0, none⟩) (by simp) _).setCell (p := ⟨w.heap.size + 1, 1, none⟩) (by simp) _).setCell (p := ⟨w.heap.size + 1, 2, none⟩) (by simp) _).setCell (p := ⟨w.heap.size + 1, 3, none⟩) (by simp) _
end Go.Proofs.Ytkeimgglikdbfaa
