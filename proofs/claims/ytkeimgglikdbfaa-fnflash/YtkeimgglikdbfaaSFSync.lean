/- The model's FlashSync. -/
import Derived.Test.YtkeimgglikdbfaaSSync
namespace Go.Proofs.Ytkeimgglikdbfaa
open Go.RowKit

open Classical in
noncomputable def fsyncOf (F : FM) : OM := if Right F then ⟨syncOf F, ByteArray.empty, 0⟩ else illOf 1

set_option maxHeartbeats 2000000 in
set_option maxRecDepth 100000 in
theorem specFSync (sv dv : Value) (F : FM) (w : World) (h : FRd w sv dv F) (hf : FFits F) (hs : ∀ s ∈ F.sec, s.size ≤ 1048576) (hd : ∀ d ∈ F.dir, d.2.size ≤ 1048576) :
    Calls Try.prog 16 #[.agg #[sv, dv]] w (OMade w (fsyncOf F)) := by
  obtain ⟨a, c, rfl, -⟩ := id h.1.2
  obtain ⟨a', c', rfl, -⟩ := id h.2.2
  have HF := Lib.hid hf
  have HS := Lib.hid hs
  have HD := Lib.hid hd
  have HR := Lib.hid h
  obtain ⟨O, hO⟩ : ∃ O, O = fsyncOf F := ⟨_, rfl⟩
  rw [← hO]
  unfold fsyncOf at hO
  have H0 := Lib.hid hO
  clear h hf hs hd hO
  go_enter Try.func16, Try.ntmps16
  go_wp2_with fail
  have e1 : (w.alloc (.cells #[.slice a F.sec.length c, .slice a' F.dir.length c'] 26)).heap.size = w.heap.size + 1 := by simp
  have hb2 : Below w.heap.size w ((w.alloc (.cells #[.slice a F.sec.length c, .slice a' F.dir.length c'] 26)).alloc (.cells #[.slice none 0 0, .slice none 0 0, .string { data := #[] }, .int .i64 0] 30)) := ((Below.refl _ w).alloc (Nat.le_refl _) _).alloc (by simp) _
  have kz : ((w.alloc (.cells #[.slice a F.sec.length c, .slice a' F.dir.length c'] 26)).alloc (.cells #[.slice none 0 0, .slice none 0 0, .string { data := #[] }, .int .i64 0] 30)).heap.size = w.heap.size + 2 := by simp
  have hbo := boxOut_new w (.slice a F.sec.length c) (.slice a' F.dir.length c') (.slice none 0 0) (.slice none 0 0) (.string { data := #[] }) (.int .i64 0) 26 30
  generalize (w.alloc (.cells #[.slice a F.sec.length c, .slice a' F.dir.length c'] 26)).alloc (.cells #[.slice none 0 0, .slice none 0 0, .string { data := #[] }, .int .i64 0] 30) = W at *
  refine (specRight _ _ F W (HR.out.below hb2 (Nat.le_refl _)) HF.out HS.out HD.out).mono ?_
  rintro e w1 ⟨b, rfl, hiff, hb1⟩
  have hbo1 := hbo.next (by omega) hb1
  have hbw : Below w.heap.size w w1 := hb2.trans (hb1.mono (by omega))
  have hz1 : w.heap.size + 2 ≤ w1.heap.size := by have := hb1.size; omega
  clear e1 hb2 kz hbo hb1
  clear W
  cases b with
  | false =>
    have hn : ¬ Right F := fun r => by simpa using hiff.2 r
    have hO : O = illOf 1 := by rw [H0.out, if_neg hn]
    clear H0 hiff hn
    subst hO
    have HBO := Lib.hid hbo1
    have HBW := Lib.hid hbw
    clear hbo1 hbw
    go_wp2_with fail
    refine (specIll 1 w1).mono ?_
    rintro e w2 ⟨sv', dv', rfl, ho, hb2⟩
    obtain ⟨a1, n1, rfl, -⟩ := id ho.1.2
    obtain ⟨a2, n2, rfl, -⟩ := id ho.2.1.2
    obtain ⟨-, -, c0, c1, c2, c3, f0, f1, f2, f3⟩ := HBO.out.next hz1 hb2
    obtain ⟨x0, hx0⟩ := Option.isSome_iff_exists.1 c0
    obtain ⟨x1, hx1⟩ := Option.isSome_iff_exists.1 c1
    obtain ⟨x2, hx2⟩ := Option.isSome_iff_exists.1 c2
    obtain ⟨x3, hx3⟩ := Option.isSome_iff_exists.1 c3
    have HO := Lib.hid (ho.lower hz1)
    have HB := Lib.hid (HBW.out.trans (hb2.mono (by omega)))
    clear HBO HBW hb2 ho
    go_wp2_with fail
    refine bodyPost_ret (v := .agg #[.slice a1 (illOf 1).fl.sec.length n1, .slice a2 (illOf 1).fl.dir.length n2, .string (illOf 1).data, .int .i64 (illOf 1).code]) (by simp [results, Try.results16, go_sem, hx0, hx1, hx2, hx3]) rfl ⟨_, _, rfl, ?_, ?_⟩
    · exact ((((HO.out.other _ _ (by simp)).other _ _ (by simp)).other _ _ (by simp)).other _ _ (by simp)).lower (by omega)
    · exact (((HB.out.setCell (p := ⟨w.heap.size + 1, 0, none⟩) (by simp) _).setCell (p := ⟨w.heap.size + 1, 1, none⟩) (by simp) _).setCell (p := ⟨w.heap.size + 1, 2, none⟩) (by simp) _).setCell (p := ⟨w.heap.size + 1, 3, none⟩) (by simp) _
  | true =>
    have hr : Right F := hiff.1 rfl
    have hO : O = ⟨syncOf F, ByteArray.empty, 0⟩ := by rw [H0.out, if_pos hr]
    clear H0 hiff
    subst hO
    have HRT := Lib.hid hr
    have HBO := Lib.hid hbo1
    have HBW := Lib.hid hbw
    obtain ⟨b0, b1, -⟩ := id hbo1
    clear hr hbo1 hbw
    go_wp2_with fail
    refine (specSync _ _ F w1 (HR.out.below HBW.out (Nat.le_refl _)) HRT.out).mono ?_
    rintro e w2 ⟨sv', dv', rfl, ho, hb2⟩
    obtain ⟨a1, n1, rfl, -⟩ := id ho.1.2
    obtain ⟨a2, n2, rfl, -⟩ := id ho.2.1.2
    obtain ⟨-, -, c0, c1, c2, c3, f0, f1, f2, f3⟩ := HBO.out.next hz1 hb2
    obtain ⟨x0, hx0⟩ := Option.isSome_iff_exists.1 c0
    obtain ⟨x1, hx1⟩ := Option.isSome_iff_exists.1 c1
    obtain ⟨x2, hx2⟩ := Option.isSome_iff_exists.1 c2
    obtain ⟨x3, hx3⟩ := Option.isSome_iff_exists.1 c3
    have HO := Lib.hid (ho.lower hz1)
    have HB := Lib.hid (HBW.out.trans (hb2.mono (by omega)))
    clear HBO HBW hb2 ho
    go_wp2_with fail
    refine bodyPost_ret (v := .agg #[.slice a1 (syncOf F).sec.length n1, .slice a2 (syncOf F).dir.length n2, .string { data := #[] }, .int .i64 0]) (by simp [results, Try.results16, go_sem, hx0, hx1, hx2, hx3]) rfl ⟨_, _, rfl, ?_, ?_⟩
    · exact ((((HO.out.other _ _ (by simp)).other _ _ (by simp)).other _ _ (by simp)).other _ _ (by simp)).lower (by omega)
    · exact (((HB.out.setCell (p := ⟨w.heap.size + 1, 0, none⟩) (by simp) _).setCell (p := ⟨w.heap.size + 1, 1, none⟩) (by simp) _).setCell (p := ⟨w.heap.size + 1, 2, none⟩) (by simp) _).setCell (p := ⟨w.heap.size + 1, 3, none⟩) (by simp) _
end Go.Proofs.Ytkeimgglikdbfaa
