/- The program's FlashSync. -/
import Derived.Test.YtkeimgglikdbfaaISync
import Derived.Test.YtkeimgglikdbfaaIFRead
import Derived.Test.YtkeimgglikdbfaaSFSync
namespace Go.Proofs.Ytkeimgglikdbfaa
open Go.RowKit

theorem keys_length (F : FM) : (F.dir.map (·.1)).length = F.dir.length := by simp
theorem mem_in {F : FM} (hr : Right F) : ∀ x ∈ F.dir.map (·.1), (mapOf F.dir x).isSome = true ∧ 0 ≤ x ∧ x < (F.sec.length : Int) := by
  intro x hx
  obtain ⟨d, hd, rfl⟩ := List.mem_map.1 hx
  obtain ⟨k, hk, rfl⟩ := List.mem_iff_getElem.1 hd
  have := hr.at0 k hk
  have := hr.at1 k hk
  exact ⟨by rw [mapOf_hit F.dir hr.once k hk]; rfl, by omega, by omega⟩
theorem keys_once {F : FM} (hr : Right F) : ∀ i j (hj : j < (F.dir.map (·.1)).length) (hi : i < j), (F.dir.map (·.1))[i] ≠ (F.dir.map (·.1))[j] := by
  intro i j hj hi
  rw [keys_length] at hj
  simpa using hr.once i j hj hi
theorem syncS_all {F : FM} (hr : Right F) : syncS (mapOf F.dir) F.sec (F.dir.map (·.1)) = syncL F.sec F.dir := by
  have : ∀ k, k ≤ F.dir.length → syncS (mapOf F.dir) F.sec ((F.dir.map (·.1)).take k) = syncL F.sec (F.dir.take k) := by
    intro k
    induction k with
    | zero => intro _; rfl
    | succ k ih =>
      intro hk
      have hk' : k < F.dir.length := by omega
      rw [syncS_step _ _ _ k (by simpa using hk') F.dir[k].2 (by simpa using mapOf_hit F.dir hr.once k hk'), ih (by omega), syncL_step _ _ k hk']
      simp
  have := this F.dir.length (Nat.le_refl _)
  rwa [List.take_length, List.take_of_length_le (by simp)] at this
theorem sync_fits {F : FM} (h : FFits F) : FFits (fsyncOf F).fl := by
  unfold fsyncOf
  split
  · exact ⟨by show (syncL F.sec F.dir).length ≤ _; rw [syncL_length]; exact h.1, by simp [syncOf]⟩
  · exact noFits

set_option maxHeartbeats 4000000 in
set_option maxRecDepth 100000 in
theorem implFSync (sv dv : Value) (F : FM) (w : World) (h : FRd w sv dv F) (hf : FFits F) (hs : ∀ s ∈ F.sec, s.size ≤ 1048576) (hd : ∀ d ∈ F.dir, d.2.size ≤ 1048576) :
    Calls Try.prog 8 #[.agg #[sv, dv]] w (OMade w (fsyncOf F)) := by
  obtain ⟨a, c, rfl, -⟩ := id h.1.2
  obtain ⟨a', c', rfl, -⟩ := id h.2.2
  have HF := Lib.hid hf
  have HS := Lib.hid hs
  have HD := Lib.hid hd
  have HR := Lib.hid h
  obtain ⟨O, hO⟩ : ∃ O, O = fsyncOf F := ⟨_, rfl⟩
  rw [← hO]
  unfold fsyncOf at hO
  have H0 := Lib.hid hO
  clear h hf hs hd hO
  go_enter Try.func8, Try.ntmps8
  go_wp2_with fail
  have hb2 : Below w.heap.size w ((w.alloc (.cells #[.slice a F.sec.length c, .slice a' F.dir.length c'] 26)).alloc (.cells #[.slice none 0 0, .slice none 0 0, .string { data := #[] }, .int .i64 0] 30)) := ((Below.refl _ w).alloc (Nat.le_refl _) _).alloc (by simp) _
  have kz : ((w.alloc (.cells #[.slice a F.sec.length c, .slice a' F.dir.length c'] 26)).alloc (.cells #[.slice none 0 0, .slice none 0 0, .string { data := #[] }, .int .i64 0] 30)).heap.size = w.heap.size + 2 := by simp
  have hbo := boxOut_new w (.slice a F.sec.length c) (.slice a' F.dir.length c') (.slice none 0 0) (.slice none 0 0) (.string { data := #[] }) (.int .i64 0) 26 30
  generalize (w.alloc (.cells #[.slice a F.sec.length c, .slice a' F.dir.length c'] 26)).alloc (.cells #[.slice none 0 0, .slice none 0 0, .string { data := #[] }, .int .i64 0] 30) = W at *
  refine (implRight _ _ F W (HR.out.below hb2 (Nat.le_refl _)) HF.out HS.out HD.out).mono ?_
  rintro e w1 ⟨b, rfl, hiff, hb1⟩
  have hbo1 := hbo.next (by omega) hb1
  have hbw : Below w.heap.size w w1 := hb2.trans (hb1.mono (by omega))
  have hz1 : w.heap.size + 2 ≤ w1.heap.size := by have := hb1.size; omega
  clear hb2 kz hbo hb1
  clear W
  cases b with
  | false =>
    have hn : ¬ Right F := fun r => by simpa using hiff.2 r
    have hO : O = illOf 1 := by rw [H0.out, if_neg hn]
    clear H0 hiff hn
    subst hO
    obtain ⟨-, -, q0, q1, q2, q3, f0, f1, f2, f3⟩ := hbo1
    obtain ⟨x0, hx0⟩ := Option.isSome_iff_exists.1 q0
    obtain ⟨x1, hx1⟩ := Option.isSome_iff_exists.1 q1
    obtain ⟨x2, hx2⟩ := Option.isSome_iff_exists.1 q2
    obtain ⟨x3, hx3⟩ := Option.isSome_iff_exists.1 q3
    have HBW := Lib.hid hbw
    clear hbw q0 q1 q2 q3
    go_wp2_with fail
    refine bodyPost_ret (v := .agg #[.slice none 0 0, .slice none 0 0, .string (illOf 1).data, .int .i64 (illOf 1).code]) (by simp [results, Try.results8, go_sem, hx0, hx1, hx2, hx3, illOf]; rfl) rfl ⟨_, _, rfl, noFlash_own _ _, ?_⟩
    exact (((HBW.out.setCell (p := ⟨w.heap.size + 1, 0, none⟩) (by simp) _).setCell (p := ⟨w.heap.size + 1, 1, none⟩) (by simp) _).setCell (p := ⟨w.heap.size + 1, 2, none⟩) (by simp) _).setCell (p := ⟨w.heap.size + 1, 3, none⟩) (by simp) _
  | true =>
    have hr : Right F := hiff.1 rfl
    have hO : O = ⟨syncOf F, ByteArray.empty, 0⟩ := by rw [H0.out, if_pos hr]
    have HRT := Lib.hid hr
    obtain ⟨l0, l1, l2⟩ : 1 ≤ F.sec.length ∧ F.sec.length ≤ 40 ∧ F.dir.length ≤ 40 := ⟨hr.least, hr.most, Nat.le_trans hr.dirty hr.most⟩
    clear H0 hiff hr
    subst hO
    obtain ⟨b0, b1, -⟩ := id hbo1
    have HB2 := Lib.hid hbw
    have HBO := Lib.hid hbo1
    clear hbw hbo1
    go_wp2_with fail
    refine (implOpened _ _ F w1 (HR.out.below HB2.out (Nat.le_refl _)) HRT.out).mono ?_
    rintro e w3 ⟨pb, mb, sv3, ov3, rfl, hof, hb3⟩
    have hz3 : w1.heap.size ≤ w3.heap.size := hb3.size
    have HOF := Lib.hid hof
    have HB3 := Lib.hid (HB2.out.trans (hb3.mono (by omega)))
    have HBO3 := Lib.hid (HBO.out.next hz1 hb3)
    clear hof hb3 b0 b1 HB2 HBO
    go_wp2_with fail
    refine (implSync _ _ _ _ _ _ _ _ _ w3 HOF.out (by omega) (by omega) (by simp; omega) (mem_in HRT.out) (keys_once HRT.out)).mono ?_
    rintro e w4 ⟨rfl, hof, hb4⟩
    rw [syncS_all HRT.out] at hof
    have hz4 : w3.heap.size ≤ w4.heap.size := hb4.size
    have HOF4 := Lib.hid hof
    have HB4 := Lib.hid (HB3.out.trans (hb4.mono (by omega)))
    have HBO4 := Lib.hid (HBO3.out.below hb4 (by omega))
    clear hof hb4 HOF HB3 HBO3
    go_wp2_with fail
    refine (implClosed _ _ _ _ _ _ _ _ _ w4 HOF4.out (by rw [syncL_length]; omega) (by simp) (fun x hx => by cases hx)).mono ?_
    rintro e w5 ⟨sv4, dv4, rfl, ho4, hb4⟩
    have ho5 : FOwn w5 w4.heap.size sv4 dv4 (syncOf F) := ho4
    obtain ⟨a1, p1, rfl, -⟩ := id ho5.1.2
    obtain ⟨a2, p2, rfl, -⟩ := id ho5.2.1.2
    have HO4 := Lib.hid ho5
    have HB5 := Lib.hid (HB4.out.trans (hb4.mono (by omega)))
    obtain ⟨-, -, q0, q1, q2, q3, f0, f1, f2, f3⟩ := HBO4.out.next (by omega) hb4
    obtain ⟨x0, hx0⟩ := Option.isSome_iff_exists.1 q0
    obtain ⟨x1, hx1⟩ := Option.isSome_iff_exists.1 q1
    obtain ⟨x2, hx2⟩ := Option.isSome_iff_exists.1 q2
    obtain ⟨x3, hx3⟩ := Option.isSome_iff_exists.1 q3
    clear ho4 ho5 hb4 HOF4 HB4 HBO4 q0 q1 q2 q3
    go_wp2_with fail
    refine bodyPost_ret (v := .agg #[.slice a1 (syncOf F).sec.length p1, .slice a2 (syncOf F).dir.length p2, .string { data := #[] }, .int .i64 0]) (by simp [results, Try.results8, go_sem, hx0, hx1, hx2, hx3]) rfl ⟨_, _, rfl, ?_, ?_⟩
    · exact ((((HO4.out.other _ _ (by simp; omega)).other _ _ (by simp; omega)).other _ _ (by simp; omega)).other _ _ (by simp; omega)).lower (by omega)
    · exact (((HB5.out.setCell (p := ⟨w.heap.size + 1, 0, none⟩) (by simp) _).setCell (p := ⟨w.heap.size + 1, 1, none⟩) (by simp) _).setCell (p := ⟨w.heap.size + 1, 2, none⟩) (by simp) _).setCell (p := ⟨w.heap.size + 1, 3, none⟩) (by simp) _
end Go.Proofs.Ytkeimgglikdbfaa
