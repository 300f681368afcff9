/- The model's ActsDo. -/
import Derived.Test.YtocjjkjjojdpdaaSActs
namespace Go.Proofs.Ytocjjkjjojdpdaa
open Go.RowKit

def badAct (a : actT) : Prop := a.1 = true ∧ (a.2.1 ≠ 0 ∨ a.2.2.toList.isEmpty = false)
open Classical in
noncomputable def actsOf (F : FM) (l : List actT) : OM :=
  if 400 < l.length then illOf 2 else if Right F then (if ∃ a ∈ l, badAct a then illOf 1 else doOf F l) else illOf 1
def OkRel (l : List actT) (i : Value) : Prop := ∃ k : Nat, k ≤ l.length ∧ i = .int .i64 k ∧ ∀ j (h : j < l.length), j < k → ¬ badAct l[j]

set_option maxHeartbeats 4000000 in
set_option maxRecDepth 100000 in
theorem specActsDo (sv dv : Value) (F : FM) (vl : Value) (l : List actT) (w : World) (h : FRd w sv dv F) (hz : Sized F) (hl : Rd w vl l.length 3 (actCs l)) (hn : l.length ≤ 1048576) (hx : ∀ a ∈ l, a.2.2.size ≤ 1048576) :
    Calls Try.prog 9 #[.agg #[sv, dv], vl] w (OMade w (actsOf F l)) := by
  obtain ⟨a, c, rfl, -⟩ := id h.1.2
  obtain ⟨a', c', rfl, -⟩ := id h.2.2
  obtain ⟨al, cl, rfl, -⟩ := id hl.2
  have HZ := Lib.hid hz
  have HR := Lib.hid h
  have HV := Lib.hid hl
  have HX := Lib.hid hx
  obtain ⟨O, hO⟩ : ∃ O, O = actsOf F l := ⟨_, rfl⟩
  rw [← hO]
  unfold actsOf at hO
  have H0 := Lib.hid hO
  clear h hz hl hx hO
  have hb2 : Below w.heap.size w ((w.alloc (.cells #[.slice a F.sec.length c, .slice a' F.dir.length c'] 33)).alloc (.cells #[.slice none 0 0, .slice none 0 0, .string { data := #[] }, .int .i64 0] 35)) := ((Below.refl _ w).alloc (Nat.le_refl _) _).alloc (by simp) _
  have kz : ((w.alloc (.cells #[.slice a F.sec.length c, .slice a' F.dir.length c'] 33)).alloc (.cells #[.slice none 0 0, .slice none 0 0, .string { data := #[] }, .int .i64 0] 35)).heap.size = w.heap.size + 2 := by simp
  have hbo := boxOut_new w (.slice a F.sec.length c) (.slice a' F.dir.length c') (.slice none 0 0) (.slice none 0 0) (.string { data := #[] }) (.int .i64 0) 33 35
  have HB0 := Lib.hid hb2
  have HBO0 := Lib.hid hbo
  clear hb2 hbo
  by_cases hbig : 400 < l.length
  · have hO : O = illOf 2 := by rw [H0.out, if_pos hbig]
    clear H0
    subst hO
    have d0 : decide ((400 : Int) < (l.length : Int)) = true := decide_eq_true (by omega)
    go_enter Try.func9, Try.ntmps9
    go_wp2_with fail
    generalize (w.alloc (.cells #[.slice a F.sec.length c, .slice a' F.dir.length c'] 33)).alloc (.cells #[.slice none 0 0, .slice none 0 0, .string { data := #[] }, .int .i64 0] 35) = W at *
    have hzW : w.heap.size + 2 ≤ W.heap.size := by omega
    refine (specIll 2 W).mono ?_
    rintro e wz ⟨sz, dz, rfl, hoz, hbz⟩
    obtain ⟨az1, nz1, rfl, -⟩ := id hoz.1.2
    obtain ⟨az2, nz2, rfl, -⟩ := id hoz.2.1.2
    obtain ⟨-, -, q0, q1, q2, q3, f0, f1, f2, f3⟩ := HBO0.out.next hzW hbz
    obtain ⟨x0, hx0⟩ := Option.isSome_iff_exists.1 q0
    obtain ⟨x1, hx1⟩ := Option.isSome_iff_exists.1 q1
    obtain ⟨x2, hx2⟩ := Option.isSome_iff_exists.1 q2
    obtain ⟨x3, hx3⟩ := Option.isSome_iff_exists.1 q3
    clear q0 q1 q2 q3
    have HO := Lib.hid (hoz.lower hzW)
    have HB := Lib.hid (HB0.out.trans (hbz.mono (by omega)))
    clear HBO0 HB0 hbz hoz
    go_wp2_with fail
    refine bodyPost_ret (v := .agg #[.slice az1 (illOf 2).fl.sec.length nz1, .slice az2 (illOf 2).fl.dir.length nz2, .string (illOf 2).data, .int .i64 (illOf 2).code]) (by simp [results, Try.results9, go_sem, hx0, hx1, hx2, hx3]) rfl ⟨_, _, rfl, ?_, ?_⟩
    · exact ((((HO.out.other _ _ (by simp)).other _ _ (by simp)).other _ _ (by simp)).other _ _ (by simp)).lower (by omega)
    · exact (((HB.out.setCell (p := ⟨w.heap.size + 1, 0, none⟩) (by simp) _).setCell (p := ⟨w.heap.size + 1, 1, none⟩) (by simp) _).setCell (p := ⟨w.heap.size + 1, 2, none⟩) (by simp) _).setCell (p := ⟨w.heap.size + 1, 3, none⟩) (by simp) _
  have d0 : decide ((400 : Int) < (l.length : Int)) = false := decide_eq_false (by omega)
  have H1 := Lib.hid (H0.out.trans (if_neg hbig))
  clear H0
  go_enter Try.func9, Try.ntmps9
  go_wp2_with fail
  generalize (w.alloc (.cells #[.slice a F.sec.length c, .slice a' F.dir.length c'] 33)).alloc (.cells #[.slice none 0 0, .slice none 0 0, .string { data := #[] }, .int .i64 0] 35) = W at *
  refine (specRight _ _ F W (HR.out.below HB0.out (Nat.le_refl _)) HZ.out.1 HZ.out.2.1 HZ.out.2.2).mono ?_
  rintro e w1 ⟨b, rfl, hiff, hb1⟩
  have hbo1 := HBO0.out.next (by omega) hb1
  have hbw : Below w.heap.size w w1 := HB0.out.trans (hb1.mono (by omega))
  have hz1 : w.heap.size + 2 ≤ w1.heap.size := by have := hb1.size; omega
  clear HB0 HBO0 kz hb1
  clear W
  cases b with
  | false =>
    have hnr : ¬ Right F := fun r => by simpa using hiff.2 r
    have hO : O = illOf 1 := by rw [H1.out, if_neg hnr]
    clear H1 hiff hnr
    subst hO
    have HBO := Lib.hid hbo1
    have HBW := Lib.hid hbw
    clear hbo1 hbw
    go_wp2_with fail
    refine (specIll 1 w1).mono ?_
    rintro e wz ⟨sz, dz, rfl, hoz, hbz⟩
    obtain ⟨az1, nz1, rfl, -⟩ := id hoz.1.2
    obtain ⟨az2, nz2, rfl, -⟩ := id hoz.2.1.2
    obtain ⟨-, -, q0, q1, q2, q3, f0, f1, f2, f3⟩ := HBO.out.next hz1 hbz
    obtain ⟨x0, hx0⟩ := Option.isSome_iff_exists.1 q0
    obtain ⟨x1, hx1⟩ := Option.isSome_iff_exists.1 q1
    obtain ⟨x2, hx2⟩ := Option.isSome_iff_exists.1 q2
    obtain ⟨x3, hx3⟩ := Option.isSome_iff_exists.1 q3
    clear q0 q1 q2 q3
    have HO := Lib.hid (hoz.lower hz1)
    have HB := Lib.hid (HBW.out.trans (hbz.mono (by omega)))
    clear HBO HBW hbz hoz
    go_wp2_with fail
    refine bodyPost_ret (v := .agg #[.slice az1 (illOf 1).fl.sec.length nz1, .slice az2 (illOf 1).fl.dir.length nz2, .string (illOf 1).data, .int .i64 (illOf 1).code]) (by simp [results, Try.results9, go_sem, hx0, hx1, hx2, hx3]) rfl ⟨_, _, rfl, ?_, ?_⟩
    · exact ((((HO.out.other _ _ (by simp)).other _ _ (by simp)).other _ _ (by simp)).other _ _ (by simp)).lower (by omega)
    · exact (((HB.out.setCell (p := ⟨w.heap.size + 1, 0, none⟩) (by simp) _).setCell (p := ⟨w.heap.size + 1, 1, none⟩) (by simp) _).setCell (p := ⟨w.heap.size + 1, 2, none⟩) (by simp) _).setCell (p := ⟨w.heap.size + 1, 3, none⟩) (by simp) _
  | true =>
    have hr : Right F := hiff.1 rfl
    have H2 := Lib.hid (H1.out.trans (if_pos hr))
    clear H1 hiff hr
    obtain ⟨b0, b1, -⟩ := id hbo1
    have HBO := Lib.hid hbo1
    have HBW := Lib.hid hbw
    clear hbo1 hbw
    go_wp2_with fail
    go_loop [5] (fun i => OkRel l i) (fun i => l.length - (intOf i).toNat)
    case atStart => exact ⟨0, by omega, rfl, fun j _ hj => absurd hj (by omega)⟩
    case round =>
      obtain ⟨k, hk, rfl, hseen⟩ := hrel
      have SEEN := Lib.hid hseen
      clear hseen
      by_cases hlt : k < l.length
      · obtain ⟨b, off, rfl, hbl, hcell⟩ := HV.out.get (by omega)
        have r0 : w1.cell? ⟨b, off + k * 3, none⟩ = some (.bool l[k].1) := by rw [HBW.out.cell (p := ⟨b, off + k * 3, none⟩) hbl, hcell (k * 3) (by omega), actCs_0 l k hlt]
        have r1 : w1.cell? ⟨b, off + k * 3 + 1, none⟩ = some (.int .i64 l[k].2.1) := by rw [HBW.out.cell (p := ⟨b, off + k * 3 + 1, none⟩) hbl, Nat.add_assoc, hcell (k * 3 + 1) (by omega), actCs_1 l k hlt]
        have r2 : w1.cell? ⟨b, off + k * 3 + 2, none⟩ = some (.string l[k].2.2) := by rw [HBW.out.cell (p := ⟨b, off + k * 3 + 2, none⟩) hbl, Nat.add_assoc, hcell (k * 3 + 2) (by omega), actCs_2 l k hlt]
        have e0 : (k : Int) < (l.length : Int) := by omega
        have e1 : (0 : Int) ≤ (k : Int) := by omega
        clear hcell
        by_cases hbad : badAct l[k]
        · have hO : O = illOf 1 := by rw [H2.out, if_pos ⟨_, List.getElem_mem hlt, hbad⟩]
          subst hO
          clear H2
          obtain ⟨h1, h2⟩ := hbad
          rw [h1] at r0
          by_cases hat : l[k].2.1 = 0
          · have hda : l[k].2.2.toList.isEmpty = false := by rcases h2 with h | h; exact absurd hat h; exact h
            have d1 : (l[k].2.1 != 0) = false := by simp [hat]
            have d2 : (!l[k].2.2.toList.isEmpty) = true := by simp [hda]
            clear h2 h1 hat
            go_wp2_with fail
            refine (specIll 1 _).mono ?_
            rintro e wz ⟨sz, dz, rfl, hoz, hbz⟩
            obtain ⟨az1, nz1, rfl, -⟩ := id hoz.1.2
            obtain ⟨az2, nz2, rfl, -⟩ := id hoz.2.1.2
            obtain ⟨-, -, q0, q1, q2, q3, f0, f1, f2, f3⟩ := HBO.out.next hz1 hbz
            obtain ⟨x0, hx0⟩ := Option.isSome_iff_exists.1 q0
            obtain ⟨x1, hx1⟩ := Option.isSome_iff_exists.1 q1
            obtain ⟨x2, hx2⟩ := Option.isSome_iff_exists.1 q2
            obtain ⟨x3, hx3⟩ := Option.isSome_iff_exists.1 q3
            clear q0 q1 q2 q3
            have HO := Lib.hid (hoz.lower hz1)
            have HB := Lib.hid (HBW.out.trans (hbz.mono (by omega)))
            clear HBO HBW hbz hoz
            go_wp2_with fail
            refine bodyPost_ret (v := .agg #[.slice az1 (illOf 1).fl.sec.length nz1, .slice az2 (illOf 1).fl.dir.length nz2, .string (illOf 1).data, .int .i64 (illOf 1).code]) (by simp [results, Try.results9, go_sem, hx0, hx1, hx2, hx3]) rfl ⟨_, _, rfl, ?_, ?_⟩
            · exact ((((HO.out.other _ _ (by simp)).other _ _ (by simp)).other _ _ (by simp)).other _ _ (by simp)).lower (by omega)
            · exact (((HB.out.setCell (p := ⟨w.heap.size + 1, 0, none⟩) (by simp) _).setCell (p := ⟨w.heap.size + 1, 1, none⟩) (by simp) _).setCell (p := ⟨w.heap.size + 1, 2, none⟩) (by simp) _).setCell (p := ⟨w.heap.size + 1, 3, none⟩) (by simp) _
          · have d1 : (l[k].2.1 != 0) = true := by simpa using hat
            clear h2 h1 hat
            go_wp2_with fail
            refine (specIll 1 _).mono ?_
            rintro e wz ⟨sz, dz, rfl, hoz, hbz⟩
            obtain ⟨az1, nz1, rfl, -⟩ := id hoz.1.2
            obtain ⟨az2, nz2, rfl, -⟩ := id hoz.2.1.2
            obtain ⟨-, -, q0, q1, q2, q3, f0, f1, f2, f3⟩ := HBO.out.next hz1 hbz
            obtain ⟨x0, hx0⟩ := Option.isSome_iff_exists.1 q0
            obtain ⟨x1, hx1⟩ := Option.isSome_iff_exists.1 q1
            obtain ⟨x2, hx2⟩ := Option.isSome_iff_exists.1 q2
            obtain ⟨x3, hx3⟩ := Option.isSome_iff_exists.1 q3
            clear q0 q1 q2 q3
            have HO := Lib.hid (hoz.lower hz1)
            have HB := Lib.hid (HBW.out.trans (hbz.mono (by omega)))
            clear HBO HBW hbz hoz
            go_wp2_with fail
            refine bodyPost_ret (v := .agg #[.slice az1 (illOf 1).fl.sec.length nz1, .slice az2 (illOf 1).fl.dir.length nz2, .string (illOf 1).data, .int .i64 (illOf 1).code]) (by simp [results, Try.results9, go_sem, hx0, hx1, hx2, hx3]) rfl ⟨_, _, rfl, ?_, ?_⟩
            · exact ((((HO.out.other _ _ (by simp)).other _ _ (by simp)).other _ _ (by simp)).other _ _ (by simp)).lower (by omega)
            · exact (((HB.out.setCell (p := ⟨w.heap.size + 1, 0, none⟩) (by simp) _).setCell (p := ⟨w.heap.size + 1, 1, none⟩) (by simp) _).setCell (p := ⟨w.heap.size + 1, 2, none⟩) (by simp) _).setCell (p := ⟨w.heap.size + 1, 3, none⟩) (by simp) _
        · have hgo : OkRel l (.int .i64 ((k : Int) + 1)) := by
            refine ⟨k + 1, by omega, by go_num, fun j h hj => ?_⟩
            by_cases hjk : j = k
            · subst hjk; exact hbad
            · exact SEEN.out j h (by omega)
          have HGO := Lib.hid hgo
          clear hgo
          by_cases h1 : l[k].1 = true
          · have hat : l[k].2.1 = 0 := Classical.byContradiction fun h => hbad ⟨h1, .inl h⟩
            have hda : l[k].2.2.toList.isEmpty = true := by
              cases he : l[k].2.2.toList.isEmpty
              · exact absurd ⟨h1, .inr he⟩ hbad
              · rfl
            have d2 : (!l[k].2.2.toList.isEmpty) = false := by simp [hda]
            rw [h1] at r0
            rw [hat] at r1
            clear hbad h1 hat
            go_wp2_with fail
            go_round
            case rel => exact HGO.out
            case measure => simp [intOf]; omega
          · have h1' : l[k].1 = false := by simpa using h1
            rw [h1'] at r0
            clear hbad h1 h1'
            go_wp2_with fail
            go_round
            case rel => exact HGO.out
            case measure => simp [intOf]; omega
      · obtain rfl : k = l.length := by omega
        have hO : O = doOf F l := by
          rw [H2.out, if_neg]
          rintro ⟨x, hx, hb⟩
          obtain ⟨j, hj, rfl⟩ := List.mem_iff_getElem.1 hx
          exact SEEN.out j hj hj hb
        have HO := Lib.hid hO
        clear hO H2
        have d1 : decide ((l.length : Int) < (l.length : Int)) = false := decide_eq_false (by omega)
        go_wp2_with fail
        have hs := specDo _ _ F _ l w1 (HR.out.below HBW.out (Nat.le_refl _)) HZ.out (HV.out.below HBW.out (Nat.le_refl _)) hn HX.out
        rw [← HO.out] at hs
        refine hs.mono ?_
        clear hs
        rintro e wz ⟨sz, dz, rfl, hoz, hbz⟩
        obtain ⟨az1, nz1, rfl, -⟩ := id hoz.1.2
        obtain ⟨az2, nz2, rfl, -⟩ := id hoz.2.1.2
        obtain ⟨-, -, q0, q1, q2, q3, f0, f1, f2, f3⟩ := HBO.out.next hz1 hbz
        obtain ⟨x0, hx0⟩ := Option.isSome_iff_exists.1 q0
        obtain ⟨x1, hx1⟩ := Option.isSome_iff_exists.1 q1
        obtain ⟨x2, hx2⟩ := Option.isSome_iff_exists.1 q2
        obtain ⟨x3, hx3⟩ := Option.isSome_iff_exists.1 q3
        clear q0 q1 q2 q3
        have HO9 := Lib.hid (hoz.lower hz1)
        have HB := Lib.hid (HBW.out.trans (hbz.mono (by omega)))
        clear HBO HBW hbz hoz
        go_wp2_with fail
        refine bodyPost_ret (v := .agg #[.slice az1 O.fl.sec.length nz1, .slice az2 O.fl.dir.length nz2, .string O.data, .int .i64 O.code]) (by simp [results, Try.results9, go_sem, hx0, hx1, hx2, hx3]) rfl ⟨_, _, rfl, ?_, ?_⟩
        · exact ((((HO9.out.other _ _ (by simp)).other _ _ (by simp)).other _ _ (by simp)).other _ _ (by simp)).lower (by omega)
        · exact (((HB.out.setCell (p := ⟨w.heap.size + 1, 0, none⟩) (by simp) _).setCell (p := ⟨w.heap.size + 1, 1, none⟩) (by simp) _).setCell (p := ⟨w.heap.size + 1, 2, none⟩) (by simp) _).setCell (p := ⟨w.heap.size + 1, 3, none⟩) (by simp) _
end Go.Proofs.Ytocjjkjjojdpdaa
