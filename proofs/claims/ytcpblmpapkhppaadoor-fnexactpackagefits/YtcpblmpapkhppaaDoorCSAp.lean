/- The specification's ImageApply. -/
import Derived.Test.YtcpblmpapkhppaaDoorCSMk
import Derived.Test.YtcpblmpapkhppaaDoorM1
import Derived.Test.YtcpblmpapkhppaaDoorSSync
namespace Go.Proofs.YtcpblmpapkhppaaDoor
open Go.RowKit

/-- What ImageApply answers. -/
noncomputable def applyR (image : List ByteArray) (l : List stpT) : List ByteArray × Int :=
  if 400 < image.length ∨ 400 < l.length then ([], 2) else if imgB image = false then ([], 1) else if codeS l (image.length : Int) ≠ 0 then ([], codeS l (image.length : Int)) else (applyL image l, 0)
theorem applyR_size {image : List ByteArray} {l : List stpT} (h : 400 < image.length ∨ 400 < l.length) : applyR image l = ([], 2) := by unfold applyR; rw [if_pos h]
theorem applyR_form {image : List ByteArray} {l : List stpT} (h : ¬ (400 < image.length ∨ 400 < l.length)) (h2 : imgB image = false) : applyR image l = ([], 1) := by unfold applyR; rw [if_neg h, if_pos h2]
theorem applyR_code {image : List ByteArray} {l : List stpT} (h : ¬ (400 < image.length ∨ 400 < l.length)) (h2 : imgB image = true) (h3 : codeS l (image.length : Int) ≠ 0) : applyR image l = ([], codeS l (image.length : Int)) := by unfold applyR; rw [if_neg h, if_neg (by simp [h2]), if_pos h3]
theorem applyR_ok {image : List ByteArray} {l : List stpT} (h : ¬ (400 < image.length ∨ 400 < l.length)) (h2 : imgB image = true) (h3 : codeS l (image.length : Int) = 0) : applyR image l = (applyL image l, 0) := by unfold applyR; rw [if_neg h, if_neg (by simp [h2]), if_neg (by simp [h3])]
theorem applyR_len (image : List ByteArray) (l : List stpT) : (applyR image l).1.length ≤ 8 := by
  unfold applyR
  split
  · simp
  split
  · simp
  split
  · simp
  · rename_i h2 _
    have := (imgB_iff image).1 (by simpa using h2)
    rw [show (applyL image l, (0 : Int)).1 = applyL image l from rfl, applyL_length]; exact this.1.2
theorem code_ok {l : List stpT} {n : Int} (h : codeS l n = 0) : (1 ≤ n ∧ n ≤ 8) ∧ l.length ≤ 20 ∧ ∀ s ∈ l, stepB n s.1 s.2.1 s.2.2.1 s.2.2.2 = true := by
  have hf : ¬ FormBad l n := fun hf => by rw [codeS_form hf] at h; cases h
  refine ⟨Classical.byContradiction fun h' => hf (.inl h'), Classical.byContradiction fun h' => hf (.inr (.inl (by omega))), fun s hs => ?_⟩
  cases hb : stepB n s.1 s.2.1 s.2.2.1 s.2.2.2 with
  | true => rfl
  | false => exact absurd (.inr (.inr ⟨s, hs, by unfold wrongS; rw [hb]; rfl⟩)) hf
theorem applyT_no {image : List ByteArray} {l : List stpT} {k : Nat} (h : k < l.length) (h5 : l[k].1 = 5) : applyL image (l.take (k + 1)) = applyL image (l.take k) := by
  rw [List.take_succ_eq_append_getElem h, applyL_snoc]
  unfold put1; rw [if_pos h5]
theorem applyT_yes {image : List ByteArray} {l : List stpT} {k : Nat} (h : k < l.length) (h5 : l[k].1 ≠ 5) : applyL image (l.take (k + 1)) = (applyL image (l.take k)).set l[k].2.1.toNat (makeS l[k] (image.getD l[k].2.2.1.toNat ⟨#[]⟩)) := by
  rw [List.take_succ_eq_append_getElem h, applyL_snoc]
  unfold put1; rw [if_neg h5]
/-- An answer with a slice of strings that is the call's own. -/
def OwnZ (w : World) (o : List ByteArray × Int) (e : Ending) (w' : World) : Prop := ∃ v, e = .returned (.agg #[v, .int .i64 o.2]) ∧ Own w' w.heap.size v o.1.length 1 (strs o.1) ∧ Below w.heap.size w w'
def ApRel (image : List ByteArray) (l : List stpT) (w : World) (ov : Value) (i : Value) (wr : World) : Prop :=
  ∃ k : Nat, k ≤ l.length ∧ i = .int .i64 k ∧ Own wr w.heap.size ov image.length 1 (strs (applyL image (l.take k))) ∧ Below w.heap.size w wr

set_option maxRecDepth 100000 in
set_option maxHeartbeats 2000000 in
theorem specApply (v u : Value) (image : List ByteArray) (l : List stpT) (w : World) (h : Rd w v image.length 1 (strs image)) (hl : Rd w u l.length 4 (stpCs l)) (hi : ImgOk image) (hc : codeS l (image.length : Int) = 0) :
    Calls Tryd.prog 73 #[v, u] w (MadeRow w image.length 1 (strs (applyL image l))) := by
  obtain ⟨i0, hi0, hz0, hz1, hz2⟩ := info_parts Tryd.info9
  obtain ⟨⟨n0, n1⟩, hsz⟩ := hi
  obtain ⟨-, hl20, hok⟩ := code_ok hc
  obtain ⟨a, c, rfl, -⟩ := id h.2
  obtain ⟨a', c', rfl, -⟩ := id hl.2
  have HR := Lib.hid h
  have HL := Lib.hid hl
  have HS := Lib.hid hsz
  have HO := Lib.hid hok
  clear h hl hsz hok hc
  go_enter Tryd.func73, Tryd.ntmps73
  go_wp2_with ((with_reducible show wpList _ _ _ (⟨some 9, _, _, _, _, _⟩ :: _) _ _); refine wpList_append_copy _ rfl (.tmp 7) (.tmp 8) 22 rfl 9 i0 _ 1 16 Tryd.underlying22 hi0 hz0 hz1 hz2 rfl (by decide) _ rfl (.slice a image.length c) rfl image.length (strs image) (HR.out.below (B := w.heap.size) ?_ (Nat.le_refl _)) (by unfold maxLen; omega) (by omega) ?_)
  · exact below_alloc1 w _
  intro ad cap w1 ho hb1
  have HB1 := Lib.hid (show Below w.heap.size w w1 from (below_alloc1 w _).trans (hb1.mono (by first | omega | (simp; omega))))
  have HO1 := Lib.hid (show Own w1 w.heap.size (.slice ad image.length cap) image.length 1 (strs (applyL image (l.take 0))) from ho.lower (by simp))
  clear ho hb1 hi0 hz0 hz1 hz2
  go_wp2_with fail
  go_loopw [6] (fun i wr => ApRel image l w (.slice ad image.length cap) i wr) (fun i _ => l.length - (intOf i).toNat)
  case atStart => exact ⟨0, by omega, rfl, HO1.out, HB1.out⟩
  case round =>
    clear HB1 HO1
    obtain ⟨k, hk, rfl, hown, hb⟩ := hrel
    have HOWN := Lib.hid hown
    have HB := Lib.hid hb
    have hwsz := hb.size
    clear hown
    by_cases hlt : k < l.length
    · obtain ⟨b, off, rfl, hbl, hcell⟩ := HL.out.get (by omega)
      have r0 : wr.cell? ⟨b, off + k * 4, none⟩ = some (.int .i64 l[k].1) := by rw [hb.cell (p := ⟨b, off + k * 4, none⟩) hbl, hcell (k * 4) (by omega), stpCs_0 l k hlt]
      have r1 : wr.cell? ⟨b, off + k * 4 + 1, none⟩ = some (.int .i64 l[k].2.1) := by rw [hb.cell (p := ⟨b, off + k * 4 + 1, none⟩) hbl, Nat.add_assoc, hcell (k * 4 + 1) (by omega), stpCs_1 l k hlt]
      have r2 : wr.cell? ⟨b, off + k * 4 + 2, none⟩ = some (.int .i64 l[k].2.2.1) := by rw [hb.cell (p := ⟨b, off + k * 4 + 2, none⟩) hbl, Nat.add_assoc, hcell (k * 4 + 2) (by omega), stpCs_2 l k hlt]
      have r3 : wr.cell? ⟨b, off + k * 4 + 3, none⟩ = some (.string l[k].2.2.2) := by rw [hb.cell (p := ⟨b, off + k * 4 + 3, none⟩) hbl, Nat.add_assoc, hcell (k * 4 + 3) (by omega), stpCs_3 l k hlt]
      have e0 : (k : Int) < (l.length : Int) := by omega
      have e1 : (0 : Int) ≤ (k : Int) := by omega
      clear hcell
      by_cases h5 : l[k].1 = 5
      · have HX := Lib.hid (applyT_no (image := image) hlt h5)
        rw [h5] at r0
        clear h5 hb
        go_wp2_with fail
        go_roundw
        case rel => exact ⟨k + 1, by omega, by go_num, by rw [HX.out]; exact HOWN.out, HB.out⟩
        case measure => simp [intOf]; omega
      · have HX := Lib.hid (applyT_yes (image := image) hlt h5)
        have d5 : (l[k].1 != 5) = true := by simpa using h5
        have hst := HO.out _ (List.getElem_mem hlt)
        obtain ⟨f0, f1, t0, t1, hd8, -⟩ := ok_from hst h5
        clear h5 hst
        obtain ⟨x, hx⟩ : ∃ x, x = l[k] := ⟨_, rfl⟩
        rw [← hx] at r0 r1 r2 r3 d5 f0 f1 t0 t1 hd8 HX
        clear hx
        obtain ⟨x1, x2, x3, x4⟩ := x
        simp only at r0 r1 r2 r3 d5 f0 f1 t0 t1 hd8 HX
        obtain ⟨m, rfl⟩ : ∃ m : Nat, x3 = m := ⟨x3.toNat, by omega⟩
        obtain ⟨q, rfl⟩ : ∃ q : Nat, x2 = q := ⟨x2.toNat, by omega⟩
        have hm : m < image.length := by omega
        have hq : q < image.length := by omega
        have hg : image.getD ((m : Int)).toNat ⟨#[]⟩ = image[m] := by rw [Int.toNat_natCast, List.getD_eq_getElem?_getD, List.getElem?_eq_getElem hm]; rfl
        rw [hg, Int.toNat_natCast] at HX
        have hsm := HS.out _ (List.getElem_mem hm)
        obtain ⟨b2, off2, rfl, hbl2, hcell2⟩ := HR.out.get (by omega)
        have r4 : wr.cell? ⟨b2, off2 + m, none⟩ = some (.string image[m]) := by rw [hb.cell (p := ⟨b2, off2 + m, none⟩) hbl2, hcell2 m (by omega), strs_at image m hm]
        obtain ⟨b3, off3, hp3, hlo3, hbl3, hcell3, hfr3⟩ := HOWN.out.get (by omega)
        subst hp3
        have hlen3 : (strs (applyL image (l.take k))).length = image.length := by rw [strs_length, applyL_length]
        obtain ⟨vq, hvq⟩ : ∃ vq, wr.cell? ⟨b3, off3 + q, none⟩ = some vq := ⟨_, by rw [hcell3 q (by omega), List.getElem?_eq_getElem (by omega)]⟩
        have hfq := hfr3 q (by omega)
        have s0 : image[m].size ≤ maxLen := by rw [hsm]; decide
        have s1 : x4.size ≤ maxLen := by unfold maxLen; omega
        generalize image[m] = src at *
        obtain ⟨Z, hZ⟩ : ∃ Z, Z = makeS (x1, (q : Int), (m : Int), x4) src := ⟨_, rfl⟩
        rw [← hZ] at HX
        have HZ := Lib.hid hZ
        have HVQ := Lib.hid hvq
        clear hcell2 hcell3 hfr3 hg hZ hlen3 hb hsm hvq
        have kp : ∀ w', Below w.heap.size wr w' → (w'.cell? ⟨b3, off3 + q, none⟩).isSome = true → w'.frozen? ⟨b3, off3 + q, none⟩ = false → w'.cell? ⟨b, off + k * 4, none⟩ = some (.int .i64 x1) ∧ w'.cell? ⟨b, off + k * 4 + 1, none⟩ = some (.int .i64 (q : Int)) ∧ w'.cell? ⟨b, off + k * 4 + 2, none⟩ = some (.int .i64 (m : Int)) ∧ w'.cell? ⟨b, off + k * 4 + 3, none⟩ = some (.string x4) ∧ w'.cell? ⟨b2, off2 + m, none⟩ = some (.string src) ∧ (w'.cell? ⟨b3, off3 + q, none⟩).isSome = true ∧ w'.frozen? ⟨b3, off3 + q, none⟩ = false ∧ Below w.heap.size wr w' := fun w' hb' hs' hf' =>
          ⟨(hb'.cell (p := ⟨b, off + k * 4, none⟩) hbl).trans r0, (hb'.cell (p := ⟨b, off + k * 4 + 1, none⟩) hbl).trans r1, (hb'.cell (p := ⟨b, off + k * 4 + 2, none⟩) hbl).trans r2, (hb'.cell (p := ⟨b, off + k * 4 + 3, none⟩) hbl).trans r3, (hb'.cell (p := ⟨b2, off2 + m, none⟩) hbl2).trans r4, hs', hf', hb'⟩
        have K1 := Lib.hid (kp wr.drew (Below.refl _ wr).drew (by show (wr.cell? _).isSome = true; rw [HVQ.out]; rfl) hfq)
        have K2 := Lib.hid (fun w2 (hb2 : Below wr.drew.heap.size wr.drew w2) => kp w2 (Below.trans (Below.refl _ wr).drew (hb2.mono hwsz)) (by rw [hb2.cell (p := ⟨b3, off3 + q, none⟩) hbl3, show wr.drew.cell? ⟨b3, off3 + q, none⟩ = some vq from HVQ.out]; rfl) ((hb2.frozen (p := ⟨b3, off3 + q, none⟩) hbl3).trans hfq))
        have K3 := Lib.hid (fun w2 (hb2 : Below wr.drew.heap.size wr.drew w2) => kp (w2.setCell ⟨b3, off3 + q, none⟩ (.string Z)) ((K2.out w2 hb2).2.2.2.2.2.2.2.setCell (p := ⟨b3, off3 + q, none⟩) hlo3 _) (by rw [World.cell?_setCell_same' w2 _ _ (K2.out w2 hb2).2.2.2.2.2.1]; rfl) (by rw [World.frozen?_setCell]; exact (K2.out w2 hb2).2.2.2.2.2.2.1))
        clear kp
        clear hfq
        have HZC := Lib.hid (show ∀ w', Calls Tryd.prog 124 #[.agg #[.int .i64 x1, .int .i64 (q : Int), .int .i64 (m : Int), .string x4], .string src] w' fun e w'' => e = .returned (.string Z) ∧ Below w'.heap.size w' w'' from fun w' => by rw [HZ.out]; exact specMake x1 q m x4 src w' s1 s0)
        go_wp2_with fail
        go_region_held3 (fun w' => w'.cell? ⟨b, off + k * 4, none⟩ = some (.int .i64 x1) ∧ w'.cell? ⟨b, off + k * 4 + 1, none⟩ = some (.int .i64 (q : Int)) ∧ w'.cell? ⟨b, off + k * 4 + 2, none⟩ = some (.int .i64 (m : Int)) ∧ w'.cell? ⟨b, off + k * 4 + 3, none⟩ = some (.string x4) ∧ w'.cell? ⟨b2, off2 + m, none⟩ = some (.string src) ∧ (w'.cell? ⟨b3, off3 + q, none⟩).isSome = true ∧ w'.frozen? ⟨b3, off3 + q, none⟩ = false ∧ Below w.heap.size wr w')
          (first | (with_reducible exact K1.out) | (with_reducible exact K2.out _ hb2) | (with_reducible exact K3.out _ hb2))
          ((go_at_call 124; go_split_ands; refine (HZC.out _).mono ?_; rintro e w2 ⟨rfl, hb2⟩; obtain ⟨vz, hvz⟩ := Option.isSome_iff_exists.1 (K2.out _ hb2).2.2.2.2.2.1; have hvf := (K2.out _ hb2).2.2.2.2.2.2.1))
        all_goals (
          have hb3 : Below wr.heap.size wr w2 := below_more (Below.refl wr.heap.size wr).drew hb2
          have HB2 := Lib.hid (HB.out.trans (hb3.mono hwsz))
          have HO2 := Lib.hid ((HOWN.out.below hb3 (Nat.le_refl _)).set q (.string Z) (by omega) ⟨vz, hvz⟩)
          clear hb2 hb3 hvz hvf
          go_wp2_with fail
          go_roundw
          case rel =>
            refine ⟨k + 1, by omega, by go_num, ?_, HB2.out.setCell (p := ⟨b3, off3 + q, none⟩) hlo3 _⟩
            rw [HX.out, strs_set]
            exact HO2.out
          case measure => simp [intOf]; omega)
    · obtain rfl : k = l.length := by omega
      clear hb
      rw [List.take_length] at HOWN
      go_wp2_with fail
      go_ret
      exact ⟨_, rfl, HOWN.out, HB.out⟩
end Go.Proofs.YtcpblmpapkhppaaDoor
