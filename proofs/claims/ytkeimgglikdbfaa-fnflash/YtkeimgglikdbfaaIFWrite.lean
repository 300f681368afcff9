/- The program's FlashWrite. -/
import Derived.Test.YtkeimgglikdbfaaSWrite
import Derived.Test.YtkeimgglikdbfaaIFRead
namespace Go.Proofs.Ytkeimgglikdbfaa
open Go.RowKit

theorem put_keys_miss {F : FM} {x : Int} (h : mapOf F.dir x = none) (hr : Right F) : ∀ j (hj : j < F.dir.length), F.dir[j].1 ≠ x := fun j hj e => by
  have := mapOf_hit F.dir hr.once j hj
  rw [e, h] at this; cases this
theorem put_list_miss {F : FM} {x : Int} {s : ByteArray} (h : mapOf F.dir x = none) (hr : Right F) : listOf (upd (mapOf F.dir) x s) (F.dir.map (·.1) ++ [x]) = putD F.dir x s := by
  rw [put_miss x s F.dir (put_keys_miss h hr), ← mapOf_snoc F.dir (x, s)]
  have := listOf_self (F.dir ++ [(x, s)]) (fun i j hj hi => ?_)
  · rwa [List.map_append] at this
  · rw [List.length_append] at hj
    simp at hj
    have hi' : i < F.dir.length := by omega
    rw [List.getElem_append_left hi']
    by_cases hj' : j < F.dir.length
    · rw [List.getElem_append_left hj']; exact hr.once i j hj' hi
    · rw [List.getElem_append_right (by omega)]; simp; exact put_keys_miss h hr i hi'
theorem put_list_hit {F : FM} {x : Int} {s s0 : ByteArray} (h : mapOf F.dir x = some s0) (hr : Right F) : listOf (upd (mapOf F.dir) x s) (F.dir.map (·.1)) = putD F.dir x s := by
  have he : ∃ k, ∃ (hk : k < F.dir.length), F.dir[k].1 = x := by
    apply Classical.byContradiction
    intro hne
    rw [mapOf_miss F.dir x (fun d hd e => by obtain ⟨k, hk, rfl⟩ := List.mem_iff_getElem.1 hd; exact hne ⟨k, hk, e⟩)] at h
    cases h
  obtain ⟨k, hk, rfl⟩ := he
  rw [put_hit _ s F.dir k hk (fun j _ hjk => hr.once j k hk hjk) rfl]
  unfold listOf
  rw [List.map_map]
  apply List.ext_getElem
  · simp
  · intro j h1 h2
    rw [List.length_map] at h1
    rw [List.getElem_map, List.getElem_set]
    show (F.dir[j].1, (upd (mapOf F.dir) F.dir[k].1 s F.dir[j].1).getD ByteArray.empty) = _
    unfold upd
    by_cases e : k = j
    · subst e; simp
    · rw [if_neg e, if_neg, mapOf_hit F.dir hr.once j h1]
      · rfl
      · intro e'
        rcases Nat.lt_or_gt_of_ne e with e2 | e2
        · exact hr.once k j h1 e2 e'.symm
        · exact hr.once j k hk e2 e'
theorem write_fits {F : FM} {x : Int} {s : ByteArray} (h : FFits F) : FFits (writeOf F x s).fl := by
  unfold writeOf
  split
  · exact noFits
  · split
    · rename_i h1
      split
      · refine ⟨h.1, ?_⟩
        show (putD F.dir x s).length ≤ _
        have : ∀ l : List D, (putD l x s).length ≤ l.length + 1 := by
          intro l
          induction l with
          | nil => simp [putD]
          | cons d l ih => unfold putD; split <;> simp; omega
        have := this F.dir
        have := h1.1.dirty
        have := h1.1.most
        omega
      · exact noFits
    · exact noFits

set_option maxHeartbeats 4000000 in
set_option maxRecDepth 100000 in
theorem implFWrite (sv dv : Value) (F : FM) (at_ : Int) (x : ByteArray) (w : World) (h : FRd w sv dv F) (hf : FFits F) (hs : ∀ s ∈ F.sec, s.size ≤ 1048576) (hd : ∀ d ∈ F.dir, d.2.size ≤ 1048576) (hx : x.size ≤ 1048576) :
    Calls Try.prog 5 #[.agg #[sv, dv], .int .i64 at_, .string x] w (OMade w (writeOf F at_ x)) := by
  obtain ⟨a, c, rfl, -⟩ := id h.1.2
  obtain ⟨a', c', rfl, -⟩ := id h.2.2
  have HF := Lib.hid hf
  have HS := Lib.hid hs
  have HD := Lib.hid hd
  have HR := Lib.hid h
  obtain ⟨O, hO⟩ : ∃ O, O = writeOf F at_ x := ⟨_, rfl⟩
  rw [← hO]
  unfold writeOf at hO
  have H0 := Lib.hid hO
  clear h hf hs hd hO
  have hb2 : Below w.heap.size w ((w.alloc (.cells #[.slice a F.sec.length c, .slice a' F.dir.length c'] 26)).alloc (.cells #[.slice none 0 0, .slice none 0 0, .string { data := #[] }, .int .i64 0] 30)) := ((Below.refl _ w).alloc (Nat.le_refl _) _).alloc (by simp) _
  have kz : ((w.alloc (.cells #[.slice a F.sec.length c, .slice a' F.dir.length c'] 26)).alloc (.cells #[.slice none 0 0, .slice none 0 0, .string { data := #[] }, .int .i64 0] 30)).heap.size = w.heap.size + 2 := by simp
  have hbo := boxOut_new w (.slice a F.sec.length c) (.slice a' F.dir.length c') (.slice none 0 0) (.slice none 0 0) (.string { data := #[] }) (.int .i64 0) 26 30
  have HB0 := Lib.hid hb2
  have HBO0 := Lib.hid hbo
  clear hb2 hbo
  by_cases hbig : 8000 < x.size
  · have hO : O = illOf 2 := by rw [H0.out, if_pos hbig]
    clear H0
    subst hO
    have d0 : decide ((8000 : Int) < (x.size : Int)) = true := decide_eq_true (by omega)
    go_enter Try.func5, Try.ntmps5
    go_wp2_with fail
    refine bodyPost_ret (v := .agg #[.slice none 0 0, .slice none 0 0, .string (illOf 2).data, .int .i64 (illOf 2).code]) (by simp [results, Try.results5, go_sem, illOf]; rfl) rfl ⟨_, _, rfl, noFlash_own _ _, ?_⟩
    exact ((Below.refl _ w).alloc (Nat.le_refl _) _).alloc (by simp) _
  have d0 : decide ((8000 : Int) < (x.size : Int)) = false := decide_eq_false (by omega)
  have H1 := Lib.hid (H0.out.trans (if_neg hbig))
  clear H0
  go_enter Try.func5, Try.ntmps5
  go_wp2_with fail
  generalize (w.alloc (.cells #[.slice a F.sec.length c, .slice a' F.dir.length c'] 26)).alloc (.cells #[.slice none 0 0, .slice none 0 0, .string { data := #[] }, .int .i64 0] 30) = W at *
  refine (implRight _ _ F W (HR.out.below HB0.out (Nat.le_refl _)) HF.out HS.out HD.out).mono ?_
  rintro e w1 ⟨b, rfl, hiff, hb1⟩
  have hbo1 := HBO0.out.next (by omega) hb1
  have hbw : Below w.heap.size w w1 := HB0.out.trans (hb1.mono (by omega))
  have hz1 : w.heap.size + 2 ≤ w1.heap.size := by have := hb1.size; omega
  clear HB0 HBO0 kz hb1
  clear W
  cases b with
  | false =>
    have hn : ¬ Right F := fun r => by simpa using hiff.2 r
    have hO : O = illOf 1 := by rw [H1.out, if_neg (fun r => hn r.1)]
    clear H1 hiff hn
    subst hO
    have HBO := Lib.hid hbo1
    have HBW := Lib.hid hbw
    clear hbo1 hbw
    obtain ⟨-, -, q0, q1, q2, q3, f0, f1, f2, f3⟩ := HBO.out
    obtain ⟨x0, hx0⟩ := Option.isSome_iff_exists.1 q0
    obtain ⟨x1, hx1⟩ := Option.isSome_iff_exists.1 q1
    obtain ⟨x2, hx2⟩ := Option.isSome_iff_exists.1 q2
    obtain ⟨x3, hx3⟩ := Option.isSome_iff_exists.1 q3
    clear q0 q1 q2 q3
    have HB := HBW
    clear HBO HBW
    go_wp2_with fail
    refine bodyPost_ret (v := .agg #[.slice none 0 0, .slice none 0 0, .string (illOf 1).data, .int .i64 (illOf 1).code]) (by simp [results, Try.results5, go_sem, hx0, hx1, hx2, hx3, illOf]; rfl) rfl ⟨_, _, rfl, noFlash_own _ _, ?_⟩
    exact (((HB.out.setCell (p := ⟨w.heap.size + 1, 0, none⟩) (by simp) _).setCell (p := ⟨w.heap.size + 1, 1, none⟩) (by simp) _).setCell (p := ⟨w.heap.size + 1, 2, none⟩) (by simp) _).setCell (p := ⟨w.heap.size + 1, 3, none⟩) (by simp) _
  | true =>
    have hr : Right F := hiff.1 rfl
    obtain ⟨l0, l1, l2⟩ : 1 ≤ F.sec.length ∧ F.sec.length ≤ 40 ∧ F.dir.length ≤ 40 := ⟨hr.least, hr.most, Nat.le_trans hr.dirty hr.most⟩
    by_cases hsz : 96 < x.size
    · have hO : O = illOf 1 := by rw [H1.out, if_neg (fun r => by omega)]
      clear H1 hiff hr
      subst hO
      have d1 : decide ((96 : Int) < (x.size : Int)) = true := decide_eq_true (by omega)
      have HBO := Lib.hid hbo1
      have HBW := Lib.hid hbw
      clear hbo1 hbw
      obtain ⟨-, -, q0, q1, q2, q3, f0, f1, f2, f3⟩ := HBO.out
      obtain ⟨x0, hx0⟩ := Option.isSome_iff_exists.1 q0
      obtain ⟨x1, hx1⟩ := Option.isSome_iff_exists.1 q1
      obtain ⟨x2, hx2⟩ := Option.isSome_iff_exists.1 q2
      obtain ⟨x3, hx3⟩ := Option.isSome_iff_exists.1 q3
      clear q0 q1 q2 q3
      have HB := HBW
      clear HBO HBW
      go_wp2_with fail
      refine bodyPost_ret (v := .agg #[.slice none 0 0, .slice none 0 0, .string (illOf 1).data, .int .i64 (illOf 1).code]) (by simp [results, Try.results5, go_sem, hx0, hx1, hx2, hx3, illOf]; rfl) rfl ⟨_, _, rfl, noFlash_own _ _, ?_⟩
      exact (((HB.out.setCell (p := ⟨w.heap.size + 1, 0, none⟩) (by simp) _).setCell (p := ⟨w.heap.size + 1, 1, none⟩) (by simp) _).setCell (p := ⟨w.heap.size + 1, 2, none⟩) (by simp) _).setCell (p := ⟨w.heap.size + 1, 3, none⟩) (by simp) _
    have d1 : decide ((96 : Int) < (x.size : Int)) = false := decide_eq_false (by omega)
    have hO1 := H1.out
    rw [if_pos ⟨hr, by omega⟩] at hO1
    have HO1 := Lib.hid hO1
    have HRT := Lib.hid hr
    clear H1 hiff hr hO1
    obtain ⟨b0, b1, -⟩ := id hbo1
    by_cases hin : 0 ≤ at_ ∧ at_ < F.sec.length
    · have hO : O = ⟨putOf F at_ x, ByteArray.empty, 0⟩ := by rw [HO1.out, if_pos hin]
      clear HO1
      subst hO
      obtain ⟨n0, n1⟩ := hin
      go_wp2_with fail
      refine (implHas _ _ _ _ _ _ at_ w1 (by omega) true ⟨fun _ => ⟨n0, n1⟩, fun _ => rfl⟩).mono ?_
      rintro e w2 ⟨rfl, hb2⟩
      have hbo2 := hbo1.next hz1 hb2
      have hz2 : w.heap.size + 2 ≤ w2.heap.size := by have := hb2.size; omega
      have HB2 := Lib.hid (hbw.trans (hb2.mono (by omega)))
      clear hbo1 hbw hb2 b0 b1
      obtain ⟨b0, b1, -⟩ := id hbo2
      have HBO := Lib.hid hbo2
      clear hbo2
      go_wp2_with fail
      refine (implOpened _ _ F w2 (HR.out.below HB2.out (Nat.le_refl _)) HRT.out).mono ?_
      rintro e w3 ⟨pb, mb, sv3, ov3, rfl, hof, hb3⟩
      have hz3 : w2.heap.size ≤ w3.heap.size := hb3.size
      have HOF := Lib.hid hof
      have HB3 := Lib.hid (HB2.out.trans (hb3.mono (by omega)))
      have HBO3 := Lib.hid (HBO.out.next hz2 hb3)
      clear hof hb3 b0 b1 HB2 HBO
      go_wp2_with fail
      have hwrite : Calls Try.prog 32 #[.pointer (some ⟨pb, 0, none⟩), .int .i64 at_, .string x] w3 fun e w' => e = .returned (.tuple #[]) ∧ (∃ ov ord, OF w' w2.heap.size pb mb (F.dir.length + 1) sv3 ov F.sec (upd (mapOf F.dir) at_ x) ord ∧ listOf (upd (mapOf F.dir) at_ x) ord = putD F.dir at_ x ∧ ord.length ≤ 41 ∧ ∀ y ∈ ord, (upd (mapOf F.dir) at_ x y).isSome = true ∧ 0 ≤ y ∧ y ≤ 1048576) ∧ Below w2.heap.size w3 w' := by
        have hk := mem_keys HRT.out
        have hups : ∀ y, (mapOf F.dir y).isSome = true → (upd (mapOf F.dir) at_ x y).isSome = true := fun y hy => by unfold upd; split <;> simp_all
        cases hmp : mapOf F.dir at_ with
        | some s0 =>
          refine (write_hit _ _ _ _ _ _ _ _ _ at_ s0 x w3 HOF.out hmp (by omega) (by omega) (by unfold maxLen; omega) (by unfold maxLen; omega)).mono ?_
          rintro e w' ⟨he, ho, hb⟩
          exact ⟨he, ⟨_, _, ho, put_list_hit hmp HRT.out, by simp; omega, fun y hy => ⟨hups y (hk y hy).1, (hk y hy).2⟩⟩, hb⟩
        | none =>
          refine (write_miss _ _ _ _ _ _ _ _ _ at_ x w3 HOF.out hmp (by omega) (by omega) (by unfold maxLen; omega) (by unfold maxLen; omega) (by simp; omega)).mono ?_
          rintro e w' ⟨he, ⟨ov', ho⟩, hb⟩
          refine ⟨he, ⟨_, _, ho, put_list_miss hmp HRT.out, by simp; omega, fun y hy => ?_⟩, hb⟩
          rcases List.mem_append.1 hy with hy | hy
          · exact ⟨hups y (hk y hy).1, (hk y hy).2⟩
          · rw [List.mem_singleton] at hy
            subst hy
            exact ⟨by unfold upd; rw [if_pos rfl]; rfl, n0, by omega⟩
      refine hwrite.mono ?_
      clear hwrite
      rintro e w4 ⟨rfl, ⟨ov4, ord4, hof, hlst, hol, hom⟩, hb4⟩
      have hz4 : w3.heap.size ≤ w4.heap.size := hb4.size
      have HOF4 := Lib.hid hof
      have HL4 := Lib.hid hlst
      have HM4 := Lib.hid hom
      have HB4 := Lib.hid (HB3.out.trans (hb4.mono (by omega)))
      have HBO4 := Lib.hid (HBO3.out.below hb4 (by omega))
      clear hof hb4 hlst hom HOF HB3 HBO3
      go_wp2_with fail
      refine (implClosed _ _ _ _ _ _ _ _ _ w4 HOF4.out (by omega) (by omega) HM4.out).mono ?_
      rintro e w5 ⟨sv4, dv4, rfl, ho4, hb4⟩
      rw [HL4.out] at ho4
      have ho5 : FOwn w5 w4.heap.size sv4 dv4 (putOf F at_ x) := ho4
      obtain ⟨a1, p1, rfl, -⟩ := id ho5.1.2
      obtain ⟨a2, p2, rfl, -⟩ := id ho5.2.1.2
      have HO4 := Lib.hid ho5
      have HB := Lib.hid (HB4.out.trans (hb4.mono (by omega)))
      obtain ⟨-, -, q0, q1, q2, q3, f0, f1, f2, f3⟩ := HBO4.out.next (by omega) hb4
      obtain ⟨x0, hx0⟩ := Option.isSome_iff_exists.1 q0
      obtain ⟨x1, hx1⟩ := Option.isSome_iff_exists.1 q1
      obtain ⟨x2, hx2⟩ := Option.isSome_iff_exists.1 q2
      obtain ⟨x3, hx3⟩ := Option.isSome_iff_exists.1 q3
      clear q0 q1 q2 q3
      clear ho4 ho5 hb4 HOF4 HB4 HBO4 HL4 HM4
      go_wp2_with fail
      refine bodyPost_ret (v := .agg #[.slice a1 (putOf F at_ x).sec.length p1, .slice a2 (putOf F at_ x).dir.length p2, .string { data := #[] }, .int .i64 0]) (by simp [results, Try.results5, go_sem, hx0, hx1, hx2, hx3]) rfl ⟨_, _, rfl, ?_, ?_⟩
      · exact ((((HO4.out.other _ _ (by simp; omega)).other _ _ (by simp; omega)).other _ _ (by simp; omega)).other _ _ (by simp; omega)).lower (by omega)
      · exact (((HB.out.setCell (p := ⟨w.heap.size + 1, 0, none⟩) (by simp) _).setCell (p := ⟨w.heap.size + 1, 1, none⟩) (by simp) _).setCell (p := ⟨w.heap.size + 1, 2, none⟩) (by simp) _).setCell (p := ⟨w.heap.size + 1, 3, none⟩) (by simp) _
    · have hO : O = illOf 8 := by rw [HO1.out, if_neg hin]
      clear HO1
      subst hO
      have HIN := Lib.hid hin
      clear hin
      go_wp2_with fail
      refine (implHas _ _ _ _ _ _ at_ w1 (by omega) false ⟨(fun e => by cases e), fun r => absurd r HIN.out⟩).mono ?_
      rintro e w2 ⟨rfl, hb2⟩
      have HBO := Lib.hid (hbo1.next hz1 hb2)
      have HBW := Lib.hid (hbw.trans (hb2.mono (by omega)))
      clear hbo1 hbw hb2 b0 b1
      obtain ⟨-, -, q0, q1, q2, q3, f0, f1, f2, f3⟩ := HBO.out
      obtain ⟨x0, hx0⟩ := Option.isSome_iff_exists.1 q0
      obtain ⟨x1, hx1⟩ := Option.isSome_iff_exists.1 q1
      obtain ⟨x2, hx2⟩ := Option.isSome_iff_exists.1 q2
      obtain ⟨x3, hx3⟩ := Option.isSome_iff_exists.1 q3
      clear q0 q1 q2 q3
      have HB := HBW
      clear HBO HBW
      go_wp2_with fail
      refine bodyPost_ret (v := .agg #[.slice none 0 0, .slice none 0 0, .string (illOf 8).data, .int .i64 (illOf 8).code]) (by simp [results, Try.results5, go_sem, hx0, hx1, hx2, hx3, illOf]; rfl) rfl ⟨_, _, rfl, noFlash_own _ _, ?_⟩
      exact (((HB.out.setCell (p := ⟨w.heap.size + 1, 0, none⟩) (by simp) _).setCell (p := ⟨w.heap.size + 1, 1, none⟩) (by simp) _).setCell (p := ⟨w.heap.size + 1, 2, none⟩) (by simp) _).setCell (p := ⟨w.heap.size + 1, 3, none⟩) (by simp) _
end Go.Proofs.Ytkeimgglikdbfaa
