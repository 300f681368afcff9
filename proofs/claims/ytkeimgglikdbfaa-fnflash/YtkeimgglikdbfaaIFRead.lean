/- The program's FlashRead. -/
import Derived.Test.YtkeimgglikdbfaaIClosed
import Derived.Test.YtkeimgglikdbfaaIRight
namespace Go.Proofs.Ytkeimgglikdbfaa
open Go.RowKit

theorem listOf_self (l : List D) (h : ∀ i j (hj : j < l.length) (hi : i < j), l[i].1 ≠ l[j].1) : listOf (mapOf l) (l.map (·.1)) = l := by
  unfold listOf
  rw [List.map_map]
  apply List.ext_getElem
  · simp
  · intro k h1 h2
    have := mapOf_hit l h k h2
    simp [this]
theorem mem_keys {F : FM} (hr : Right F) : ∀ x ∈ F.dir.map (·.1), (mapOf F.dir x).isSome = true ∧ 0 ≤ x ∧ x ≤ 1048576 := by
  intro x hx
  obtain ⟨d, hd, rfl⟩ := List.mem_map.1 hx
  obtain ⟨k, hk, rfl⟩ := List.mem_iff_getElem.1 hd
  have := hr.at0 k hk
  have := hr.at1 k hk
  have := hr.most
  exact ⟨by rw [mapOf_hit F.dir hr.once k hk]; rfl, by omega, by omega⟩
theorem get_map_hit {F : FM} (hr : Right F) {x : Int} {s : ByteArray} (h : mapOf F.dir x = some s) : getOf F x = s := by
  by_cases he : ∃ k, ∃ (hk : k < F.dir.length), F.dir[k].1 = x
  · obtain ⟨k, hk, rfl⟩ := he
    rw [get_hit hk (fun j _ hjk => hr.once j k hk hjk) rfl]
    rw [mapOf_hit F.dir hr.once k hk] at h
    exact Option.some.inj h
  · rw [mapOf_miss F.dir x (fun d hd e => by obtain ⟨k, hk, rfl⟩ := List.mem_iff_getElem.1 hd; exact he ⟨k, hk, e⟩)] at h
    cases h
theorem get_map_miss {F : FM} (hr : Right F) {x : Int} (h : mapOf F.dir x = none) (h0 : x.toNat < F.sec.length) : getOf F x = F.sec[x.toNat] := by
  refine get_miss (fun j hj e => ?_) h0
  have := mapOf_hit F.dir hr.once j hj
  rw [e, h] at this; cases this

theorem BoxOut.below {n B : Nat} {sv dv : Value} {w1 w2 : World} (h : BoxOut n sv dv w1) (hb : Below B w1 w2) (hB : n + 2 ≤ B) : BoxOut n sv dv w2 := by
  obtain ⟨h0, h1, h2, h3, h4, h5, h6, h7, h8, h9⟩ := h
  have c : ∀ k j, k < n + 2 → w2.cell? ⟨k, j, none⟩ = w1.cell? ⟨k, j, none⟩ := fun k j hk => hb.cell (p := ⟨k, j, none⟩) (by simp; omega)
  have f : ∀ k j, k < n + 2 → w2.frozen? ⟨k, j, none⟩ = w1.frozen? ⟨k, j, none⟩ := fun k j hk => hb.frozen (p := ⟨k, j, none⟩) (by simp; omega)
  refine ⟨(c _ _ (by omega)).trans h0, (c _ _ (by omega)).trans h1, ?_, ?_, ?_, ?_, (f _ _ (by omega)).trans h6, (f _ _ (by omega)).trans h7, (f _ _ (by omega)).trans h8, (f _ _ (by omega)).trans h9⟩
  · rw [c _ _ (by omega)]; exact h2
  · rw [c _ _ (by omega)]; exact h3
  · rw [c _ _ (by omega)]; exact h4
  · rw [c _ _ (by omega)]; exact h5
theorem noFits : FFits noFlash := ⟨by simp [noFlash], by simp [noFlash]⟩
theorem read_fits {F : FM} {x : Int} (h : FFits F) : FFits (readOf F x).fl := by
  unfold readOf
  split
  · split
    · exact h
    · exact noFits
  · exact noFits

set_option maxHeartbeats 4000000 in
set_option maxRecDepth 100000 in
theorem implFRead (sv dv : Value) (F : FM) (at_ : Int) (w : World) (h : FRd w sv dv F) (hf : FFits F) (hs : ∀ s ∈ F.sec, s.size ≤ 1048576) (hd : ∀ d ∈ F.dir, d.2.size ≤ 1048576) :
    Calls Try.prog 17 #[.agg #[sv, dv], .int .i64 at_] w (OMade w (readOf F at_)) := by
  obtain ⟨a, c, rfl, -⟩ := id h.1.2
  obtain ⟨a', c', rfl, -⟩ := id h.2.2
  have HF := Lib.hid hf
  have HS := Lib.hid hs
  have HD := Lib.hid hd
  have HR := Lib.hid h
  obtain ⟨O, hO⟩ : ∃ O, O = readOf F at_ := ⟨_, rfl⟩
  rw [← hO]
  unfold readOf at hO
  have H0 := Lib.hid hO
  clear h hf hs hd hO
  go_enter Try.func17, Try.ntmps17
  go_wp2_with fail
  have hb2 : Below w.heap.size w ((w.alloc (.cells #[.slice a F.sec.length c, .slice a' F.dir.length c'] 26)).alloc (.cells #[.slice none 0 0, .slice none 0 0, .string { data := #[] }, .int .i64 0] 30)) := ((Below.refl _ w).alloc (Nat.le_refl _) _).alloc (by simp) _
  have kz : ((w.alloc (.cells #[.slice a F.sec.length c, .slice a' F.dir.length c'] 26)).alloc (.cells #[.slice none 0 0, .slice none 0 0, .string { data := #[] }, .int .i64 0] 30)).heap.size = w.heap.size + 2 := by simp
  have hbo := boxOut_new w (.slice a F.sec.length c) (.slice a' F.dir.length c') (.slice none 0 0) (.slice none 0 0) (.string { data := #[] }) (.int .i64 0) 26 30
  generalize (w.alloc (.cells #[.slice a F.sec.length c, .slice a' F.dir.length c'] 26)).alloc (.cells #[.slice none 0 0, .slice none 0 0, .string { data := #[] }, .int .i64 0] 30) = W at *
  refine (implRight _ _ F W (HR.out.below hb2 (Nat.le_refl _)) HF.out HS.out HD.out).mono ?_
  rintro e w1 ⟨b, rfl, hiff, hb1⟩
  have hbo1 := hbo.next (by omega) hb1
  have hbw : Below w.heap.size w w1 := hb2.trans (hb1.mono (by omega))
  have hz1 : w.heap.size + 2 ≤ w1.heap.size := by have := hb1.size; omega
  clear hb2 kz hbo hb1
  clear W
  cases b with
  | false =>
    have hn : ¬ Right F := fun r => by simpa using hiff.2 r
    have hO : O = illOf 1 := by rw [H0.out, if_neg hn]
    clear H0 hiff hn
    subst hO
    obtain ⟨-, -, q0, q1, q2, q3, f0, f1, f2, f3⟩ := hbo1
    obtain ⟨x0, hx0⟩ := Option.isSome_iff_exists.1 q0
    obtain ⟨x1, hx1⟩ := Option.isSome_iff_exists.1 q1
    obtain ⟨x2, hx2⟩ := Option.isSome_iff_exists.1 q2
    obtain ⟨x3, hx3⟩ := Option.isSome_iff_exists.1 q3
    have HBW := Lib.hid hbw
    clear hbw q0 q1 q2 q3
    go_wp2_with fail
    refine bodyPost_ret (v := .agg #[.slice none 0 0, .slice none 0 0, .string (illOf 1).data, .int .i64 (illOf 1).code]) (by simp [results, Try.results17, go_sem, hx0, hx1, hx2, hx3, illOf]; rfl) rfl ⟨_, _, rfl, noFlash_own _ _, ?_⟩
    exact (((HBW.out.setCell (p := ⟨w.heap.size + 1, 0, none⟩) (by simp) _).setCell (p := ⟨w.heap.size + 1, 1, none⟩) (by simp) _).setCell (p := ⟨w.heap.size + 1, 2, none⟩) (by simp) _).setCell (p := ⟨w.heap.size + 1, 3, none⟩) (by simp) _
  | true =>
    have hr : Right F := hiff.1 rfl
    have hO1 := H0.out
    rw [if_pos hr] at hO1
    have HO1 := Lib.hid hO1
    have HRT := Lib.hid hr
    obtain ⟨l0, l1, l2⟩ : 1 ≤ F.sec.length ∧ F.sec.length ≤ 40 ∧ F.dir.length ≤ 40 := ⟨hr.least, hr.most, Nat.le_trans hr.dirty hr.most⟩
    clear H0 hiff hr hO1
    obtain ⟨b0, b1, -⟩ := id hbo1
    by_cases hin : 0 ≤ at_ ∧ at_ < F.sec.length
    · have hO : O = ⟨F, getOf F at_, 0⟩ := by rw [HO1.out, if_pos hin]
      clear HO1
      subst hO
      obtain ⟨n0, n1⟩ := hin
      go_wp2_with fail
      refine (implHas _ _ _ _ _ _ at_ w1 (by omega) true ⟨fun _ => ⟨n0, n1⟩, fun _ => rfl⟩).mono ?_
      rintro e w2 ⟨rfl, hb2⟩
      have hbo2 := hbo1.next hz1 hb2
      have hz2 : w.heap.size + 2 ≤ w2.heap.size := by have := hb2.size; omega
      have HB2 := Lib.hid (hbw.trans (hb2.mono (by omega)))
      clear hbo1 hbw hb2 b0 b1
      obtain ⟨b0, b1, -⟩ := id hbo2
      have HBO := Lib.hid hbo2
      clear hbo2
      go_wp2_with fail
      refine (implOpened _ _ F w2 (HR.out.below HB2.out (Nat.le_refl _)) HRT.out).mono ?_
      rintro e w3 ⟨pb, mb, sv3, ov3, rfl, hof, hb3⟩
      have hz3 : w2.heap.size ≤ w3.heap.size := hb3.size
      have HOF := Lib.hid hof
      have HB3 := Lib.hid (HB2.out.trans (hb3.mono (by omega)))
      have HBO3 := Lib.hid (HBO.out.next hz2 hb3)
      clear hof hb3 b0 b1 HB2 HBO
      go_wp2_with fail
      refine (implClosed _ _ _ _ _ _ _ _ _ w3 HOF.out (by omega) (by simp; omega) (mem_keys HRT.out)).mono ?_
      rintro e w4 ⟨sv4, dv4, rfl, ho4, hb4⟩
      rw [listOf_self F.dir HRT.out.once] at ho4
      obtain ⟨a1, p1, rfl, -⟩ := id ho4.1.2
      obtain ⟨a2, p2, rfl, -⟩ := id ho4.2.1.2
      have HOF4 := Lib.hid (HOF.out.next hb4)
      have hz4 : w3.heap.size ≤ w4.heap.size := hb4.size
      have HO4 := Lib.hid ho4
      have HB4 := Lib.hid (HB3.out.trans (hb4.mono (by omega)))
      obtain ⟨-, -, q0, q1, q2, q3, f0, f1, f2, f3⟩ := HBO3.out.next (by omega) hb4
      obtain ⟨x0, hx0⟩ := Option.isSome_iff_exists.1 q0
      obtain ⟨x1, hx1⟩ := Option.isSome_iff_exists.1 q1
      obtain ⟨x2, hx2⟩ := Option.isSome_iff_exists.1 q2
      obtain ⟨x3, hx3⟩ := Option.isSome_iff_exists.1 q3
      clear ho4 hb4 HOF HB3 HBO3 q0 q1 q2 q3
      obtain ⟨s, hs⟩ : ∃ s, s = getOf F at_ := ⟨_, rfl⟩
      have HSS := Lib.hid hs
      go_wp2_with fail
      have hread : Calls Try.prog 46 #[.pointer (some ⟨pb, 0, none⟩), .int .i64 at_] w4 fun e w' => e = .returned (.string s) ∧ w' = w4 := by
        cases hmp : mapOf F.dir at_ with
        | some s' =>
          have := read_hit _ _ _ _ _ _ _ _ _ at_ s' w4 HOF4.out hmp (by omega) (by omega)
          rwa [← get_map_hit HRT.out hmp, ← hs] at this
        | none =>
          have := read_miss _ _ _ _ _ _ _ _ _ at_ w4 HOF4.out hmp n0 n1 (by omega)
          rwa [← get_map_miss HRT.out hmp (by omega), ← hs] at this
      refine hread.mono ?_
      rintro e w5 ⟨rfl, rfl⟩
      clear hread hs HOF4
      go_wp2_with fail
      refine bodyPost_ret (v := .agg #[.slice a1 F.sec.length p1, .slice a2 F.dir.length p2, .string s, .int .i64 0]) (by simp [results, Try.results17, go_sem, hx0, hx1, hx2, hx3]) rfl ⟨_, _, by rw [HSS.out], ?_, ?_⟩
      · exact ((((HO4.out.other _ _ (by simp; omega)).other _ _ (by simp; omega)).other _ _ (by simp; omega)).other _ _ (by simp; omega)).lower (by omega)
      · exact (((HB4.out.setCell (p := ⟨w.heap.size + 1, 0, none⟩) (by simp) _).setCell (p := ⟨w.heap.size + 1, 1, none⟩) (by simp) _).setCell (p := ⟨w.heap.size + 1, 2, none⟩) (by simp) _).setCell (p := ⟨w.heap.size + 1, 3, none⟩) (by simp) _
    · have hO : O = illOf 8 := by rw [HO1.out, if_neg hin]
      clear HO1
      subst hO
      have HIN := Lib.hid hin
      clear hin
      go_wp2_with fail
      refine (implHas _ _ _ _ _ _ at_ w1 (by omega) false ⟨(fun e => by cases e), fun r => absurd r HIN.out⟩).mono ?_
      rintro e w2 ⟨rfl, hb2⟩
      obtain ⟨-, -, q0, q1, q2, q3, f0, f1, f2, f3⟩ := hbo1.next hz1 hb2
      obtain ⟨x0, hx0⟩ := Option.isSome_iff_exists.1 q0
      obtain ⟨x1, hx1⟩ := Option.isSome_iff_exists.1 q1
      obtain ⟨x2, hx2⟩ := Option.isSome_iff_exists.1 q2
      obtain ⟨x3, hx3⟩ := Option.isSome_iff_exists.1 q3
      have HBW := Lib.hid (hbw.trans (hb2.mono (by omega)))
      clear hbw q0 q1 q2 q3 hb2 hbo1 b0 b1
      go_wp2_with fail
      refine bodyPost_ret (v := .agg #[.slice none 0 0, .slice none 0 0, .string (illOf 8).data, .int .i64 (illOf 8).code]) (by simp [results, Try.results17, go_sem, hx0, hx1, hx2, hx3, illOf]; rfl) rfl ⟨_, _, rfl, noFlash_own _ _, ?_⟩
      exact (((HBW.out.setCell (p := ⟨w.heap.size + 1, 0, none⟩) (by simp) _).setCell (p := ⟨w.heap.size + 1, 1, none⟩) (by simp) _).setCell (p := ⟨w.heap.size + 1, 2, none⟩) (by simp) _).setCell (p := ⟨w.heap.size + 1, 3, none⟩) (by simp) _
end Go.Proofs.Ytkeimgglikdbfaa
