/- ImageDigest: the specification's and the program's. -/
import Derived.Test.YtcckpkcjekcajaaDoorM3
import Derived.Test.YtcckpkcjekcajaaDoorDLaw
import Derived.Test.YtcckpkcjekcajaaDoorShelf
namespace Go.Proofs.YtcckpkcjekcajaaDoor
open Go.RowKit

set_option maxRecDepth 100000 in
set_option maxHeartbeats 1000000 in
theorem toStrsK_any (v : Value) (l : List ByteArray) (w : World) (h : Rd w v l.length 1 (strs l)) (hn : l.length ≤ 1048576) :
    Calls Tryd.prog 24 #[v] w fun e w' => e = .returned (.slice (some ⟨w.heap.size, 0, none⟩) l.length l.length) ∧ Own w' w.heap.size (.slice (some ⟨w.heap.size, 0, none⟩) l.length l.length) l.length 1 (strs l) ∧ Below w.heap.size w w' := by
  obtain ⟨i0, hi, hz0, hz1, hz2⟩ := info_parts Tryd.info9
  obtain ⟨_, a, c, rfl, hc⟩ := h
  have HC := Lib.hid hc
  clear hc
  go_enter Tryd.func24, Tryd.ntmps24
  go_wp2_with (at_make; refine wpList_make_full _ rfl _ _ 23 rfl w.heap.size 9 i0 (.string ByteArray.empty) 1 Tryd.underlying23 hi hz0 hz1 .i64 .i64 _ _ l.length rfl rfl (by omega) (by omega) (by rw [hz2]; omega) (by unfold maxLen; omega) (Nat.le_refl _) ?_)
  intro w1 hown1 hgrow1
  have hb1 : Below w.heap.size w w1 := (Below.refl _ w).grown hgrow1 (Nat.le_refl _) (by simp)
  have hg1 := own_block hown1
  rw [toList_madeCells_one] at hg1
  have HG1 := Lib.hid (made_strs hg1)
  have HB1 := Lib.hid hb1
  clear hown1 hgrow1 hg1 hb1 hi hz0 hz1 hz2
  go_wp2_with fail
  go_loopw [4] (fun i wr => CopyRel w l i wr) (fun i _ => l.length - (intOf i).toNat)
  case atStart => exact ⟨0, by omega, rfl, HG1.out, HB1.out⟩
  case round =>
    clear HG1 HB1
    obtain ⟨k, hk, rfl, hcs, hbel⟩ := hrel
    by_cases hlt : k < l.length
    · obtain ⟨b, off, rfl, hbl, hcell⟩ := HC.out (by omega)
      have hc1 : wr.cell? ⟨b, off + k, none⟩ = some (.string l[k]) := by
        rw [hbel.cell (p := ⟨b, off + k, none⟩) hbl, hcell k (by omega), strs_at l k hlt]
      have hc2 := hcs.cell k hlt
      have hf2 := hcs.frozen k
      have hne : ¬ b = w.heap.size := by omega
      have HCS := Lib.hid hcs
      have HBEL := Lib.hid hbel
      clear hcs hbel hcell
      go_wp2_with fail
      go_roundw
      case rel =>
        refine ⟨k + 1, by omega, by go_num, ?_, HBEL.out.setCell (p := ⟨w.heap.size, k, none⟩) (Nat.le_refl _) _⟩
        refine HCS.out.set k _ ?_ ?_
        · show Value.string (if k < k + 1 then l.getD k ByteArray.empty else ByteArray.empty) = _
          rw [if_pos (by omega), List.getD_eq_getElem?_getD, List.getElem?_eq_getElem hlt]; rfl
        · intro i hi
          show Value.string (if i < k + 1 then l.getD i ByteArray.empty else ByteArray.empty) = .string (if i < k then l.getD i ByteArray.empty else ByteArray.empty)
          by_cases h1 : i < k
          · rw [if_pos h1, if_pos (by omega)]
          · rw [if_neg h1, if_neg (by omega)]
      case measure => simp [intOf]; omega
    · obtain rfl : k = l.length := by omega
      have HCS := Lib.hid hcs
      have HBEL := Lib.hid hbel
      clear hcs hbel
      go_wp2_with fail
      go_ret
      refine ⟨rfl, ?_, HBEL.out⟩
      refine own_of_cells HCS.out (Nat.le_refl _) (by omega) (by rw [strs_length]; omega) (fun j hj => ?_)
      rw [strs_at l j (by omega), if_pos (by omega), List.getD_eq_getElem?_getD, List.getElem?_eq_getElem (by omega)]; rfl


/-- Texts one behind the other. -/
def joinB (l : List ByteArray) : ByteArray := ⟨(Lib.join (l.map (·.data.toList)) []).toArray⟩
theorem join_flat (xs : List (List UInt8)) : Lib.join xs [] = xs.flatten := by
  cases xs with
  | nil => rfl
  | cons x r => rw [Lib.join_cons]; simp [Lib.joinTail]
theorem joinB_succ (l : List ByteArray) (k : Nat) (h : k < l.length) : joinB (l.take (k + 1)) = joinB (l.take k) ++ l[k] := by
  unfold joinB
  rw [List.take_succ_eq_append_getElem h, List.map_append, join_flat, join_flat, List.flatten_append]
  have := str_app ⟨((l.take k).map (·.data.toList)).flatten.toArray⟩ l[k]
  rw [← this]; simp
theorem joinB_size {l : List ByteArray} (hs : ∀ s ∈ l, s.size = 8) : ∀ k, k ≤ l.length → (joinB (l.take k)).size = 8 * k
  | 0, _ => rfl
  | k + 1, hk => by
    rw [joinB_succ l k (by omega), ByteArray.size_append, joinB_size hs k (by omega), hs _ (List.getElem_mem (by omega))]; omega
theorem joinB_all {l : List ByteArray} (h : ImgOk l) : (joinB l).size ≤ 64 := by
  have := joinB_size h.2 l.length (Nat.le_refl _)
  rw [List.take_length] at this
  have := h.1
  omega
def JnRel (l : List ByteArray) (x i : Value) : Prop := ∃ k : Nat, k ≤ l.length ∧ i = .int .i64 k ∧ x = .string (joinB (l.take k))
set_option maxRecDepth 100000 in
set_option maxHeartbeats 1000000 in
theorem specJoin (v : Value) (l : List ByteArray) (w : World) (h : Rd w v l.length 1 (strs l)) (hi : ImgOk l) :
    Calls Tryd.prog 54 #[v] w fun e w' => e = .returned (.string (joinB l)) ∧ w = w' := by
  obtain ⟨⟨n0, n1⟩, hs⟩ := hi
  obtain ⟨R, hR⟩ : ∃ R, R = joinB l := ⟨_, rfl⟩
  rw [← hR]
  have HR := Lib.hid hR
  clear hR
  obtain ⟨a, c, rfl, -⟩ := id h.2
  have HV := Lib.hid h
  have HS := Lib.hid hs
  clear h hs
  go_enter Tryd.func54, Tryd.ntmps54
  go_wp2_with fail
  go_loop [3, 4] (fun x i => JnRel l x i) (fun _ i => l.length - (intOf i).toNat)
  case atStart => exact ⟨0, by omega, rfl, rfl⟩
  case round =>
    obtain ⟨k, hk, rfl, rfl⟩ := hrel
    by_cases hlt : k < l.length
    · obtain ⟨b, off, rfl, hbl, hcell⟩ := HV.out.get (by omega)
      have r0 : w.cell? ⟨b, off + k, none⟩ = some (.string l[k]) := by rw [hcell k (by omega), strs_at l k hlt]
      have z0 := joinB_size HS.out k hk
      have z1 := HS.out _ (List.getElem_mem hlt)
      have HX := Lib.hid (joinB_succ l k hlt)
      clear hcell
      generalize joinB (l.take k) = t at *
      generalize l[k] = s at *
      have z2 : ¬ (9223372036854775807 < t.size + s.size) := by omega
      go_wp2_with fail
      go_round
      case rel => exact ⟨k + 1, by omega, by go_num, by rw [HX.out]⟩
      case measure => simp [intOf]; omega
    · obtain rfl : k = l.length := by omega
      rw [List.take_length, ← HR.out]
      clear HR
      go_wp2_with fail
      go_ret
      exact ⟨rfl, rfl⟩

/-- What ImageDigest answers. -/
def imgDig (l : List ByteArray) : ByteArray := if imgB l then digS (joinB l) else ⟨#[]⟩
theorem imgDig_no {l : List ByteArray} (h : imgB l = false) : imgDig l = ⟨#[]⟩ := by unfold imgDig; rw [h]; rfl
theorem imgDig_yes {l : List ByteArray} (h : imgB l = true) : imgDig l = digS (joinB l) := by unfold imgDig; rw [h]; rfl
set_option maxRecDepth 100000 in
set_option maxHeartbeats 1000000 in
theorem specImgDig (v : Value) (l : List ByteArray) (w : World) (h : Rd w v l.length 1 (strs l)) (hn : l.length ≤ 1048576) :
    Calls Tryd.prog 17 #[v] w fun e w' => e = .returned (.string (imgDig l)) ∧ Below w.heap.size w w' := by
  obtain ⟨R, hR⟩ : ∃ R, R = imgDig l := ⟨_, rfl⟩
  rw [← hR]
  have HR := Lib.hid hR
  clear hR
  obtain ⟨a, c, rfl, -⟩ := id h.2
  have HV := Lib.hid h
  clear h
  cases hi : imgB l with
  | false =>
    have hr : R = ⟨#[]⟩ := by rw [HR.out]; exact imgDig_no hi
    subst hr
    have HI := Lib.hid hi
    clear HR hi
    go_enter Tryd.func17, Tryd.ntmps17
    go_wp2_with fail
    refine (specImg _ l _ HV.out hn).mono ?_
    rintro e w1 ⟨rfl, rfl⟩
    rw [HI.out]
    go_wp2_with fail
    go_ret
    exact ⟨rfl, Below.refl _ _⟩
  | true =>
    have HI := Lib.hid hi
    have OK := Lib.hid ((imgB_iff l).1 hi)
    have HD := Lib.hid (show R = digS (joinB l) by rw [HR.out]; exact imgDig_yes hi)
    clear hi HR
    go_enter Tryd.func17, Tryd.ntmps17
    go_wp2_with fail
    refine (specImg _ l _ HV.out hn).mono ?_
    rintro e w1 ⟨rfl, rfl⟩
    rw [HI.out]
    go_wp2_with fail
    refine (specJoin _ l _ HV.out OK.out).mono ?_
    rintro e w1 ⟨rfl, rfl⟩
    have hj := joinB_all OK.out
    have hd := fun wx => specDigest_any (joinB l) wx (by omega)
    rw [← HD.out] at hd
    clear HD
    generalize joinB l = t at *
    go_wp2_with fail
    refine (hd _).mono ?_
    rintro e w1 ⟨rfl, hb⟩
    have HB := Lib.hid hb
    clear hb hd
    go_wp2_with fail
    go_ret
    exact ⟨rfl, HB.out⟩
set_option maxRecDepth 100000 in
set_option maxHeartbeats 1000000 in
theorem implImgDig (a : Option Addr) (c : Nat) (l : List ByteArray) (w : World) (h : Rd w (.slice a l.length c) l.length 1 (strs l)) (hn : l.length ≤ 1048576) (hc : l.length ≤ c) (hl : LaidT w) :
    Calls Tryd.prog 16 #[.slice a l.length c] w fun e w' => e = .returned (.string (imgDig l)) ∧ Below w.heap.size w w' := by
  obtain ⟨R, hR⟩ : ∃ R, R = imgDig l := ⟨_, rfl⟩
  rw [← hR]
  have HR := Lib.hid hR
  clear hR
  have HV := Lib.hid h
  have HL := Lib.hid hl
  clear h hl
  cases hi : imgB l with
  | false =>
    have hr : R = ⟨#[]⟩ := by rw [HR.out]; exact imgDig_no hi
    subst hr
    have HI := Lib.hid hi
    clear HR hi
    go_enter Tryd.func16, Tryd.ntmps16
    go_wp2_with fail
    refine (implImg _ l _ HV.out hn).mono ?_
    rintro e w1 ⟨rfl, rfl⟩
    rw [HI.out]
    go_wp2_with fail
    go_ret
    exact ⟨rfl, Below.refl _ _⟩
  | true =>
    have HI := Lib.hid hi
    have OK := Lib.hid ((imgB_iff l).1 hi)
    have HD := Lib.hid (show R = digS (joinB l) by rw [HR.out]; exact imgDig_yes hi)
    clear hi HR
    obtain ⟨⟨n0, n1⟩, -⟩ := id OK.out
    obtain ⟨b, off, rfl, hbl, hcell⟩ := HV.out.get (by omega)
    have HJ := Lib.hid (Tryd.strings_Join b off c l ⟨#[]⟩ w (fun j x hx => by
      obtain ⟨hj, hx'⟩ := List.getElem?_eq_some_iff.1 hx
      rw [hcell j (by omega), strs_at l j hj, hx']) hbl (by omega) hc (by
      have h1 := joinB_all OK.out
      have h2 : (joinB l).size = (Lib.join (l.map (·.data.toList)) []).length := by unfold joinB; rw [ByteArray.size]; simp
      show (Lib.join (l.map (·.data.toList)) []).length ≤ _
      omega))
    clear hcell
    go_enter Tryd.func16, Tryd.ntmps16
    go_wp2_with fail
    refine (implImg _ l _ HV.out hn).mono ?_
    rintro e w1 ⟨rfl, rfl⟩
    rw [HI.out]
    go_wp2_with fail
    refine Calls.mono (show Calls Tryd.prog 52 #[.slice (some ⟨b, off, none⟩) l.length c, .string ⟨#[]⟩] w fun e w' => e = .returned (.string (joinB l)) ∧ Below w.heap.size w w' from HJ.out) ?_
    rintro e w1 ⟨rfl, hb⟩
    have HB := Lib.hid hb
    have hj := joinB_all OK.out
    have hd := implDigest_any (joinB l) w1 (by omega) (HL.out.below hb HL.out.two)
    rw [← HD.out] at hd
    clear HD hb HJ
    generalize joinB l = t at *
    go_wp2_with fail
    refine hd.mono ?_
    clear hd
    rintro e w2 ⟨rfl, hb⟩
    have HB2 := Lib.hid (HB.out.trans (hb.mono HB.out.size))
    clear hb
    go_wp2_with fail
    go_ret
    exact ⟨rfl, HB2.out⟩
end Go.Proofs.YtcckpkcjekcajaaDoor
