/- PackageBytes: the specification's and the program's. -/
import Derived.Test.YtcpblmpapkhppaaGreatDoorKR
import Derived.Test.YtcpblmpapkhppaaGreatDoorBWrites
namespace Go.Proofs.YtcpblmpapkhppaaGreatDoor
open Go.RowKit

/-- The first parts: the header, and k steps. -/
def pkTo (p : pkT) (k : Nat) : List ByteArray := putS p.1 :: txS p.2.1 :: putS p.2.2.length :: (p.2.2.take k).map stpTx
theorem pkTo_all (p : pkT) : cat (pkTo p p.2.2.length) = pkE p := by unfold pkTo pkE pkParts; rw [List.take_length]
theorem pkTo_zero (p : pkT) : cat (pkTo p 0) = putS p.1 ++ txS p.2.1 ++ putS p.2.2.length := by
  unfold pkTo; rw [cat_cons, cat_cons, List.take_zero, List.map_nil, cat_one, ByteArray.append_assoc]
theorem pkTo_next (p : pkT) (k : Nat) (h : k < p.2.2.length) : pkTo p (k + 1) = pkTo p k ++ [stpTx p.2.2[k]] := by
  unfold pkTo; rw [List.take_succ_eq_append_getElem h, List.map_append]; rfl
theorem pkTo_succ (p : pkT) (k : Nat) (h : k < p.2.2.length) : cat (pkTo p (k + 1)) = cat (pkTo p k) ++ stpTx p.2.2[k] := by
  rw [pkTo_next p k h, cat_append, cat_one]
theorem pkTo_len (p : pkT) (k : Nat) (h : k ≤ p.2.2.length) : (pkTo p k).length = 3 + k := by
  unfold pkTo; simp; omega
theorem pkTo_size {p : pkT} (h : pkOk p) (k : Nat) : (cat (pkTo p k)).size ≤ 1300 := by
  have h1 := pkE_size h
  have h2 : cat (pkTo p k) ++ cat ((p.2.2.drop k).map stpTx) = pkE p := by
    rw [← cat_append]
    unfold pkTo pkE pkParts
    rw [List.cons_append, List.cons_append, List.cons_append, ← List.map_append, List.take_append_drop]
  have h3 : (cat (pkTo p k) ++ cat ((p.2.2.drop k).map stpTx)).size = (pkE p).size := by rw [h2]
  rw [ByteArray.size_append] at h3; omega
theorem keepT {W W' : World} {n : Nat} {T : TypeId} {a b c : Value} (X : Bx W n T #[a, b, c]) (h : Below W.heap.size W W') :
    W'.cell? ⟨n, 0, none⟩ = some a ∧ W'.cell? ⟨n, 1, none⟩ = some b ∧ W'.cell? ⟨n, 2, none⟩ = some c ∧ Below W.heap.size W W' :=
  have h' := X.next h
  ⟨h'.t0, h'.t1, h'.t2, h⟩
theorem strs_app1 (l : List ByteArray) (x : ByteArray) : strs (l ++ [x]) = strs l ++ [.string x] := by simp [strs]
theorem oneNew (w : World) (x : Value) (t : TypeId) : ∀ j v, [x][j]? = some v → (w.alloc (.cells #[x] t)).cell? ((⟨w.heap.size, 0, none⟩ : Addr).add j) = some v := by
  intro j u hj
  rw [Addr.add_lit, (bx_new w t #[x]).cell]
  simpa using hj
def KbRelI (p : pkT) (W : World) (x i : Value) (wr : World) : Prop := ∃ k : Nat, k ≤ p.2.2.length ∧ i = .int .i64 k ∧ Gr wr W.heap.size 9 1 x (3 + k) (strs (pkTo p k)) ∧ Below W.heap.size W wr
def KbRelS (p : pkT) (W : World) (x i : Value) (wr : World) : Prop := ∃ k : Nat, k ≤ p.2.2.length ∧ i = .int .i64 k ∧ x = .string (cat (pkTo p k)) ∧ Below W.heap.size W wr

set_option maxRecDepth 100000 in
set_option maxHeartbeats 4000000 in
theorem specPkBytes (p : pkT) (v : Value) (w : World) (h : Rd w v p.2.2.length 4 (stpCs p.2.2)) (hn : p.2.2.length ≤ 1048576) :
    Calls Tryz.prog 18 #[pkV p.1 p.2.1 v] w fun e w' => e = .returned (.string (pkBytes p)) ∧ Below w.heap.size w w' := by
  obtain ⟨a, c, rfl, -⟩ := id h.2
  have HV := Lib.hid h
  clear h
  obtain ⟨R, hR⟩ : ∃ R, R = pkBytes p := ⟨_, rfl⟩
  rw [← hR]
  have HR := Lib.hid hR
  clear hR
  have HB := Lib.hid (below_alloc1 w (.cells #[.int .i64 p.1, .string p.2.1, .slice a p.2.2.length c] 24))
  have HX := Lib.hid (bx_new w 24 #[.int .i64 p.1, .string p.2.1, .slice a p.2.2.length c])
  have c00 := HX.out.t0
  have c01 := HX.out.t1
  have c02 := HX.out.t2
  unfold pkV
  go_enter Tryz.func18, Tryz.ntmps18
  go_wp2_with fail
  generalize w.alloc (.cells #[.int .i64 p.1, .string p.2.1, .slice a p.2.2.length c] 24) = W0 at *
  have hc := specPkRight p.1 p.2.1 _ p.2.2 W0 (HV.out.below HB.out (Nat.le_refl _)) hn
  unfold pkV at hc
  rw [show pkB (p.1, p.2.1, p.2.2) = pkB p from rfl] at hc
  refine hc.mono ?_
  clear hc c00 c01 c02
  rintro e W ⟨rfl, hb⟩
  replace HX := Lib.hid (HX.out.next hb)
  replace HB := Lib.hid (HB.out.trans (hb.mono HB.out.size))
  clear hb W0
  cases hok : pkB p with
  | false =>
    have hr : R = ⟨#[]⟩ := by rw [HR.out]; exact if_neg (by rw [hok]; simp)
    subst hr
    clear HR hok
    go_wp2_with fail
    go_ret
    exact ⟨rfl, HB.out⟩
  | true =>
  have ok := (pkB_iff p).1 hok
  have hr : R = sealS (pkE p) := by rw [HR.out]; exact if_pos hok
  have HRR := Lib.hid hr
  have OK := Lib.hid ok
  have n1 := ok.num
  have n2 := ok.len
  have n3 := ok.2
  clear HR hr hok ok
  have z1 := putS_size p.1 (by omega) (by omega)
  have z2 := putS_size p.2.1.size (by omega) (by omega)
  have z3 := putS_size p.2.2.length (by omega) (by omega)
  have a1 : ¬ (9223372036854775807 < (putS p.1).size + ((putS p.2.1.size).size + p.2.1.size)) := by omega
  have a2 : ¬ (9223372036854775807 < (putS p.1).size + ((putS p.2.1.size).size + p.2.1.size) + (putS p.2.2.length).size) := by omega
  have N3 := Lib.hid n3
  have n4 : p.2.1.size ≤ 32 := by omega
  clear n3
  have HV1 := Lib.hid (HV.out.below HB.out (Nat.le_refl _))
  clear HV
  have c0 := HX.out.t0
  have c1 := HX.out.t1
  have c2 := HX.out.t2
  go_wp2_with fail
  go_region_held3 (fun w' => w'.cell? ⟨w.heap.size, 0, none⟩ = some (.int .i64 p.1) ∧ w'.cell? ⟨w.heap.size, 1, none⟩ = some (.string p.2.1) ∧ w'.cell? ⟨w.heap.size, 2, none⟩ = some (.slice a p.2.2.length c) ∧ Below W.heap.size W w')
    (first | (exact keepT HX.out (Below.refl _ _).drew) | (go_split_ands; exact keepT HX.out (below_more (by assumption) hbn)) | (go_split_ands; exact keepT HX.out (below_more (by assumption) (below_alloc1 _ _))))
    ((first | (go_at_call 57; go_split_ands; refine (specPut _ _ ?_ ?_).mono ?_; omega; omega; rintro e wn ⟨rfl, hbn⟩) | (go_at_call 58; go_split_ands; refine (specText_any p.2.1 _ ?_).mono ?_; omega; rintro e wn ⟨rfl, hbn⟩)))
  all_goals go_split_ands
  all_goals (
    have hbW : Below W.heap.size W wn := by assumption
    have HBW := Lib.hid hbW
    clear c0 c1 c2 z1 z2 z3 a1 a2
    try clear hbn
    have hc0 : putS p.1 ++ (putS p.2.1.size ++ p.2.1) ++ putS p.2.2.length = cat (pkTo p 0) := (pkTo_zero p).symm
    rw [hc0]
    clear hc0
    go_wp2_with fail
    go_loopw [3, 4] (fun x i wr => KbRelS p W x i wr) (fun _ i _ => p.2.2.length - (intOf i).toNat)
    case atStart => exact ⟨0, by omega, rfl, rfl, HBW.out⟩
    case round =>
      clear HBW hbW
      obtain ⟨k, hk, rfl, rfl, BB⟩ := hrel
      have x0 := (HX.out.next BB).t2
      by_cases hlt : k < p.2.2.length
      · obtain ⟨b, off, rfl, hbl, hcell⟩ := HV1.out.get (by omega)
        have r0 : wr.cell? ⟨b, off + k * 4, none⟩ = some (.int .i64 p.2.2[k].1) := by rw [BB.cell (p := ⟨b, off + k * 4, none⟩) hbl, hcell (k * 4) (by omega), stpCs_0 p.2.2 k hlt]
        have r1 : wr.cell? ⟨b, off + k * 4 + 1, none⟩ = some (.int .i64 p.2.2[k].2.1) := by rw [BB.cell (p := ⟨b, off + k * 4 + 1, none⟩) hbl, Nat.add_assoc, hcell (k * 4 + 1) (by omega), stpCs_1 p.2.2 k hlt]
        have r2 : wr.cell? ⟨b, off + k * 4 + 2, none⟩ = some (.int .i64 p.2.2[k].2.2.1) := by rw [BB.cell (p := ⟨b, off + k * 4 + 2, none⟩) hbl, Nat.add_assoc, hcell (k * 4 + 2) (by omega), stpCs_2 p.2.2 k hlt]
        have r3 : wr.cell? ⟨b, off + k * 4 + 3, none⟩ = some (.string p.2.2[k].2.2.2) := by rw [BB.cell (p := ⟨b, off + k * 4 + 3, none⟩) hbl, Nat.add_assoc, hcell (k * 4 + 3) (by omega), stpCs_3 p.2.2 k hlt]
        have e0 : (k : Int) < (p.2.2.length : Int) := by omega
        have e1 : (0 : Int) ≤ (k : Int) := by omega
        have hv := OK.out.steps _ (List.getElem_mem hlt)
        have HX2 := Lib.hid (pkTo_succ p k hlt)
        have z4 := pkTo_size OK.out (k + 1)
        have z5 : (cat (pkTo p (k + 1))).size = (cat (pkTo p k)).size + (stpTx p.2.2[k]).size := by rw [HX2.out, ByteArray.size_append]
        have z6 : (stpTx p.2.2[k]).size = (putS (stepS p.2.2[k].1 p.2.2[k].2.1 p.2.2[k].2.2.1 p.2.2[k].2.2.2).size).size + (stepS p.2.2[k].1 p.2.2[k].2.1 p.2.2[k].2.2.1 p.2.2[k].2.2.2).size := by unfold stpTx txS; rw [ByteArray.size_append]
        have a3 : ¬ (9223372036854775807 < (cat (pkTo p k)).size + ((putS (stepS p.2.2[k].1 p.2.2[k].2.1 p.2.2[k].2.2.1 p.2.2[k].2.2.2).size).size + (stepS p.2.2[k].1 p.2.2[k].2.1 p.2.2[k].2.2.1 p.2.2[k].2.2.2).size)) := by omega
        have HL6 := Lib.hid (fun w => specL06 p.2.2[k].1 p.2.2[k].2.1 p.2.2[k].2.2.1 p.2.2[k].2.2.2 w hv)
        have HTX := Lib.hid (fun w => specText_any (stepS p.2.2[k].1 p.2.2[k].2.1 p.2.2[k].2.2.1 p.2.2[k].2.2.2) w (by omega))
        have HST : Hid (stpTx p.2.2[k] = putS (stepS p.2.2[k].1 p.2.2[k].2.1 p.2.2[k].2.2.1 p.2.2[k].2.2.2).size ++ stepS p.2.2[k].1 p.2.2[k].2.1 p.2.2[k].2.2.1 p.2.2[k].2.2.2) := Lib.hid rfl
        have BX := Lib.hid BB
        clear hcell hv BB z4 z5 z6
        generalize p.2.2[k] = s at *
        generalize hsS : stepS s.1 s.2.1 s.2.2.1 s.2.2.2 = S at *
        clear hsS
        go_wp2_with fail
        refine (HL6.out _).mono ?_
        rintro e w5 ⟨rfl, hb5⟩
        have BX5 := Lib.hid (BX.out.trans (hb5.mono BX.out.size))
        clear hb5 HL6
        go_wp2_with fail
        refine (HTX.out _).mono ?_
        rintro e w6 ⟨rfl, hb6⟩
        have BX6 := Lib.hid (BX5.out.trans (hb6.mono BX5.out.size))
        clear hb6 HTX
        go_wp2_with fail
        go_roundw
        case rel => exact ⟨k + 1, by omega, by go_num, by rw [HX2.out, HST.out], BX6.out⟩
        case measure => simp [intOf]; omega
      · obtain rfl : k = p.2.2.length := by omega
        rw [pkTo_all]
        have z7 := pkE_size OK.out
        have HS := Lib.hid (fun w => specSeal_any (pkE p) w (by omega))
        have BX := Lib.hid BB
        clear BB
        generalize pkE p = E at *
        go_wp2_with fail
        refine (HS.out _).mono ?_
        rintro e w5 ⟨rfl, hb5⟩
        have BX5 := Lib.hid (HB.out.trans ((BX.out.trans (hb5.mono BX.out.size)).mono HB.out.size))
        clear hb5
        go_wp2_with fail
        go_ret
        exact ⟨by rw [HRR.out]; rfl, BX5.out⟩)

set_option maxRecDepth 100000 in
set_option maxHeartbeats 4000000 in
theorem implPkBytes (p : pkT) (v : Value) (w : World) (h : Rd w v p.2.2.length 4 (stpCs p.2.2)) (hn : p.2.2.length ≤ 1048576) :
    Calls Tryz.prog 13 #[pkV p.1 p.2.1 v] w fun e w' => e = .returned (.string (pkBytes p)) ∧ Below w.heap.size w w' := by
  obtain ⟨i0, hi, hz0, hz1, hz2⟩ := info_parts Tryz.info9
  obtain ⟨a, c, rfl, -⟩ := id h.2
  have HV := Lib.hid h
  clear h
  obtain ⟨R, hR⟩ : ∃ R, R = pkBytes p := ⟨_, rfl⟩
  rw [← hR]
  have HR := Lib.hid hR
  clear hR
  have HB := Lib.hid (below_alloc1 w (.cells #[.int .i64 p.1, .string p.2.1, .slice a p.2.2.length c] 24))
  have HX := Lib.hid (bx_new w 24 #[.int .i64 p.1, .string p.2.1, .slice a p.2.2.length c])
  have c00 := HX.out.t0
  have c01 := HX.out.t1
  have c02 := HX.out.t2
  unfold pkV
  go_enter Tryz.func13, Tryz.ntmps13
  go_wp2_with fail
  generalize w.alloc (.cells #[.int .i64 p.1, .string p.2.1, .slice a p.2.2.length c] 24) = W0 at *
  have hc := implPkRight p.1 p.2.1 _ p.2.2 W0 (HV.out.below HB.out (Nat.le_refl _)) hn
  unfold pkV at hc
  rw [show pkB (p.1, p.2.1, p.2.2) = pkB p from rfl] at hc
  refine hc.mono ?_
  clear hc c00 c01 c02
  rintro e W ⟨rfl, hb⟩
  replace HX := Lib.hid (HX.out.next hb)
  replace HB := Lib.hid (HB.out.trans (hb.mono HB.out.size))
  clear hb W0
  cases hok : pkB p with
  | false =>
    have hr : R = ⟨#[]⟩ := by rw [HR.out]; exact if_neg (by rw [hok]; simp)
    subst hr
    clear HR hok
    go_wp2_with fail
    go_ret
    exact ⟨rfl, HB.out⟩
  | true =>
  have ok := (pkB_iff p).1 hok
  have hr : R = sealS (pkE p) := by rw [HR.out]; exact if_pos hok
  have HRR := Lib.hid hr
  have OK := Lib.hid ok
  have n1 := ok.num
  have n2 := ok.len
  have n3 := ok.2
  clear HR hr hok ok
  have z1 := putS_size p.1 (by omega) (by omega)
  have z2 := putS_size p.2.1.size (by omega) (by omega)
  have z3 := putS_size p.2.2.length (by omega) (by omega)
  have a1 : ¬ (9223372036854775807 < (putS p.1).size + ((putS p.2.1.size).size + p.2.1.size)) := by omega
  have a2 : ¬ (9223372036854775807 < (putS p.1).size + ((putS p.2.1.size).size + p.2.1.size) + (putS p.2.2.length).size) := by omega
  have N3 := Lib.hid n3
  have n4 : p.2.1.size ≤ 32 := by omega
  clear n3
  have HV1 := Lib.hid (HV.out.below HB.out (Nat.le_refl _))
  clear HV
  have c0 := HX.out.t0
  have c1 := HX.out.t1
  have c2 := HX.out.t2
  go_wp2_with fail
  go_region_held3 (fun w' => w'.cell? ⟨w.heap.size, 0, none⟩ = some (.int .i64 p.1) ∧ w'.cell? ⟨w.heap.size, 1, none⟩ = some (.string p.2.1) ∧ w'.cell? ⟨w.heap.size, 2, none⟩ = some (.slice a p.2.2.length c) ∧ Below W.heap.size W w')
    (first | (exact keepT HX.out (Below.refl _ _).drew) | (go_split_ands; exact keepT HX.out (below_more (by assumption) hbn)) | (go_split_ands; exact keepT HX.out (below_more (by assumption) (below_alloc1 _ _))))
    ((first | (go_at_call 41; go_split_ands; refine (implPut _ _ ?_ ?_).mono ?_; omega; omega; rintro e wn ⟨rfl, hbn⟩) | (go_at_call 42; go_split_ands; refine (implText_any p.2.1 _ ?_).mono ?_; omega; rintro e wn ⟨rfl, hbn⟩)))
  all_goals go_split_ands
  all_goals (
    have hbW : Below W.heap.size W (wn.alloc (.cells #[.string (putS p.1), .string (putS p.2.1.size ++ p.2.1), .string (putS p.2.2.length)] 9)) := by assumption
    have hwn : W.heap.size ≤ wn.heap.size := by
      have h1 : Below W.heap.size W wn := by first | assumption | exact below_more (by assumption) hbn
      exact h1.size
    have G0 := Lib.hid (show Gr (wn.alloc (.cells #[.string (putS p.1), .string (putS p.2.1.size ++ p.2.1), .string (putS p.2.2.length)] 9)) W.heap.size 9 1 (.slice (some ⟨wn.heap.size, 0, none⟩) 3 3) 3 (strs (pkTo p 0)) from .inl ⟨by omega, World.ownsRow_lit wn #[.string (putS p.1), .string (putS p.2.1.size ++ p.2.1), .string (putS p.2.2.length)] 3 hwn (by decide) rfl⟩)
    have HBW := Lib.hid hbW
    have x0 := (HX.out.next hbW).t2
    clear c0 c1 c2 z1 z2 z3 a1 a2 hbW hwn
    go_wp2_with fail
    go_loopw [3, 23] (fun x i wr => KbRelI p W x i wr) (fun _ i _ => p.2.2.length - (intOf i).toNat)
    case atStart => exact ⟨0, by omega, rfl, G0.out, HBW.out⟩
    case round =>
      clear HBW G0 x0
      obtain ⟨k, hk, rfl, hg, BB⟩ := hrel
      obtain ⟨a3, c3, rfl⟩ := gr_form hg
      have HG := Lib.hid hg
      have hsz := BB.size
      clear hg
      by_cases hlt : k < p.2.2.length
      · obtain ⟨b, off, rfl, hbl, hcell⟩ := HV1.out.get (by omega)
        have r0 : wr.cell? ⟨b, off + k * 4, none⟩ = some (.int .i64 p.2.2[k].1) := by rw [BB.cell (p := ⟨b, off + k * 4, none⟩) hbl, hcell (k * 4) (by omega), stpCs_0 p.2.2 k hlt]
        have r1 : wr.cell? ⟨b, off + k * 4 + 1, none⟩ = some (.int .i64 p.2.2[k].2.1) := by rw [BB.cell (p := ⟨b, off + k * 4 + 1, none⟩) hbl, Nat.add_assoc, hcell (k * 4 + 1) (by omega), stpCs_1 p.2.2 k hlt]
        have r2 : wr.cell? ⟨b, off + k * 4 + 2, none⟩ = some (.int .i64 p.2.2[k].2.2.1) := by rw [BB.cell (p := ⟨b, off + k * 4 + 2, none⟩) hbl, Nat.add_assoc, hcell (k * 4 + 2) (by omega), stpCs_2 p.2.2 k hlt]
        have r3 : wr.cell? ⟨b, off + k * 4 + 3, none⟩ = some (.string p.2.2[k].2.2.2) := by rw [BB.cell (p := ⟨b, off + k * 4 + 3, none⟩) hbl, Nat.add_assoc, hcell (k * 4 + 3) (by omega), stpCs_3 p.2.2 k hlt]
        have e0 : (k : Int) < (p.2.2.length : Int) := by omega
        have e1 : (0 : Int) ≤ (k : Int) := by omega
        have hv := OK.out.steps _ (List.getElem_mem hlt)
        have HX2 := Lib.hid (pkTo_next p k hlt)
        have z6 := stpTx_size hv
        have z7 : (stpTx p.2.2[k]).size = (putS (stepS p.2.2[k].1 p.2.2[k].2.1 p.2.2[k].2.2.1 p.2.2[k].2.2.2).size).size + (stepS p.2.2[k].1 p.2.2[k].2.1 p.2.2[k].2.2.1 p.2.2[k].2.2.2).size := by unfold stpTx txS; rw [ByteArray.size_append]
        have hse : stepBs p.2.2[k].1 p.2.2[k].2.1 p.2.2[k].2.2.1 p.2.2[k].2.2.2 = stepS p.2.2[k].1 p.2.2[k].2.1 p.2.2[k].2.2.1 p.2.2[k].2.2.2 := by unfold stepBs; rw [if_pos hv]
        have HL6 := Lib.hid (fun w => implStepBs p.2.2[k].1 p.2.2[k].2.1 p.2.2[k].2.2.1 p.2.2[k].2.2.2 w)
        rw [hse] at HL6
        have HTX := Lib.hid (fun w => implText_any (stepS p.2.2[k].1 p.2.2[k].2.1 p.2.2[k].2.2.1 p.2.2[k].2.2.2) w (by omega))
        have HST : Hid (stpTx p.2.2[k] = putS (stepS p.2.2[k].1 p.2.2[k].2.1 p.2.2[k].2.2.1 p.2.2[k].2.2.2).size ++ stepS p.2.2[k].1 p.2.2[k].2.1 p.2.2[k].2.2.1 p.2.2[k].2.2.2) := Lib.hid rfl
        have hbl2 : ∀ b, blk (.slice a3 (3 + k) c3) (3 + k) = some b → W.heap.size ≤ b := fun b hb => (HG.out.own.blk b hb).1
        have HBL := Lib.hid hbl2
        have BX := Lib.hid BB
        clear hcell hv BB z6 z7 hse hbl2
        generalize p.2.2[k] = s at *
        generalize hsS : stepS s.1 s.2.1 s.2.2.1 s.2.2.2 = S at *
        clear hsS
        have XS := Lib.hid (bx_new wr 59 #[.int .i64 s.1, .int .i64 s.2.1, .int .i64 s.2.2.1, .string s.2.2.2])
        have q0 := XS.out.q0
        have q1 := XS.out.q1
        have q2 := XS.out.q2
        have q3 := XS.out.q3
        have b1 := below_alloc1 wr (.cells #[.int .i64 s.1, .int .i64 s.2.1, .int .i64 s.2.2.1, .string s.2.2.2] 59)
        replace HG := Lib.hid (HG.out.below b1 (Nat.le_refl _))
        replace BX := Lib.hid (BX.out.trans (b1.mono BX.out.size))
        clear b1
        go_wp2_with fail
        clear q0 q1 q2 q3 r0 r1 r2 r3
        generalize wr.alloc (.cells #[.int .i64 s.1, .int .i64 s.2.1, .int .i64 s.2.2.1, .string s.2.2.2] 59) = W4 at *
        refine (HL6.out _).mono ?_
        rintro e w5 ⟨rfl, hb5⟩
        replace HG := Lib.hid (HG.out.below hb5 (Nat.le_refl _))
        replace BX := Lib.hid (BX.out.trans (hb5.mono BX.out.size))
        clear hb5 HL6
        go_wp2_with fail
        refine (HTX.out _).mono ?_
        rintro e w6 ⟨rfl, hb6⟩
        replace HG := Lib.hid (HG.out.below hb6 (Nat.le_refl _))
        replace BX := Lib.hid (BX.out.trans (hb6.mono BX.out.size))
        clear hb6 HTX
        have hs6 := BX.out.size
        have hpl := pkTo_len p k (by omega)
        rw [← HST.out]
        generalize stpTx s = T at *
        go_wp2_with ((with_reducible show wpList _ _ _ (⟨some 32, _, _, _, _, _⟩ :: _) _ _); refine wpList_append_gr (lo := W.heap.size) (e := 9) (sz := 1) (v := .slice a3 (3 + k) c3) (n := 3 + k) (xs := strs (pkTo p k)) rfl (.tmp 27) (.tmp 31) 32 rfl i0 _ 16 Tryz.underlying32 hi hz0 hz1 hz2 rfl (by decide) rfl (by rw [strs_length]; omega) ?_ ⟨w6.heap.size, 0, none⟩ 1 1 rfl [.string T] (by decide) rfl ?_ (fun u hu => by obtain rfl := List.mem_singleton.1 hu; rfl) (by unfold maxLen; omega) (by omega) (by simp; omega) ?_)
        · exact HG.out.below (below_alloc1 w6 _) (Nat.le_refl _)
        · exact oneNew w6 _ 9
        · intro gg cc w8 hgn hgr hloc
          have hbw9 : Below W.heap.size w6 w8 := ((below_alloc1 w6 _).mono (by omega)).trans ((Below.refl _ _).grown hgr (by simp; omega) HBL.out)
          have G4 := Lib.hid hgn
          have BX4 := Lib.hid (BX.out.trans hbw9)
          clear hgn hgr hloc hbw9
          go_wp2_with fail
          go_roundw
          case rel =>
            have fin : KbRelI p W (.slice (some ⟨gg, 0, none⟩) (3 + k + 1) cc) (.int .i64 ((k : Int) + 1)) w8 := by
              refine ⟨k + 1, by omega, by go_num, ?_, BX4.out⟩
              rw [HX2.out, strs_app1]
              exact G4.out
            first | exact fin | ((repeat apply Exists.intro); exact ⟨fin, rfl⟩)
          case measure => simp [intOf]; omega
      · obtain rfl : k = p.2.2.length := by omega
        have z7 := pkE_size OK.out
        have hpl := pkTo_len p p.2.2.length (Nat.le_refl _)
        have HJ := Lib.hid (joined_cat (.slice a3 (3 + p.2.2.length) c3) (pkTo p p.2.2.length) wr (by rw [hpl]; exact HG.out.own.rd) (by omega) (by rw [pkTo_all]; omega))
        rw [pkTo_all] at HJ
        have HS := Lib.hid (fun w => implSeal_any (pkE p) w (by omega))
        have BX := Lib.hid BB
        clear BB HG
        generalize pkE p = E at *
        go_wp2_with fail
        refine HJ.out.mono ?_
        rintro e w5 ⟨rfl, hb5⟩
        have BX5 := Lib.hid (BX.out.trans (hb5.mono BX.out.size))
        clear hb5 HJ
        go_wp2_with fail
        refine (HS.out _).mono ?_
        rintro e w6 ⟨rfl, hb6⟩
        have BX6 := Lib.hid (HB.out.trans ((BX5.out.trans (hb6.mono BX5.out.size)).mono HB.out.size))
        clear hb6
        go_wp2_with fail
        go_ret
        exact ⟨by rw [HRR.out]; rfl, BX6.out⟩)
end Go.Proofs.YtcpblmpapkhppaaGreatDoor
