/- The law FnStep. -/
import Derived.Test.YthkbllkhomjmbaaDoorM1
import Derived.Test.YthkbllkhomjmbaaDoorBDraw5
import Derived.Test.YthkbllkhomjmbaaDoorM3
import Derived.Test.YthkbllkhomjmbaaDoorBICode
import Derived.Test.YthkbllkhomjmbaaDoorBIRead
namespace Go.Proofs.YthkbllkhomjmbaaDoor
open Go.RowKit

theorem keepSR {W W' : World} {n m : Nat} {T U : TypeId} {a b c d e f g h i : Value} (X : Bx W n T #[a, b, c, d]) (Y : Bx W m U #[e, f, g, h, i]) (k : Below W.heap.size W W') :
    W'.cell? ⟨n, 0, none⟩ = some a ∧ W'.cell? ⟨n, 1, none⟩ = some b ∧ W'.cell? ⟨n, 2, none⟩ = some c ∧ W'.cell? ⟨n, 3, none⟩ = some d ∧
    W'.cell? ⟨m, 0, none⟩ = some e ∧ W'.cell? ⟨m, 1, none⟩ = some f ∧ W'.cell? ⟨m, 2, none⟩ = some g ∧ W'.cell? ⟨m, 3, none⟩ = some h ∧ W'.cell? ⟨m, 4, none⟩ = some i ∧ Below W.heap.size W W' :=
  ⟨(X.next k).q0, (X.next k).q1, (X.next k).q2, (X.next k).q3, (Y.next k).s0.1, (Y.next k).s0.2.1, (Y.next k).s0.2.2.1, (Y.next k).s0.2.2.2.1, (Y.next k).s0.2.2.2.2, k⟩
def FsCut (W : World) (c : Value) (wx : World) : Prop := c = .bool false ∧ Below W.heap.size W wx
def FsRel (n : Nat) (W : World) (i : Value) (wr : World) : Prop := ∃ k : Nat, k ≤ n ∧ i = .int .i64 (k : Int) ∧ Below W.heap.size W wr

set_option maxRecDepth 100000 in
set_option maxHeartbeats 8000000 in
theorem stepLaw_mid (a0 a1 : Option Addr) (len0 cap0 len1 cap1 : Nat) (w : World) (hB0 : Bytes w a0 len0) (hB1 : Bytes w a1 len1) (h0 : len0 ≤ 1048576) (h1 : len1 ≤ 1048576) (hL : Laid w) :
    Calls Tryd.prog 5 #[.slice a0 len0 cap0, .slice a1 len1 cap1] w fun e w' => e = .returned (.bool true) ∧ Below w.heap.size w w' := by
  have B0 := Lib.hid hB0
  have B1 := Lib.hid hB1
  have HL := Lib.hid hL
  clear hB0 hB1 hL
  have d0 : decide ((1048576 : Int) < (len0 : Int)) = false := decide_eq_false (by omega)
  have d1 : decide ((1048576 : Int) < (len1 : Int)) = false := decide_eq_false (by omega)
  go_enter Tryd.func5, Tryd.ntmps5
  go_wp2_with fail
  refine (drawRight_any a0 len0 cap0 w B0.out h0).mono ?_
  rintro e w1 ⟨x, n, hx, rfl, hb⟩
  unfold stpV
  have XB := Lib.hid (bx_new w1 41 #[.int .i64 x.1, .int .i64 x.2.1, .int .i64 x.2.2.1, .string x.2.2.2])
  have BW := Lib.hid (below_more hb (below_alloc1 w1 (.cells #[.int .i64 x.1, .int .i64 x.2.1, .int .i64 x.2.2.1, .string x.2.2.2] 41)))
  clear hb B0
  go_wp2_with fail
  generalize w1.alloc (.cells #[.int .i64 x.1, .int .i64 x.2.1, .int .i64 x.2.2.1, .string x.2.2.2] 41) = W1 at *
  generalize w1.heap.size = nx at *
  have HIB := Lib.hid (fun w => implStepBs x.1 x.2.1 x.2.2.1 x.2.2.2 w)
  have HSB := Lib.hid (fun w => specStepBs x.1 x.2.1 x.2.2.1 x.2.2.2 w)
  have HTS := Lib.hid (stepBs_size x.1 x.2.1 x.2.2.1 x.2.2.2)
  obtain ⟨T, hT⟩ : ∃ T, T = stepBs x.1 x.2.1 x.2.2.1 x.2.2.2 := ⟨_, rfl⟩
  rw [← hT] at HIB HSB HTS
  have HT := Lib.hid hT
  clear hT
  refine (HIB.out _).mono ?_
  rintro e w2 ⟨rfl, hb⟩
  replace XB := Lib.hid (XB.out.next hb)
  replace BW := Lib.hid (below_more BW.out hb)
  clear hb HIB
  go_wp2_with fail
  refine (drawRead_any a1 len1 cap1 w2 (B1.out.below BW.out) h1).mono ?_
  rintro e w3 ⟨u, hu, rfl, hb⟩
  replace XB := Lib.hid (XB.out.next hb)
  replace BW := Lib.hid (below_more BW.out hb)
  clear hb
  go_wp2_with fail
  have hum : u.size ≤ maxLen := by unfold maxLen; omega
  have HIR := Lib.hid (fun w hl => implStepRead u w hum hl)
  have HSR := Lib.hid (fun w => specStepRead u w hum)
  obtain ⟨R, hR⟩ : ∃ R, R = rdR u := ⟨_, rfl⟩
  have HOK := Lib.hid (fun h : R.2 = 0 => (show stepBs R.1.1 R.1.2.1 R.1.2.2.1 R.1.2.2.2 = u by rw [hR] at h ⊢; exact rdR_ok h))
  rw [← hR] at HIR HSR
  clear hR hum
  obtain ⟨y, c⟩ := R
  unfold soV at HIR HSR
  dsimp only at HIR HSR HOK
  refine (HIR.out _ (HL.out.below BW.out)).mono ?_
  rintro e w4 ⟨rfl, hb⟩
  have hbb := below_more hb (below_alloc1 w4 (.cells #[.int .i64 y.1, .int .i64 y.2.1, .int .i64 y.2.2.1, .string y.2.2.2, .int .i64 c] 46))
  have YB := Lib.hid (bx_new w4 46 #[.int .i64 y.1, .int .i64 y.2.1, .int .i64 y.2.2.1, .string y.2.2.2, .int .i64 c])
  replace XB := Lib.hid (XB.out.next hbb)
  replace BW := Lib.hid (below_more BW.out hbb)
  clear hb hbb HIR
  go_wp2_with fail
  generalize w4.alloc (.cells #[.int .i64 y.1, .int .i64 y.2.1, .int .i64 y.2.2.1, .string y.2.2.2, .int .i64 c] 46) = W4 at *
  generalize w4.heap.size = ny at *
  refine (drawCode_any a1 len1 cap1 W4 (B1.out.below BW.out) h1).mono ?_
  rintro e w5 ⟨l, v, m, hlen, hsm, rfl, hg, hb⟩
  obtain ⟨a5, c5, rfl⟩ := gr_form hg
  have hcap := hg.cap
  have RL := Lib.hid hg.own.rd
  replace XB := Lib.hid (XB.out.next hb)
  replace YB := Lib.hid (YB.out.next hb)
  replace BW := Lib.hid (below_more BW.out hb)
  clear hb hg hsm B1
  go_wp2_with fail
  have HSC := Lib.hid (fun w h => specCode (.slice a5 l.length c5) l m w h (by omega))
  have HIC := Lib.hid (fun w h => implCode (.slice a5 l.length c5) l m w h (by omega))
  have HSW := Lib.hid (fun w h => specWrites (.slice a5 l.length c5) l w h (by omega))
  have HIW := Lib.hid (fun w h => implWrites (.slice a5 l.length c5) l w h (by omega))
  have HQ5 := Lib.hid (fun i (h : i < (writesL l).length) => writesL_at l i h)
  have HQL := Lib.hid (writesL_len l)
  have HCD := Lib.hid (fun h : codeS l m = 0 => codeS_drop h)
  obtain ⟨C, hC⟩ : ∃ C, C = codeS l m := ⟨_, rfl⟩
  obtain ⟨Q, hQ⟩ : ∃ Q, Q = writesL l := ⟨_, rfl⟩
  rw [← hC] at HSC HIC HCD
  rw [← hQ] at HSW HIW HQ5 HQL
  clear hC hQ
  refine (HIC.out _ RL.out).mono ?_
  rintro e w6 ⟨rfl, hb⟩
  replace XB := Lib.hid (XB.out.next hb)
  replace YB := Lib.hid (YB.out.next hb)
  replace RL := Lib.hid (RL.out.below hb (Nat.le_refl _))
  replace BW := Lib.hid (below_more BW.out hb)
  clear hb HIC
  go_wp2_with fail
  refine (HIW.out _ RL.out).mono ?_
  rintro e W ⟨v7, rfl, hg7, hb⟩
  obtain ⟨a7, c7, rfl⟩ := gr_form hg7
  have RW := Lib.hid hg7.own.rd
  replace XB := Lib.hid (XB.out.next hb)
  replace YB := Lib.hid (YB.out.next hb)
  replace RL := Lib.hid (RL.out.below hb (Nat.le_refl _))
  replace BW := Lib.hid (below_more BW.out hb)
  clear hb hg7 HIW
  have HRT := Lib.hid (fun w => implRight x.1 x.2.1 x.2.2.1 n x.2.2.2 w)
  have HST := Lib.hid (fun w => specRightS x.1 x.2.1 x.2.2.1 n x.2.2.2 w)
  have HR8 := Lib.hid (fun w => implRight x.1 x.2.1 x.2.2.1 8 x.2.2.2 w)
  have HMO := Lib.hid (fun h : stepB n x.1 x.2.1 x.2.2.1 x.2.2.2 = true => stepB_mono h)
  obtain ⟨B, hBB⟩ : ∃ B, B = stepB n x.1 x.2.1 x.2.2.1 x.2.2.2 := ⟨_, rfl⟩
  rw [← hBB] at HRT HST HMO
  clear hBB
  go_wp2_with fail
  obtain ⟨x0, x1, x2, x3, y0, y1, y2, y3, y4, -⟩ := keepSR XB.out YB.out (Below.refl _ _)
  go_cut [77] (fun c wx => FsCut W c wx)
  case first =>
    go_region_held3 (fun w' => w'.cell? ⟨nx, 0, none⟩ = some (.int .i64 x.1) ∧ w'.cell? ⟨nx, 1, none⟩ = some (.int .i64 x.2.1) ∧ w'.cell? ⟨nx, 2, none⟩ = some (.int .i64 x.2.2.1) ∧ w'.cell? ⟨nx, 3, none⟩ = some (.string x.2.2.2) ∧ w'.cell? ⟨ny, 0, none⟩ = some (.int .i64 y.1) ∧ w'.cell? ⟨ny, 1, none⟩ = some (.int .i64 y.2.1) ∧ w'.cell? ⟨ny, 2, none⟩ = some (.int .i64 y.2.2.1) ∧ w'.cell? ⟨ny, 3, none⟩ = some (.string y.2.2.2) ∧ w'.cell? ⟨ny, 4, none⟩ = some (.int .i64 c) ∧ Below W.heap.size W w')
      (first | (exact keepSR XB.out YB.out (Below.refl _ _).drew) | (go_split_ands; exact keepSR XB.out YB.out (below_more (by assumption) hbn)))
      ((first | (go_at_call 35; refine (HSB.out _).mono ?_; rintro e wn ⟨rfl, hbn⟩) | (go_at_call 36; refine (HSR.out _).mono ?_; rintro e wn ⟨rfl, hbn⟩) | (go_at_call 37; refine (HRT.out _).mono ?_; rintro e wn ⟨rfl, hbn⟩) | (go_at_call 38; refine (HST.out _).mono ?_; rintro e wn ⟨rfl, hbn⟩) | (go_at_call 39; go_split_ands; refine (HSC.out _ (RL.out.below (B := W.heap.size) (by assumption) (Nat.le_refl _))).mono ?_; rintro e wn ⟨rfl, hbn⟩) | (go_at_call 40; go_split_ands; refine (HSW.out _ (RL.out.below (B := W.heap.size) (by assumption) (Nat.le_refl _))).mono ?_; rintro e wn ⟨v9, rfl, hg9, hbn⟩; obtain ⟨a9, c9, rfl⟩ := gr_form hg9; clear hg9)))
    all_goals (go_split_ands; have hbel : Below W.heap.size W wn := (by assumption); go_wp2_with fail; go_meet; case rel => exact ⟨rfl, hbel⟩)
  case rest =>
    obtain ⟨rfl, hb⟩ := hcut
    clear x0 x1 x2 x3 y0 y1 y2 y3 y4
    replace XB := Lib.hid (XB.out.next hb)
    replace YB := Lib.hid (YB.out.next hb)
    replace RL := Lib.hid (RL.out.below hb (Nat.le_refl _))
    replace RW := Lib.hid (RW.out.below hb (Nat.le_refl _))
    replace BW := Lib.hid (below_more BW.out hb)
    obtain ⟨V, rfl⟩ : ∃ V, V = wc := ⟨_, rfl⟩
    have HLV := Lib.hid (HL.out.below BW.out)
    clear hb HSB HSR HST HSC
    obtain ⟨x0, x1, x2, x3, y0, y1, y2, y3, y4, -⟩ := keepSR XB.out YB.out (Below.refl _ _)
    go_wp2_with fail
    go_cut [98] (fun c wx => FsCut V c wx)
    case first =>
      have HTC : T = ⟨#[]⟩ ∨ (T.toList.isEmpty = false ∧ ∀ w, Laid w → Calls Tryd.prog 31 #[.string T] w fun e w' => e = .returned (.agg #[.int .i64 x.1, .int .i64 x.2.1, .int .i64 x.2.2.1, .string x.2.2.2, .int .i64 0]) ∧ Below w.heap.size w w') := by
        by_cases he : T = ⟨#[]⟩
        · exact .inl he
        · right
          have hne : stepBs x.1 x.2.1 x.2.2.1 x.2.2.2 ≠ ⟨#[]⟩ := by rw [← HT.out]; exact he
          obtain ⟨f1, f2⟩ := stepBs_full hne
          refine ⟨?_, fun w hl => ?_⟩
          · cases hq : T.toList.isEmpty with
            | false => rfl
            | true => exact absurd (ByteArray.ext (by simpa [ByteArray.toList_eq] using hq)) he
          · have h9 := implStepRead T w (by have := HTS.out; unfold maxLen; omega) hl
            rw [HT.out, f2, rdR_back f1] at h9
            rw [HT.out, f2]
            exact h9
      by_cases hc : c = 0
      · subst hc
        have HYB := Lib.hid (fun w => implStepBs y.1 y.2.1 y.2.2.1 y.2.2.2 w)
        rw [HOK.out rfl] at HYB
        clear HOK
        rcases HTC with rfl | ⟨dT, hTR⟩
        · clear HT HTS
          refine wp_region_held_drew (S := (fun w' => w'.cell? ⟨nx, 0, none⟩ = some (.int .i64 x.1) ∧ w'.cell? ⟨nx, 1, none⟩ = some (.int .i64 x.2.1) ∧ w'.cell? ⟨nx, 2, none⟩ = some (.int .i64 x.2.2.1) ∧ w'.cell? ⟨nx, 3, none⟩ = some (.string x.2.2.2) ∧ w'.cell? ⟨ny, 0, none⟩ = some (.int .i64 y.1) ∧ w'.cell? ⟨ny, 1, none⟩ = some (.int .i64 y.2.1) ∧ w'.cell? ⟨ny, 2, none⟩ = some (.int .i64 y.2.2.1) ∧ w'.cell? ⟨ny, 3, none⟩ = some (.string y.2.2.2) ∧ w'.cell? ⟨ny, 4, none⟩ = some (.int .i64 0) ∧ Below V.heap.size V w')) (by kernel_rfl) (keepSR XB.out YB.out (Below.refl _ _).drew) (fun hHeld => ?_)
          refine wpAnyH_take (i := 0) (oi := ⟨some 78, _, _, _, _, _⟩) (v := ?_) rfl (by kernel_rfl) (by kernel_rfl) (by kernel_rfl) (fun _ _ _ h => h) (Or.inl ⟨by rfl, ?_⟩) (by assumption) ?_
          rotate_left
          · intro w' hSw
            (try dsimp only at hSw)
            go_simp
            try with_reducible rfl
          (try simp only [Act.put, List.setIfInBounds_toArray, List.set_cons_zero, List.set_cons_succ])
          refine wpAnyH_take (i := 1) (oi := ⟨some 79, _, _, _, _, _⟩) (v := ?_) rfl (by kernel_rfl) (by kernel_rfl) (by kernel_rfl) (fun _ _ _ h => h) (Or.inl ⟨by rfl, ?_⟩) (by assumption) ?_
          rotate_left
          · intro w' hSw
            (try dsimp only at hSw)
            go_simp
            try with_reducible rfl
          (try simp only [Act.put, List.setIfInBounds_toArray, List.set_cons_zero, List.set_cons_succ])
          refine wpAnyH_take (i := 2) (oi := ⟨some 80, _, _, _, _, _⟩) (v := ?_) rfl (by kernel_rfl) (by kernel_rfl) (by kernel_rfl) (fun _ _ _ h => h) (Or.inl ⟨by rfl, ?_⟩) (by assumption) ?_
          rotate_left
          · intro w' hSw
            (try dsimp only at hSw)
            go_simp
            try with_reducible rfl
          (try simp only [Act.put, List.setIfInBounds_toArray, List.set_cons_zero, List.set_cons_succ])
          refine wpAnyH_take (i := 3) (oi := ⟨some 81, _, _, _, _, _⟩) (v := ?_) rfl (by kernel_rfl) (by kernel_rfl) (by kernel_rfl) (fun _ _ _ h => h) (Or.inl ⟨by rfl, ?_⟩) (by assumption) ?_
          rotate_left
          · intro w' hSw
            (try dsimp only at hSw)
            go_simp
            try with_reducible rfl
          (try simp only [Act.put, List.setIfInBounds_toArray, List.set_cons_zero, List.set_cons_succ])
          refine wpAnyH_take (i := 4) (oi := ⟨some 82, _, _, _, _, _⟩) (v := ?_) rfl (by kernel_rfl) (by kernel_rfl) (by kernel_rfl) (fun _ _ _ h => h) (Or.inl ⟨by rfl, ?_⟩) (by assumption) ?_
          rotate_left
          · intro w' hSw
            (try dsimp only at hSw)
            go_simp
            try with_reducible rfl
          (try simp only [Act.put, List.setIfInBounds_toArray, List.set_cons_zero, List.set_cons_succ])
          refine wpAnyH_take (i := 5) (oi := ⟨some 83, _, _, _, _, _⟩) (v := ?_) rfl (by kernel_rfl) (by kernel_rfl) (by kernel_rfl) (fun _ _ _ h => h) (Or.inl ⟨by rfl, ?_⟩) (by assumption) ?_
          rotate_left
          · intro w' hSw
            (try dsimp only at hSw)
            go_simp
            try with_reducible rfl
          (try simp only [Act.put, List.setIfInBounds_toArray, List.set_cons_zero, List.set_cons_succ])
          refine wpAnyH_take (i := 7) (oi := ⟨some 85, _, _, _, _, _⟩) (v := ?_) rfl (by kernel_rfl) (by kernel_rfl) (by kernel_rfl) (fun _ _ _ h => h) (Or.inl ⟨by rfl, ?_⟩) (by assumption) ?_
          rotate_left
          · intro w' hSw
            (try dsimp only at hSw)
            go_simp
            try with_reducible rfl
          (try simp only [Act.put, List.setIfInBounds_toArray, List.set_cons_zero, List.set_cons_succ])
          refine wpAnyH_ready (rs := [6]) (by kernel_rfl) (by simp) ?_
          refine AllReadyH.cons (o := ⟨some 84, _, _, _, _, _⟩) rfl (fun K hK => ?_) AllReadyH.nil
          have HBn' := hHeld
          clear hHeld
          go_simp
          refine (HYB.out _).mono ?_
          rintro e wn ⟨rfl, hbn⟩
          (try dsimp only at HBn')
          have HBn := Lib.hid (below_more (HBn'.2.2.2.2.2.2.2.2.2) hbn)
          clear HBn' hbn
          refine hK.out _ _ (keepSR XB.out YB.out HBn.out) (fun hHeld => ?_)
          clear hK K
          (try simp only [Act.put, List.setIfInBounds_toArray, List.set_cons_zero, List.set_cons_succ])
          refine wpAnyH_take (i := 8) (oi := ⟨some 86, _, _, _, _, _⟩) (v := ?_) rfl (by kernel_rfl) (by kernel_rfl) (by kernel_rfl) (fun _ _ _ h => h) (Or.inl ⟨by rfl, ?_⟩) (by assumption) ?_
          rotate_left
          · intro w' hSw
            (try dsimp only at hSw)
            go_simp
            try with_reducible rfl
          (try simp only [Act.put, List.setIfInBounds_toArray, List.set_cons_zero, List.set_cons_succ])
          refine wpAnyH_take (i := 9) (oi := ⟨some 87, _, _, _, _, _⟩) (v := ?_) rfl (by kernel_rfl) (by kernel_rfl) (by kernel_rfl) (fun _ _ _ h => h) (Or.inl ⟨by rfl, ?_⟩) (by assumption) ?_
          rotate_left
          · intro w' hSw
            (try dsimp only at hSw)
            go_simp
            try with_reducible rfl
          (try simp only [Act.put, List.setIfInBounds_toArray, List.set_cons_zero, List.set_cons_succ])
          refine wpAnyH_take (i := 10) (oi := ⟨some 88, _, _, _, _, _⟩) (v := ?_) rfl (by kernel_rfl) (by kernel_rfl) (by kernel_rfl) (fun _ _ _ h => h) (Or.inl ⟨by rfl, ?_⟩) (by assumption) ?_
          rotate_left
          · intro w' hSw
            (try dsimp only at hSw)
            go_simp
            try with_reducible rfl
          (try simp only [Act.put, List.setIfInBounds_toArray, List.set_cons_zero, List.set_cons_succ])
          refine wpAnyH_take (i := 11) (oi := ⟨some 89, _, _, _, _, _⟩) (v := ?_) rfl (by kernel_rfl) (by kernel_rfl) (by kernel_rfl) (fun _ _ _ h => h) (Or.inl ⟨by rfl, ?_⟩) (by assumption) ?_
          rotate_left
          · intro w' hSw
            (try dsimp only at hSw)
            go_simp
            try with_reducible rfl
          (try simp only [Act.put, List.setIfInBounds_toArray, List.set_cons_zero, List.set_cons_succ])
          refine wpAnyH_take (i := 12) (oi := ⟨some 90, _, _, _, _, _⟩) (v := ?_) rfl (by kernel_rfl) (by kernel_rfl) (by kernel_rfl) (fun _ _ _ h => h) (Or.inl ⟨by rfl, ?_⟩) (by assumption) ?_
          rotate_left
          · intro w' hSw
            (try dsimp only at hSw)
            go_simp
            try with_reducible rfl
          (try simp only [Act.put, List.setIfInBounds_toArray, List.set_cons_zero, List.set_cons_succ])
          refine wpAnyH_take (i := 13) (oi := ⟨some 91, _, _, _, _, _⟩) (v := ?_) rfl (by kernel_rfl) (by kernel_rfl) (by kernel_rfl) (fun _ _ _ h => h) (Or.inl ⟨by rfl, ?_⟩) (by assumption) ?_
          rotate_left
          · intro w' hSw
            (try dsimp only at hSw)
            go_simp
            try with_reducible rfl
          (try simp only [Act.put, List.setIfInBounds_toArray, List.set_cons_zero, List.set_cons_succ])
          refine wpAnyH_take (i := 14) (oi := ⟨some 92, _, _, _, _, _⟩) (v := undef) rfl (by kernel_rfl) (by kernel_rfl) (by kernel_rfl) (fun _ _ _ h => h) (Or.inr ⟨by rfl, rfl⟩) (by assumption) ?_
          (try simp only [Act.put, List.setIfInBounds_toArray, List.set_cons_zero, List.set_cons_succ])
          refine wpAnyH_take (i := 15) (oi := ⟨some 93, _, _, _, _, _⟩) (v := undef) rfl (by kernel_rfl) (by kernel_rfl) (by kernel_rfl) (fun _ _ _ h => h) (Or.inr ⟨by rfl, rfl⟩) (by assumption) ?_
          (try simp only [Act.put, List.setIfInBounds_toArray, List.set_cons_zero, List.set_cons_succ])
          refine wpAnyH_take (i := 16) (oi := ⟨some 94, _, _, _, _, _⟩) (v := undef) rfl (by kernel_rfl) (by kernel_rfl) (by kernel_rfl) (fun _ _ _ h => h) (Or.inr ⟨by rfl, rfl⟩) (by assumption) ?_
          (try simp only [Act.put, List.setIfInBounds_toArray, List.set_cons_zero, List.set_cons_succ])
          refine wpAnyH_take (i := 17) (oi := ⟨some 95, _, _, _, _, _⟩) (v := undef) rfl (by kernel_rfl) (by kernel_rfl) (by kernel_rfl) (fun _ _ _ h => h) (Or.inr ⟨by rfl, rfl⟩) (by assumption) ?_
          (try simp only [Act.put, List.setIfInBounds_toArray, List.set_cons_zero, List.set_cons_succ])
          refine wpAnyH_take (i := 18) (oi := ⟨some 96, _, _, _, _, _⟩) (v := undef) rfl (by kernel_rfl) (by kernel_rfl) (by kernel_rfl) (fun _ _ _ h => h) (Or.inr ⟨by rfl, rfl⟩) (by assumption) ?_
          (try simp only [Act.put, List.setIfInBounds_toArray, List.set_cons_zero, List.set_cons_succ])
          refine wpAnyH_take (i := 19) (oi := ⟨some 97, _, _, _, _, _⟩) (v := ?_) rfl (by kernel_rfl) (by kernel_rfl) (by kernel_rfl) (fun _ _ _ h => h) (Or.inl ⟨by rfl, ?_⟩) (by assumption) ?_
          rotate_left
          · intro w' hSw
            (try dsimp only at hSw)
            go_simp
            try with_reducible rfl
          (try simp only [Act.put, List.setIfInBounds_toArray, List.set_cons_zero, List.set_cons_succ])
          refine wpAnyH_take (i := 20) (oi := ⟨some 98, _, _, _, _, _⟩) (v := ?_) rfl (by kernel_rfl) (by kernel_rfl) (by kernel_rfl) (fun _ _ _ h => h) (Or.inl ⟨by rfl, ?_⟩) (by assumption) ?_
          rotate_left
          · intro w' hSw
            (try dsimp only at hSw)
            go_simp
            try with_reducible rfl
          (try simp only [Act.put, List.setIfInBounds_toArray, List.set_cons_zero, List.set_cons_succ])
          refine wpAnyH_done (by kernel_rfl) ?_ _
          go_wp2_with fail
          go_meet
          case rel => exact ⟨rfl, HBn.out⟩
        · have HTR := Lib.hid hTR
          clear hTR HT HTS
          refine wp_region_held_drew (S := (fun w' => w'.cell? ⟨nx, 0, none⟩ = some (.int .i64 x.1) ∧ w'.cell? ⟨nx, 1, none⟩ = some (.int .i64 x.2.1) ∧ w'.cell? ⟨nx, 2, none⟩ = some (.int .i64 x.2.2.1) ∧ w'.cell? ⟨nx, 3, none⟩ = some (.string x.2.2.2) ∧ w'.cell? ⟨ny, 0, none⟩ = some (.int .i64 y.1) ∧ w'.cell? ⟨ny, 1, none⟩ = some (.int .i64 y.2.1) ∧ w'.cell? ⟨ny, 2, none⟩ = some (.int .i64 y.2.2.1) ∧ w'.cell? ⟨ny, 3, none⟩ = some (.string y.2.2.2) ∧ w'.cell? ⟨ny, 4, none⟩ = some (.int .i64 0) ∧ Below V.heap.size V w')) (by kernel_rfl) (keepSR XB.out YB.out (Below.refl _ _).drew) (fun hHeld => ?_)
          refine wpAnyH_take (i := 0) (oi := ⟨some 78, _, _, _, _, _⟩) (v := ?_) rfl (by kernel_rfl) (by kernel_rfl) (by kernel_rfl) (fun _ _ _ h => h) (Or.inl ⟨by rfl, ?_⟩) (by assumption) ?_
          rotate_left
          · intro w' hSw
            (try dsimp only at hSw)
            go_simp
            try with_reducible rfl
          (try simp only [Act.put, List.setIfInBounds_toArray, List.set_cons_zero, List.set_cons_succ])
          refine wpAnyH_take (i := 1) (oi := ⟨some 79, _, _, _, _, _⟩) (v := ?_) rfl (by kernel_rfl) (by kernel_rfl) (by kernel_rfl) (fun _ _ _ h => h) (Or.inl ⟨by rfl, ?_⟩) (by assumption) ?_
          rotate_left
          · intro w' hSw
            (try dsimp only at hSw)
            go_simp
            try with_reducible rfl
          (try simp only [Act.put, List.setIfInBounds_toArray, List.set_cons_zero, List.set_cons_succ])
          refine wpAnyH_take (i := 2) (oi := ⟨some 80, _, _, _, _, _⟩) (v := ?_) rfl (by kernel_rfl) (by kernel_rfl) (by kernel_rfl) (fun _ _ _ h => h) (Or.inl ⟨by rfl, ?_⟩) (by assumption) ?_
          rotate_left
          · intro w' hSw
            (try dsimp only at hSw)
            go_simp
            try with_reducible rfl
          (try simp only [Act.put, List.setIfInBounds_toArray, List.set_cons_zero, List.set_cons_succ])
          refine wpAnyH_take (i := 3) (oi := ⟨some 81, _, _, _, _, _⟩) (v := ?_) rfl (by kernel_rfl) (by kernel_rfl) (by kernel_rfl) (fun _ _ _ h => h) (Or.inl ⟨by rfl, ?_⟩) (by assumption) ?_
          rotate_left
          · intro w' hSw
            (try dsimp only at hSw)
            go_simp
            try with_reducible rfl
          (try simp only [Act.put, List.setIfInBounds_toArray, List.set_cons_zero, List.set_cons_succ])
          refine wpAnyH_take (i := 4) (oi := ⟨some 82, _, _, _, _, _⟩) (v := ?_) rfl (by kernel_rfl) (by kernel_rfl) (by kernel_rfl) (fun _ _ _ h => h) (Or.inl ⟨by rfl, ?_⟩) (by assumption) ?_
          rotate_left
          · intro w' hSw
            (try dsimp only at hSw)
            go_simp
            try with_reducible rfl
          (try simp only [Act.put, List.setIfInBounds_toArray, List.set_cons_zero, List.set_cons_succ])
          refine wpAnyH_take (i := 5) (oi := ⟨some 83, _, _, _, _, _⟩) (v := ?_) rfl (by kernel_rfl) (by kernel_rfl) (by kernel_rfl) (fun _ _ _ h => h) (Or.inl ⟨by rfl, ?_⟩) (by assumption) ?_
          rotate_left
          · intro w' hSw
            (try dsimp only at hSw)
            go_simp
            try with_reducible rfl
          (try simp only [Act.put, List.setIfInBounds_toArray, List.set_cons_zero, List.set_cons_succ])
          refine wpAnyH_take (i := 7) (oi := ⟨some 85, _, _, _, _, _⟩) (v := ?_) rfl (by kernel_rfl) (by kernel_rfl) (by kernel_rfl) (fun _ _ _ h => h) (Or.inl ⟨by rfl, ?_⟩) (by assumption) ?_
          rotate_left
          · intro w' hSw
            (try dsimp only at hSw)
            go_simp
            try with_reducible rfl
          (try simp only [Act.put, List.setIfInBounds_toArray, List.set_cons_zero, List.set_cons_succ])
          refine wpAnyH_ready (rs := [6]) (by kernel_rfl) (by simp) ?_
          refine AllReadyH.cons (o := ⟨some 84, _, _, _, _, _⟩) rfl (fun K hK => ?_) AllReadyH.nil
          have HBn' := hHeld
          clear hHeld
          go_simp
          refine (HYB.out _).mono ?_
          rintro e wn ⟨rfl, hbn⟩
          (try dsimp only at HBn')
          have HBn := Lib.hid (below_more (HBn'.2.2.2.2.2.2.2.2.2) hbn)
          clear HBn' hbn
          refine hK.out _ _ (keepSR XB.out YB.out HBn.out) (fun hHeld => ?_)
          clear hK K
          (try simp only [Act.put, List.setIfInBounds_toArray, List.set_cons_zero, List.set_cons_succ])
          refine wpAnyH_take (i := 8) (oi := ⟨some 86, _, _, _, _, _⟩) (v := ?_) rfl (by kernel_rfl) (by kernel_rfl) (by kernel_rfl) (fun _ _ _ h => h) (Or.inl ⟨by rfl, ?_⟩) (by assumption) ?_
          rotate_left
          · intro w' hSw
            (try dsimp only at hSw)
            go_simp
            try with_reducible rfl
          (try simp only [Act.put, List.setIfInBounds_toArray, List.set_cons_zero, List.set_cons_succ])
          refine wpAnyH_take (i := 9) (oi := ⟨some 87, _, _, _, _, _⟩) (v := ?_) rfl (by kernel_rfl) (by kernel_rfl) (by kernel_rfl) (fun _ _ _ h => h) (Or.inl ⟨by rfl, ?_⟩) (by assumption) ?_
          rotate_left
          · intro w' hSw
            (try dsimp only at hSw)
            go_simp
            try with_reducible rfl
          (try simp only [Act.put, List.setIfInBounds_toArray, List.set_cons_zero, List.set_cons_succ])
          refine wpAnyH_take (i := 10) (oi := ⟨some 88, _, _, _, _, _⟩) (v := ?_) rfl (by kernel_rfl) (by kernel_rfl) (by kernel_rfl) (fun _ _ _ h => h) (Or.inl ⟨by rfl, ?_⟩) (by assumption) ?_
          rotate_left
          · intro w' hSw
            (try dsimp only at hSw)
            go_simp
            try with_reducible rfl
          (try simp only [Act.put, List.setIfInBounds_toArray, List.set_cons_zero, List.set_cons_succ])
          refine wpAnyH_take (i := 11) (oi := ⟨some 89, _, _, _, _, _⟩) (v := ?_) rfl (by kernel_rfl) (by kernel_rfl) (by kernel_rfl) (fun _ _ _ h => h) (Or.inl ⟨by rfl, ?_⟩) (by assumption) ?_
          rotate_left
          · intro w' hSw
            (try dsimp only at hSw)
            go_simp
            try with_reducible rfl
          (try simp only [Act.put, List.setIfInBounds_toArray, List.set_cons_zero, List.set_cons_succ])
          refine wpAnyH_take (i := 12) (oi := ⟨some 90, _, _, _, _, _⟩) (v := ?_) rfl (by kernel_rfl) (by kernel_rfl) (by kernel_rfl) (fun _ _ _ h => h) (Or.inl ⟨by rfl, ?_⟩) (by assumption) ?_
          rotate_left
          · intro w' hSw
            (try dsimp only at hSw)
            go_simp
            try with_reducible rfl
          (try simp only [Act.put, List.setIfInBounds_toArray, List.set_cons_zero, List.set_cons_succ])
          refine wpAnyH_take (i := 13) (oi := ⟨some 91, _, _, _, _, _⟩) (v := ?_) rfl (by kernel_rfl) (by kernel_rfl) (by kernel_rfl) (fun _ _ _ h => h) (Or.inl ⟨by rfl, ?_⟩) (by assumption) ?_
          rotate_left
          · intro w' hSw
            (try dsimp only at hSw)
            go_simp
            try with_reducible rfl
          (try simp only [Act.put, List.setIfInBounds_toArray, List.set_cons_zero, List.set_cons_succ])
          refine wpAnyH_take (i := 14) (oi := ⟨some 92, _, _, _, _, _⟩) (v := ?_) rfl (by kernel_rfl) (by kernel_rfl) (by kernel_rfl) (fun _ _ _ h => h) (Or.inl ⟨by rfl, ?_⟩) (by assumption) ?_
          rotate_left
          · intro w' hSw
            (try dsimp only at hSw)
            go_simp
            try with_reducible rfl
          (try simp only [Act.put, List.setIfInBounds_toArray, List.set_cons_zero, List.set_cons_succ])
          refine wpAnyH_take (i := 16) (oi := ⟨some 94, _, _, _, _, _⟩) (v := ?_) rfl (by kernel_rfl) (by kernel_rfl) (by kernel_rfl) (fun _ _ _ h => h) (Or.inl ⟨by rfl, ?_⟩) (by assumption) ?_
          rotate_left
          · intro w' hSw
            (try dsimp only at hSw)
            go_simp
            try with_reducible rfl
          (try simp only [Act.put, List.setIfInBounds_toArray, List.set_cons_zero, List.set_cons_succ])
          refine wpAnyH_take (i := 17) (oi := ⟨some 95, _, _, _, _, _⟩) (v := ?_) rfl (by kernel_rfl) (by kernel_rfl) (by kernel_rfl) (fun _ _ _ h => h) (Or.inl ⟨by rfl, ?_⟩) (by assumption) ?_
          rotate_left
          · intro w' hSw
            (try dsimp only at hSw)
            go_simp
            try with_reducible rfl
          (try simp only [Act.put, List.setIfInBounds_toArray, List.set_cons_zero, List.set_cons_succ])
          refine wpAnyH_ready (rs := [15]) (by kernel_rfl) (by simp) ?_
          refine AllReadyH.cons (o := ⟨some 93, _, _, _, _, _⟩) rfl (fun K hK => ?_) AllReadyH.nil
          have HBm' := hHeld
          clear hHeld
          go_simp
          refine (HTR.out _ (HLV.out.below HBm'.2.2.2.2.2.2.2.2.2)).mono ?_
          rintro e wm ⟨rfl, hbn⟩
          (try dsimp only at HBm')
          have HBm := Lib.hid (below_more (HBm'.2.2.2.2.2.2.2.2.2) hbn)
          clear HBm' hbn
          refine hK.out _ _ (keepSR XB.out YB.out HBm.out) (fun hHeld => ?_)
          clear hK K
          (try simp only [Act.put, List.setIfInBounds_toArray, List.set_cons_zero, List.set_cons_succ])
          refine wpAnyH_take (i := 18) (oi := ⟨some 96, _, _, _, _, _⟩) (v := ?_) rfl (by kernel_rfl) (by kernel_rfl) (by kernel_rfl) (fun _ _ _ h => h) (Or.inl ⟨by rfl, ?_⟩) (by assumption) ?_
          rotate_left
          · intro w' hSw
            (try dsimp only at hSw)
            go_simp
            try with_reducible rfl
          (try simp only [Act.put, List.setIfInBounds_toArray, List.set_cons_zero, List.set_cons_succ])
          refine wpAnyH_take (i := 19) (oi := ⟨some 97, _, _, _, _, _⟩) (v := ?_) rfl (by kernel_rfl) (by kernel_rfl) (by kernel_rfl) (fun _ _ _ h => h) (Or.inl ⟨by rfl, ?_⟩) (by assumption) ?_
          rotate_left
          · intro w' hSw
            (try dsimp only at hSw)
            go_simp
            try with_reducible rfl
          (try simp only [Act.put, List.setIfInBounds_toArray, List.set_cons_zero, List.set_cons_succ])
          refine wpAnyH_take (i := 20) (oi := ⟨some 98, _, _, _, _, _⟩) (v := ?_) rfl (by kernel_rfl) (by kernel_rfl) (by kernel_rfl) (fun _ _ _ h => h) (Or.inl ⟨by rfl, ?_⟩) (by assumption) ?_
          rotate_left
          · intro w' hSw
            (try dsimp only at hSw)
            go_simp
            try with_reducible rfl
          (try simp only [Act.put, List.setIfInBounds_toArray, List.set_cons_zero, List.set_cons_succ])
          refine wpAnyH_done (by kernel_rfl) ?_ _
          go_wp2_with fail
          go_meet
          case rel => exact ⟨rfl, HBm.out⟩
      · have dc : (c == 0) = false := by simpa using hc
        clear hc HOK
        rcases HTC with rfl | ⟨dT, hTR⟩
        · clear HT HTS
          refine wp_region_held_drew (S := (fun w' => w'.cell? ⟨nx, 0, none⟩ = some (.int .i64 x.1) ∧ w'.cell? ⟨nx, 1, none⟩ = some (.int .i64 x.2.1) ∧ w'.cell? ⟨nx, 2, none⟩ = some (.int .i64 x.2.2.1) ∧ w'.cell? ⟨nx, 3, none⟩ = some (.string x.2.2.2) ∧ w'.cell? ⟨ny, 0, none⟩ = some (.int .i64 y.1) ∧ w'.cell? ⟨ny, 1, none⟩ = some (.int .i64 y.2.1) ∧ w'.cell? ⟨ny, 2, none⟩ = some (.int .i64 y.2.2.1) ∧ w'.cell? ⟨ny, 3, none⟩ = some (.string y.2.2.2) ∧ w'.cell? ⟨ny, 4, none⟩ = some (.int .i64 c) ∧ Below V.heap.size V w')) (by kernel_rfl) (keepSR XB.out YB.out (Below.refl _ _).drew) (fun hHeld => ?_)
          refine wpAnyH_take (i := 0) (oi := ⟨some 78, _, _, _, _, _⟩) (v := ?_) rfl (by kernel_rfl) (by kernel_rfl) (by kernel_rfl) (fun _ _ _ h => h) (Or.inl ⟨by rfl, ?_⟩) (by assumption) ?_
          rotate_left
          · intro w' hSw
            (try dsimp only at hSw)
            go_simp
            try with_reducible rfl
          (try simp only [Act.put, List.setIfInBounds_toArray, List.set_cons_zero, List.set_cons_succ])
          refine wpAnyH_take (i := 1) (oi := ⟨some 79, _, _, _, _, _⟩) (v := ?_) rfl (by kernel_rfl) (by kernel_rfl) (by kernel_rfl) (fun _ _ _ h => h) (Or.inl ⟨by rfl, ?_⟩) (by assumption) ?_
          rotate_left
          · intro w' hSw
            (try dsimp only at hSw)
            go_simp
            try with_reducible rfl
          (try simp only [Act.put, List.setIfInBounds_toArray, List.set_cons_zero, List.set_cons_succ])
          refine wpAnyH_take (i := 2) (oi := ⟨some 80, _, _, _, _, _⟩) (v := ?_) rfl (by kernel_rfl) (by kernel_rfl) (by kernel_rfl) (fun _ _ _ h => h) (Or.inl ⟨by rfl, ?_⟩) (by assumption) ?_
          rotate_left
          · intro w' hSw
            (try dsimp only at hSw)
            go_simp
            try with_reducible rfl
          (try simp only [Act.put, List.setIfInBounds_toArray, List.set_cons_zero, List.set_cons_succ])
          refine wpAnyH_take (i := 3) (oi := ⟨some 81, _, _, _, _, _⟩) (v := ?_) rfl (by kernel_rfl) (by kernel_rfl) (by kernel_rfl) (fun _ _ _ h => h) (Or.inl ⟨by rfl, ?_⟩) (by assumption) ?_
          rotate_left
          · intro w' hSw
            (try dsimp only at hSw)
            go_simp
            try with_reducible rfl
          (try simp only [Act.put, List.setIfInBounds_toArray, List.set_cons_zero, List.set_cons_succ])
          refine wpAnyH_take (i := 4) (oi := ⟨some 82, _, _, _, _, _⟩) (v := undef) rfl (by kernel_rfl) (by kernel_rfl) (by kernel_rfl) (fun _ _ _ h => h) (Or.inr ⟨by rfl, rfl⟩) (by assumption) ?_
          (try simp only [Act.put, List.setIfInBounds_toArray, List.set_cons_zero, List.set_cons_succ])
          refine wpAnyH_take (i := 5) (oi := ⟨some 83, _, _, _, _, _⟩) (v := undef) rfl (by kernel_rfl) (by kernel_rfl) (by kernel_rfl) (fun _ _ _ h => h) (Or.inr ⟨by rfl, rfl⟩) (by assumption) ?_
          (try simp only [Act.put, List.setIfInBounds_toArray, List.set_cons_zero, List.set_cons_succ])
          refine wpAnyH_take (i := 6) (oi := ⟨some 84, _, _, _, _, _⟩) (v := undef) rfl (by kernel_rfl) (by kernel_rfl) (by kernel_rfl) (fun _ _ _ h => h) (Or.inr ⟨by rfl, rfl⟩) (by assumption) ?_
          (try simp only [Act.put, List.setIfInBounds_toArray, List.set_cons_zero, List.set_cons_succ])
          refine wpAnyH_take (i := 7) (oi := ⟨some 85, _, _, _, _, _⟩) (v := undef) rfl (by kernel_rfl) (by kernel_rfl) (by kernel_rfl) (fun _ _ _ h => h) (Or.inr ⟨by rfl, rfl⟩) (by assumption) ?_
          (try simp only [Act.put, List.setIfInBounds_toArray, List.set_cons_zero, List.set_cons_succ])
          refine wpAnyH_take (i := 8) (oi := ⟨some 86, _, _, _, _, _⟩) (v := undef) rfl (by kernel_rfl) (by kernel_rfl) (by kernel_rfl) (fun _ _ _ h => h) (Or.inr ⟨by rfl, rfl⟩) (by assumption) ?_
          (try simp only [Act.put, List.setIfInBounds_toArray, List.set_cons_zero, List.set_cons_succ])
          refine wpAnyH_take (i := 9) (oi := ⟨some 87, _, _, _, _, _⟩) (v := ?_) rfl (by kernel_rfl) (by kernel_rfl) (by kernel_rfl) (fun _ _ _ h => h) (Or.inl ⟨by rfl, ?_⟩) (by assumption) ?_
          rotate_left
          · intro w' hSw
            (try dsimp only at hSw)
            go_simp
            try with_reducible rfl
          (try simp only [Act.put, List.setIfInBounds_toArray, List.set_cons_zero, List.set_cons_succ])
          refine wpAnyH_take (i := 10) (oi := ⟨some 88, _, _, _, _, _⟩) (v := ?_) rfl (by kernel_rfl) (by kernel_rfl) (by kernel_rfl) (fun _ _ _ h => h) (Or.inl ⟨by rfl, ?_⟩) (by assumption) ?_
          rotate_left
          · intro w' hSw
            (try dsimp only at hSw)
            go_simp
            try with_reducible rfl
          (try simp only [Act.put, List.setIfInBounds_toArray, List.set_cons_zero, List.set_cons_succ])
          refine wpAnyH_take (i := 11) (oi := ⟨some 89, _, _, _, _, _⟩) (v := ?_) rfl (by kernel_rfl) (by kernel_rfl) (by kernel_rfl) (fun _ _ _ h => h) (Or.inl ⟨by rfl, ?_⟩) (by assumption) ?_
          rotate_left
          · intro w' hSw
            (try dsimp only at hSw)
            go_simp
            try with_reducible rfl
          (try simp only [Act.put, List.setIfInBounds_toArray, List.set_cons_zero, List.set_cons_succ])
          refine wpAnyH_take (i := 12) (oi := ⟨some 90, _, _, _, _, _⟩) (v := ?_) rfl (by kernel_rfl) (by kernel_rfl) (by kernel_rfl) (fun _ _ _ h => h) (Or.inl ⟨by rfl, ?_⟩) (by assumption) ?_
          rotate_left
          · intro w' hSw
            (try dsimp only at hSw)
            go_simp
            try with_reducible rfl
          (try simp only [Act.put, List.setIfInBounds_toArray, List.set_cons_zero, List.set_cons_succ])
          refine wpAnyH_take (i := 13) (oi := ⟨some 91, _, _, _, _, _⟩) (v := ?_) rfl (by kernel_rfl) (by kernel_rfl) (by kernel_rfl) (fun _ _ _ h => h) (Or.inl ⟨by rfl, ?_⟩) (by assumption) ?_
          rotate_left
          · intro w' hSw
            (try dsimp only at hSw)
            go_simp
            try with_reducible rfl
          (try simp only [Act.put, List.setIfInBounds_toArray, List.set_cons_zero, List.set_cons_succ])
          refine wpAnyH_take (i := 14) (oi := ⟨some 92, _, _, _, _, _⟩) (v := undef) rfl (by kernel_rfl) (by kernel_rfl) (by kernel_rfl) (fun _ _ _ h => h) (Or.inr ⟨by rfl, rfl⟩) (by assumption) ?_
          (try simp only [Act.put, List.setIfInBounds_toArray, List.set_cons_zero, List.set_cons_succ])
          refine wpAnyH_take (i := 15) (oi := ⟨some 93, _, _, _, _, _⟩) (v := undef) rfl (by kernel_rfl) (by kernel_rfl) (by kernel_rfl) (fun _ _ _ h => h) (Or.inr ⟨by rfl, rfl⟩) (by assumption) ?_
          (try simp only [Act.put, List.setIfInBounds_toArray, List.set_cons_zero, List.set_cons_succ])
          refine wpAnyH_take (i := 16) (oi := ⟨some 94, _, _, _, _, _⟩) (v := undef) rfl (by kernel_rfl) (by kernel_rfl) (by kernel_rfl) (fun _ _ _ h => h) (Or.inr ⟨by rfl, rfl⟩) (by assumption) ?_
          (try simp only [Act.put, List.setIfInBounds_toArray, List.set_cons_zero, List.set_cons_succ])
          refine wpAnyH_take (i := 17) (oi := ⟨some 95, _, _, _, _, _⟩) (v := undef) rfl (by kernel_rfl) (by kernel_rfl) (by kernel_rfl) (fun _ _ _ h => h) (Or.inr ⟨by rfl, rfl⟩) (by assumption) ?_
          (try simp only [Act.put, List.setIfInBounds_toArray, List.set_cons_zero, List.set_cons_succ])
          refine wpAnyH_take (i := 18) (oi := ⟨some 96, _, _, _, _, _⟩) (v := undef) rfl (by kernel_rfl) (by kernel_rfl) (by kernel_rfl) (fun _ _ _ h => h) (Or.inr ⟨by rfl, rfl⟩) (by assumption) ?_
          (try simp only [Act.put, List.setIfInBounds_toArray, List.set_cons_zero, List.set_cons_succ])
          refine wpAnyH_take (i := 19) (oi := ⟨some 97, _, _, _, _, _⟩) (v := ?_) rfl (by kernel_rfl) (by kernel_rfl) (by kernel_rfl) (fun _ _ _ h => h) (Or.inl ⟨by rfl, ?_⟩) (by assumption) ?_
          rotate_left
          · intro w' hSw
            (try dsimp only at hSw)
            go_simp
            try with_reducible rfl
          (try simp only [Act.put, List.setIfInBounds_toArray, List.set_cons_zero, List.set_cons_succ])
          refine wpAnyH_take (i := 20) (oi := ⟨some 98, _, _, _, _, _⟩) (v := ?_) rfl (by kernel_rfl) (by kernel_rfl) (by kernel_rfl) (fun _ _ _ h => h) (Or.inl ⟨by rfl, ?_⟩) (by assumption) ?_
          rotate_left
          · intro w' hSw
            (try dsimp only at hSw)
            go_simp
            try with_reducible rfl
          (try simp only [Act.put, List.setIfInBounds_toArray, List.set_cons_zero, List.set_cons_succ])
          refine wpAnyH_done (by kernel_rfl) ?_ _
          go_wp2_with fail
          go_meet
          case rel => exact ⟨rfl, (Below.refl _ V).drew⟩
        · have HTR := Lib.hid hTR
          clear hTR HT HTS
          refine wp_region_held_drew (S := (fun w' => w'.cell? ⟨nx, 0, none⟩ = some (.int .i64 x.1) ∧ w'.cell? ⟨nx, 1, none⟩ = some (.int .i64 x.2.1) ∧ w'.cell? ⟨nx, 2, none⟩ = some (.int .i64 x.2.2.1) ∧ w'.cell? ⟨nx, 3, none⟩ = some (.string x.2.2.2) ∧ w'.cell? ⟨ny, 0, none⟩ = some (.int .i64 y.1) ∧ w'.cell? ⟨ny, 1, none⟩ = some (.int .i64 y.2.1) ∧ w'.cell? ⟨ny, 2, none⟩ = some (.int .i64 y.2.2.1) ∧ w'.cell? ⟨ny, 3, none⟩ = some (.string y.2.2.2) ∧ w'.cell? ⟨ny, 4, none⟩ = some (.int .i64 c) ∧ Below V.heap.size V w')) (by kernel_rfl) (keepSR XB.out YB.out (Below.refl _ _).drew) (fun hHeld => ?_)
          refine wpAnyH_take (i := 0) (oi := ⟨some 78, _, _, _, _, _⟩) (v := ?_) rfl (by kernel_rfl) (by kernel_rfl) (by kernel_rfl) (fun _ _ _ h => h) (Or.inl ⟨by rfl, ?_⟩) (by assumption) ?_
          rotate_left
          · intro w' hSw
            (try dsimp only at hSw)
            go_simp
            try with_reducible rfl
          (try simp only [Act.put, List.setIfInBounds_toArray, List.set_cons_zero, List.set_cons_succ])
          refine wpAnyH_take (i := 1) (oi := ⟨some 79, _, _, _, _, _⟩) (v := ?_) rfl (by kernel_rfl) (by kernel_rfl) (by kernel_rfl) (fun _ _ _ h => h) (Or.inl ⟨by rfl, ?_⟩) (by assumption) ?_
          rotate_left
          · intro w' hSw
            (try dsimp only at hSw)
            go_simp
            try with_reducible rfl
          (try simp only [Act.put, List.setIfInBounds_toArray, List.set_cons_zero, List.set_cons_succ])
          refine wpAnyH_take (i := 2) (oi := ⟨some 80, _, _, _, _, _⟩) (v := ?_) rfl (by kernel_rfl) (by kernel_rfl) (by kernel_rfl) (fun _ _ _ h => h) (Or.inl ⟨by rfl, ?_⟩) (by assumption) ?_
          rotate_left
          · intro w' hSw
            (try dsimp only at hSw)
            go_simp
            try with_reducible rfl
          (try simp only [Act.put, List.setIfInBounds_toArray, List.set_cons_zero, List.set_cons_succ])
          refine wpAnyH_take (i := 3) (oi := ⟨some 81, _, _, _, _, _⟩) (v := ?_) rfl (by kernel_rfl) (by kernel_rfl) (by kernel_rfl) (fun _ _ _ h => h) (Or.inl ⟨by rfl, ?_⟩) (by assumption) ?_
          rotate_left
          · intro w' hSw
            (try dsimp only at hSw)
            go_simp
            try with_reducible rfl
          (try simp only [Act.put, List.setIfInBounds_toArray, List.set_cons_zero, List.set_cons_succ])
          refine wpAnyH_take (i := 4) (oi := ⟨some 82, _, _, _, _, _⟩) (v := undef) rfl (by kernel_rfl) (by kernel_rfl) (by kernel_rfl) (fun _ _ _ h => h) (Or.inr ⟨by rfl, rfl⟩) (by assumption) ?_
          (try simp only [Act.put, List.setIfInBounds_toArray, List.set_cons_zero, List.set_cons_succ])
          refine wpAnyH_take (i := 5) (oi := ⟨some 83, _, _, _, _, _⟩) (v := undef) rfl (by kernel_rfl) (by kernel_rfl) (by kernel_rfl) (fun _ _ _ h => h) (Or.inr ⟨by rfl, rfl⟩) (by assumption) ?_
          (try simp only [Act.put, List.setIfInBounds_toArray, List.set_cons_zero, List.set_cons_succ])
          refine wpAnyH_take (i := 6) (oi := ⟨some 84, _, _, _, _, _⟩) (v := undef) rfl (by kernel_rfl) (by kernel_rfl) (by kernel_rfl) (fun _ _ _ h => h) (Or.inr ⟨by rfl, rfl⟩) (by assumption) ?_
          (try simp only [Act.put, List.setIfInBounds_toArray, List.set_cons_zero, List.set_cons_succ])
          refine wpAnyH_take (i := 7) (oi := ⟨some 85, _, _, _, _, _⟩) (v := undef) rfl (by kernel_rfl) (by kernel_rfl) (by kernel_rfl) (fun _ _ _ h => h) (Or.inr ⟨by rfl, rfl⟩) (by assumption) ?_
          (try simp only [Act.put, List.setIfInBounds_toArray, List.set_cons_zero, List.set_cons_succ])
          refine wpAnyH_take (i := 8) (oi := ⟨some 86, _, _, _, _, _⟩) (v := undef) rfl (by kernel_rfl) (by kernel_rfl) (by kernel_rfl) (fun _ _ _ h => h) (Or.inr ⟨by rfl, rfl⟩) (by assumption) ?_
          (try simp only [Act.put, List.setIfInBounds_toArray, List.set_cons_zero, List.set_cons_succ])
          refine wpAnyH_take (i := 9) (oi := ⟨some 87, _, _, _, _, _⟩) (v := ?_) rfl (by kernel_rfl) (by kernel_rfl) (by kernel_rfl) (fun _ _ _ h => h) (Or.inl ⟨by rfl, ?_⟩) (by assumption) ?_
          rotate_left
          · intro w' hSw
            (try dsimp only at hSw)
            go_simp
            try with_reducible rfl
          (try simp only [Act.put, List.setIfInBounds_toArray, List.set_cons_zero, List.set_cons_succ])
          refine wpAnyH_take (i := 10) (oi := ⟨some 88, _, _, _, _, _⟩) (v := ?_) rfl (by kernel_rfl) (by kernel_rfl) (by kernel_rfl) (fun _ _ _ h => h) (Or.inl ⟨by rfl, ?_⟩) (by assumption) ?_
          rotate_left
          · intro w' hSw
            (try dsimp only at hSw)
            go_simp
            try with_reducible rfl
          (try simp only [Act.put, List.setIfInBounds_toArray, List.set_cons_zero, List.set_cons_succ])
          refine wpAnyH_take (i := 11) (oi := ⟨some 89, _, _, _, _, _⟩) (v := ?_) rfl (by kernel_rfl) (by kernel_rfl) (by kernel_rfl) (fun _ _ _ h => h) (Or.inl ⟨by rfl, ?_⟩) (by assumption) ?_
          rotate_left
          · intro w' hSw
            (try dsimp only at hSw)
            go_simp
            try with_reducible rfl
          (try simp only [Act.put, List.setIfInBounds_toArray, List.set_cons_zero, List.set_cons_succ])
          refine wpAnyH_take (i := 12) (oi := ⟨some 90, _, _, _, _, _⟩) (v := ?_) rfl (by kernel_rfl) (by kernel_rfl) (by kernel_rfl) (fun _ _ _ h => h) (Or.inl ⟨by rfl, ?_⟩) (by assumption) ?_
          rotate_left
          · intro w' hSw
            (try dsimp only at hSw)
            go_simp
            try with_reducible rfl
          (try simp only [Act.put, List.setIfInBounds_toArray, List.set_cons_zero, List.set_cons_succ])
          refine wpAnyH_take (i := 13) (oi := ⟨some 91, _, _, _, _, _⟩) (v := ?_) rfl (by kernel_rfl) (by kernel_rfl) (by kernel_rfl) (fun _ _ _ h => h) (Or.inl ⟨by rfl, ?_⟩) (by assumption) ?_
          rotate_left
          · intro w' hSw
            (try dsimp only at hSw)
            go_simp
            try with_reducible rfl
          (try simp only [Act.put, List.setIfInBounds_toArray, List.set_cons_zero, List.set_cons_succ])
          refine wpAnyH_take (i := 14) (oi := ⟨some 92, _, _, _, _, _⟩) (v := ?_) rfl (by kernel_rfl) (by kernel_rfl) (by kernel_rfl) (fun _ _ _ h => h) (Or.inl ⟨by rfl, ?_⟩) (by assumption) ?_
          rotate_left
          · intro w' hSw
            (try dsimp only at hSw)
            go_simp
            try with_reducible rfl
          (try simp only [Act.put, List.setIfInBounds_toArray, List.set_cons_zero, List.set_cons_succ])
          refine wpAnyH_take (i := 16) (oi := ⟨some 94, _, _, _, _, _⟩) (v := ?_) rfl (by kernel_rfl) (by kernel_rfl) (by kernel_rfl) (fun _ _ _ h => h) (Or.inl ⟨by rfl, ?_⟩) (by assumption) ?_
          rotate_left
          · intro w' hSw
            (try dsimp only at hSw)
            go_simp
            try with_reducible rfl
          (try simp only [Act.put, List.setIfInBounds_toArray, List.set_cons_zero, List.set_cons_succ])
          refine wpAnyH_take (i := 17) (oi := ⟨some 95, _, _, _, _, _⟩) (v := ?_) rfl (by kernel_rfl) (by kernel_rfl) (by kernel_rfl) (fun _ _ _ h => h) (Or.inl ⟨by rfl, ?_⟩) (by assumption) ?_
          rotate_left
          · intro w' hSw
            (try dsimp only at hSw)
            go_simp
            try with_reducible rfl
          (try simp only [Act.put, List.setIfInBounds_toArray, List.set_cons_zero, List.set_cons_succ])
          refine wpAnyH_ready (rs := [15]) (by kernel_rfl) (by simp) ?_
          refine AllReadyH.cons (o := ⟨some 93, _, _, _, _, _⟩) rfl (fun K hK => ?_) AllReadyH.nil
          have HBm' := hHeld
          clear hHeld
          go_simp
          refine (HTR.out _ (HLV.out.below HBm'.2.2.2.2.2.2.2.2.2)).mono ?_
          rintro e wm ⟨rfl, hbn⟩
          (try dsimp only at HBm')
          have HBm := Lib.hid (below_more (HBm'.2.2.2.2.2.2.2.2.2) hbn)
          clear HBm' hbn
          refine hK.out _ _ (keepSR XB.out YB.out HBm.out) (fun hHeld => ?_)
          clear hK K
          (try simp only [Act.put, List.setIfInBounds_toArray, List.set_cons_zero, List.set_cons_succ])
          refine wpAnyH_take (i := 18) (oi := ⟨some 96, _, _, _, _, _⟩) (v := ?_) rfl (by kernel_rfl) (by kernel_rfl) (by kernel_rfl) (fun _ _ _ h => h) (Or.inl ⟨by rfl, ?_⟩) (by assumption) ?_
          rotate_left
          · intro w' hSw
            (try dsimp only at hSw)
            go_simp
            try with_reducible rfl
          (try simp only [Act.put, List.setIfInBounds_toArray, List.set_cons_zero, List.set_cons_succ])
          refine wpAnyH_take (i := 19) (oi := ⟨some 97, _, _, _, _, _⟩) (v := ?_) rfl (by kernel_rfl) (by kernel_rfl) (by kernel_rfl) (fun _ _ _ h => h) (Or.inl ⟨by rfl, ?_⟩) (by assumption) ?_
          rotate_left
          · intro w' hSw
            (try dsimp only at hSw)
            go_simp
            try with_reducible rfl
          (try simp only [Act.put, List.setIfInBounds_toArray, List.set_cons_zero, List.set_cons_succ])
          refine wpAnyH_take (i := 20) (oi := ⟨some 98, _, _, _, _, _⟩) (v := ?_) rfl (by kernel_rfl) (by kernel_rfl) (by kernel_rfl) (fun _ _ _ h => h) (Or.inl ⟨by rfl, ?_⟩) (by assumption) ?_
          rotate_left
          · intro w' hSw
            (try dsimp only at hSw)
            go_simp
            try with_reducible rfl
          (try simp only [Act.put, List.setIfInBounds_toArray, List.set_cons_zero, List.set_cons_succ])
          refine wpAnyH_done (by kernel_rfl) ?_ _
          go_wp2_with fail
          go_meet
          case rel => exact ⟨rfl, HBm.out⟩
    case rest =>
      obtain ⟨rfl, hb⟩ := hcut
      clear x0 x1 x2 x3 y0 y1 y2 y3 y4
      replace XB := Lib.hid (XB.out.next hb)
      replace YB := Lib.hid (YB.out.next hb)
      replace RL := Lib.hid (RL.out.below hb (Nat.le_refl _))
      replace RW := Lib.hid (RW.out.below hb (Nat.le_refl _))
      replace BW := Lib.hid (below_more BW.out hb)
      clear hb HOK HT HTS HLV YB
      obtain ⟨U, rfl⟩ : ∃ U, U = wc := ⟨_, rfl⟩
      have x0 := XB.out.q0
      have x1 := XB.out.q1
      have x2 := XB.out.q2
      have x3 := XB.out.q3
      go_wp2_with fail
      clear x0 x1 x2 x3
      refine (HRT.out _).mono ?_
      rintro e w8 ⟨rfl, hb⟩
      replace XB := Lib.hid (XB.out.next hb)
      replace RL := Lib.hid (RL.out.below hb (Nat.le_refl _))
      replace RW := Lib.hid (RW.out.below hb (Nat.le_refl _))
      replace BW := Lib.hid (below_more BW.out hb)
      clear hb HRT
      cases B with
      | false =>
        clear XB HMO HR8
        obtain ⟨Z, rfl⟩ : ∃ Z, Z = w8 := ⟨_, rfl⟩
        go_wp2_with fail
        go_loopw [14] (fun i wr => FsRel Q.length Z i wr) (fun i _ => Q.length - (intOf i).toNat)
        case atStart => exact ⟨0, by omega, rfl, Below.refl _ _⟩
        case round =>
          obtain ⟨k, hk, rfl, hb⟩ := hrel
          have hq20 := HQL.out
          have HB := Lib.hid hb
          have RL2 := Lib.hid (RL.out.below hb (Nat.le_refl _))
          have RW2 := Lib.hid (RW.out.below hb (Nat.le_refl _))
          clear hb
          by_cases hlt : k < Q.length
          · obtain ⟨b7, o7, hp7, hl7, hc7⟩ := RW2.out.get (by omega)
            subst hp7
            have r0 : wr.cell? ⟨b7, o7 + k * 4, none⟩ = some (.int .i64 Q[k].1) := by rw [hc7 (k * 4) (by omega), stpCs_0 Q k hlt]
            have r1 : wr.cell? ⟨b7, o7 + k * 4 + 1, none⟩ = some (.int .i64 Q[k].2.1) := by rw [Nat.add_assoc, hc7 (k * 4 + 1) (by omega), stpCs_1 Q k hlt]
            have r2 : wr.cell? ⟨b7, o7 + k * 4 + 2, none⟩ = some (.int .i64 Q[k].2.2.1) := by rw [Nat.add_assoc, hc7 (k * 4 + 2) (by omega), stpCs_2 Q k hlt]
            have r3 : wr.cell? ⟨b7, o7 + k * 4 + 3, none⟩ = some (.string Q[k].2.2.2) := by rw [Nat.add_assoc, hc7 (k * 4 + 3) (by omega), stpCs_3 Q k hlt]
            have d5 : (Q[k].1 == 5) = false := by have := HQ5.out k hlt; simpa using this
            have e0 : (k : Int) < (Q.length : Int) := by omega
            have e1 : (0 : Int) ≤ (k : Int) := by omega
            obtain ⟨q, hq⟩ : ∃ q, q = Q[k] := ⟨_, rfl⟩
            rw [← hq] at r0 r1 r2 r3 d5
            have HQK := Lib.hid hq
            clear hq hc7
            go_wp2_with fail
            refine wp_region_held_drew (S := (fun w' => w'.cell? ⟨b7, o7 + k * 4, none⟩ = some (.int .i64 q.1) ∧ w'.cell? ⟨b7, o7 + k * 4 + 1, none⟩ = some (.int .i64 q.2.1) ∧ w'.cell? ⟨b7, o7 + k * 4 + 2, none⟩ = some (.int .i64 q.2.2.1) ∧ w'.cell? ⟨b7, o7 + k * 4 + 3, none⟩ = some (.string q.2.2.2))) (by kernel_rfl) ⟨r0, r1, r2, r3⟩ (fun hHeld => ?_)
            refine wpAnyH_take (i := 0) (oi := ⟨some 113, _, _, _, _, _⟩) (v := ?_) rfl (by kernel_rfl) (by kernel_rfl) (by kernel_rfl) (fun _ _ _ h => h) (Or.inl ⟨by rfl, ?_⟩) (by assumption) ?_
            rotate_left
            · intro w' hSw
              (try dsimp only at hSw)
              go_simp
              try with_reducible rfl
            (try simp only [Act.put, List.setIfInBounds_toArray, List.set_cons_zero, List.set_cons_succ])
            refine wpAnyH_take (i := 1) (oi := ⟨some 114, _, _, _, _, _⟩) (v := ?_) rfl (by kernel_rfl) (by kernel_rfl) (by kernel_rfl) (fun _ _ _ h => h) (Or.inl ⟨by rfl, ?_⟩) (by assumption) ?_
            rotate_left
            · intro w' hSw
              (try dsimp only at hSw)
              go_simp
              try with_reducible rfl
            (try simp only [Act.put, List.setIfInBounds_toArray, List.set_cons_zero, List.set_cons_succ])
            refine wpAnyH_take (i := 2) (oi := ⟨some 115, _, _, _, _, _⟩) (v := ?_) rfl (by kernel_rfl) (by kernel_rfl) (by kernel_rfl) (fun _ _ _ h => h) (Or.inl ⟨by rfl, ?_⟩) (by assumption) ?_
            rotate_left
            · intro w' hSw
              (try dsimp only at hSw)
              go_simp
              try with_reducible rfl
            (try simp only [Act.put, List.setIfInBounds_toArray, List.set_cons_zero, List.set_cons_succ])
            refine wpAnyH_take (i := 3) (oi := ⟨some 116, _, _, _, _, _⟩) (v := ?_) rfl (by kernel_rfl) (by kernel_rfl) (by kernel_rfl) (fun _ _ _ h => h) (Or.inl ⟨by rfl, ?_⟩) (by assumption) ?_
            rotate_left
            · intro w' hSw
              (try dsimp only at hSw)
              go_simp
              try with_reducible rfl
            (try simp only [Act.put, List.setIfInBounds_toArray, List.set_cons_zero, List.set_cons_succ])
            refine wpAnyH_take (i := 4) (oi := ⟨some 117, _, _, _, _, _⟩) (v := ?_) rfl (by kernel_rfl) (by kernel_rfl) (by kernel_rfl) (fun _ _ _ h => h) (Or.inl ⟨by rfl, ?_⟩) (by assumption) ?_
            rotate_left
            · intro w' hSw
              (try dsimp only at hSw)
              go_simp
              try with_reducible rfl
            (try simp only [Act.put, List.setIfInBounds_toArray, List.set_cons_zero, List.set_cons_succ])
            refine wpAnyH_take (i := 5) (oi := ⟨some 118, _, _, _, _, _⟩) (v := ?_) rfl (by kernel_rfl) (by kernel_rfl) (by kernel_rfl) (fun _ _ _ h => h) (Or.inl ⟨by rfl, ?_⟩) (by assumption) ?_
            rotate_left
            · intro w' hSw
              (try dsimp only at hSw)
              go_simp
              try with_reducible rfl
            (try simp only [Act.put, List.setIfInBounds_toArray, List.set_cons_zero, List.set_cons_succ])
            refine wpAnyH_take (i := 6) (oi := ⟨some 119, _, _, _, _, _⟩) (v := ?_) rfl (by kernel_rfl) (by kernel_rfl) (by kernel_rfl) (fun _ _ _ h => h) (Or.inl ⟨by rfl, ?_⟩) (by assumption) ?_
            rotate_left
            · intro w' hSw
              (try dsimp only at hSw)
              go_simp
              try with_reducible rfl
            (try simp only [Act.put, List.setIfInBounds_toArray, List.set_cons_zero, List.set_cons_succ])
            refine wpAnyH_take (i := 7) (oi := ⟨some 120, _, _, _, _, _⟩) (v := ?_) rfl (by kernel_rfl) (by kernel_rfl) (by kernel_rfl) (fun _ _ _ h => h) (Or.inl ⟨by rfl, ?_⟩) (by assumption) ?_
            rotate_left
            · intro w' hSw
              (try dsimp only at hSw)
              go_simp
              try with_reducible rfl
            (try simp only [Act.put, List.setIfInBounds_toArray, List.set_cons_zero, List.set_cons_succ])
            refine wpAnyH_take (i := 8) (oi := ⟨some 121, _, _, _, _, _⟩) (v := ?_) rfl (by kernel_rfl) (by kernel_rfl) (by kernel_rfl) (fun _ _ _ h => h) (Or.inl ⟨by rfl, ?_⟩) (by assumption) ?_
            rotate_left
            · intro w' hSw
              (try dsimp only at hSw)
              go_simp
              try with_reducible rfl
            (try simp only [Act.put, List.setIfInBounds_toArray, List.set_cons_zero, List.set_cons_succ])
            refine wpAnyH_take (i := 9) (oi := ⟨some 122, _, _, _, _, _⟩) (v := ?_) rfl (by kernel_rfl) (by kernel_rfl) (by kernel_rfl) (fun _ _ _ h => h) (Or.inl ⟨by rfl, ?_⟩) (by assumption) ?_
            rotate_left
            · intro w' hSw
              (try dsimp only at hSw)
              go_simp
              try with_reducible rfl
            (try simp only [Act.put, List.setIfInBounds_toArray, List.set_cons_zero, List.set_cons_succ])
            refine wpAnyH_take (i := 10) (oi := ⟨some 123, _, _, _, _, _⟩) (v := ?_) rfl (by kernel_rfl) (by kernel_rfl) (by kernel_rfl) (fun _ _ _ h => h) (Or.inl ⟨by rfl, ?_⟩) (by assumption) ?_
            rotate_left
            · intro w' hSw
              (try dsimp only at hSw)
              go_simp
              try with_reducible rfl
            (try simp only [Act.put, List.setIfInBounds_toArray, List.set_cons_zero, List.set_cons_succ])
            refine wpAnyH_take (i := 11) (oi := ⟨some 124, _, _, _, _, _⟩) (v := ?_) rfl (by kernel_rfl) (by kernel_rfl) (by kernel_rfl) (fun _ _ _ h => h) (Or.inl ⟨by rfl, ?_⟩) (by assumption) ?_
            rotate_left
            · intro w' hSw
              (try dsimp only at hSw)
              go_simp
              try with_reducible rfl
            (try simp only [Act.put, List.setIfInBounds_toArray, List.set_cons_zero, List.set_cons_succ])
            refine wpAnyH_take (i := 13) (oi := ⟨some 126, _, _, _, _, _⟩) (v := ?_) rfl (by kernel_rfl) (by kernel_rfl) (by kernel_rfl) (fun _ _ _ h => h) (Or.inl ⟨by rfl, ?_⟩) (by assumption) ?_
            rotate_left
            · intro w' hSw
              (try dsimp only at hSw)
              go_simp
              try with_reducible rfl
            (try simp only [Act.put, List.setIfInBounds_toArray, List.set_cons_zero, List.set_cons_succ])
            refine wpAnyH_ready (rs := [12]) (by kernel_rfl) (by simp) ?_
            refine AllReadyH.cons (o := ⟨some 125, _, _, _, _, _⟩) rfl (fun K hK => ?_) AllReadyH.nil
            clear hHeld
            go_simp
            refine (HSW.out _ (RL2.out.below (Below.refl wr.heap.size wr).drew (Nat.le_refl _))).mono ?_
            rintro e w9 ⟨v9, rfl, hg9, hb9⟩
            obtain ⟨a9, c9, rfl⟩ := gr_form hg9
            obtain ⟨b9, o9, hp9, hl9, hc9⟩ := hg9.own.rd.get (by omega)
            subst hp9
            have hbd := (Below.refl wr.heap.size wr).drew.trans hb9
            have s0 := hc9 (k * 4) (by omega)
            have s1 := hc9 (k * 4 + 1) (by omega)
            have s2 := hc9 (k * 4 + 2) (by omega)
            have s3 := hc9 (k * 4 + 3) (by omega)
            rw [stpCs_0 Q k hlt, ← HQK.out] at s0
            rw [stpCs_1 Q k hlt, ← HQK.out, ← Nat.add_assoc] at s1
            rw [stpCs_2 Q k hlt, ← HQK.out, ← Nat.add_assoc] at s2
            rw [stpCs_3 Q k hlt, ← HQK.out, ← Nat.add_assoc] at s3
            have t0 := (hbd.cell (p := ⟨b7, o7 + k * 4, none⟩) hl7).trans r0
            have t1 := (hbd.cell (p := ⟨b7, o7 + k * 4 + 1, none⟩) hl7).trans r1
            have t2 := (hbd.cell (p := ⟨b7, o7 + k * 4 + 2, none⟩) hl7).trans r2
            have t3 := (hbd.cell (p := ⟨b7, o7 + k * 4 + 3, none⟩) hl7).trans r3
            have HB9 := Lib.hid (below_more HB.out hbd)
            have HT9 := Lib.hid (show _ ∧ _ ∧ _ ∧ _ from ⟨t0, t1, t2, t3⟩)
            clear hg9 hb9 hc9 hbd t0 t1 t2 t3
            refine hK.out _ _ HT9.out (fun hHeld => ?_)
            clear hK K
            (try simp only [Act.put, List.setIfInBounds_toArray, List.set_cons_zero, List.set_cons_succ])
            refine wpAnyH_take (i := 14) (oi := ⟨some 127, _, _, _, _, _⟩) (v := ?_) rfl (by kernel_rfl) (by kernel_rfl) (by kernel_rfl) (fun _ _ _ h => h) (Or.inl ⟨by rfl, ?_⟩) (by assumption) ?_
            rotate_left
            · intro w' hSw
              (try dsimp only at hSw)
              go_simp
              try with_reducible rfl
            (try simp only [Act.put, List.setIfInBounds_toArray, List.set_cons_zero, List.set_cons_succ])
            refine wpAnyH_ready (rs := [15]) (by kernel_rfl) (by simp) ?_
            refine AllReadyH.cons (o := ⟨some 128, _, _, _, _, _⟩) rfl (fun K hK => ?_) AllReadyH.nil
            clear hHeld
            go_simp
            refine hK.out _ _ HT9.out (fun hHeld => ?_)
            clear hK K s0 s1 s2 s3
            (try simp only [Act.put, List.setIfInBounds_toArray, List.set_cons_zero, List.set_cons_succ])
            refine wpAnyH_take (i := 16) (oi := ⟨some 129, _, _, _, _, _⟩) (v := ?_) rfl (by kernel_rfl) (by kernel_rfl) (by kernel_rfl) (fun _ _ _ h => h) (Or.inl ⟨by rfl, ?_⟩) (by assumption) ?_
            rotate_left
            · intro w' hSw
              (try dsimp only at hSw)
              go_simp
              try with_reducible rfl
            (try simp only [Act.put, List.setIfInBounds_toArray, List.set_cons_zero, List.set_cons_succ])
            refine wpAnyH_take (i := 17) (oi := ⟨some 130, _, _, _, _, _⟩) (v := ?_) rfl (by kernel_rfl) (by kernel_rfl) (by kernel_rfl) (fun _ _ _ h => h) (Or.inl ⟨by rfl, ?_⟩) (by assumption) ?_
            rotate_left
            · intro w' hSw
              (try dsimp only at hSw)
              go_simp
              try with_reducible rfl
            (try simp only [Act.put, List.setIfInBounds_toArray, List.set_cons_zero, List.set_cons_succ])
            refine wpAnyH_done (by kernel_rfl) ?_ _
            clear hHeld
            go_wp2_with fail
            go_roundw
            case rel =>
              have fin : FsRel Q.length Z (.int .i64 ((k : Int) + 1)) w9 := ⟨k + 1, by omega, by go_num, HB9.out⟩
              first | exact fin | ((repeat apply Exists.intro); exact ⟨fin, rfl⟩)
            case measure => simp [intOf]; omega
          · obtain rfl : k = Q.length := by omega
            have BZ := Lib.hid (below_more BW.out HB.out)
            clear HB RW2 hlt hk
            by_cases hC : C = 0
            · by_cases hl0 : l.length = 0
              · have dC : (C != 0) = false := by simpa using hC
                have dl : ((l.length : Int) == 0) = true := by rw [hl0]; rfl
                clear hC HCD hl0
                go_wp2_with fail
                go_ret
                exact ⟨rfl, BZ.out⟩
              · have dC : (C != 0) = false := by simpa using hC
                have dl : ((l.length : Int) == 0) = false := beq_false_of_ne (by omega)
                have HD := Lib.hid (fun w h => implCode (.slice a5 (l.length - 1) c5) l.dropLast m w h (by simp; omega))
                rw [HCD.out hC] at HD
                have m0 : IntKind.i64.wrap ((l.length : Int) - 1) = ((l.length - 1 : Nat) : Int) := by rw [IntWalk.i64_in _ (by omega)]; omega
                have m1 : wrap64 ((l.length : Int) - 1) = ((l.length - 1 : Nat) : Int) := by rw [IntWalk.wrap64_in _ (by omega)]; omega
                have e0 : ((l.length - 1 : Nat) : Int) ≤ (c5 : Int) := by omega
                have e1 : l.length - 1 ≤ c5 := by omega
                clear hC HCD
                go_wp2_with fail
                refine (HD.out _ (rd_drop RL2.out)).mono ?_
                rintro e w9 ⟨rfl, hb9⟩
                have B9 := Lib.hid (below_more BZ.out hb9)
                clear hb9
                go_wp2_with fail
                go_ret
                exact ⟨rfl, B9.out⟩
            · have dC : (C != 0) = true := by simpa using hC
              clear hC HCD
              go_wp2_with fail
              go_ret
              exact ⟨rfl, BZ.out⟩
      | true =>
        have h8 := HMO.out rfl
        have x0 := XB.out.q0
        have x1 := XB.out.q1
        have x2 := XB.out.q2
        have x3 := XB.out.q3
        rw [h8] at HR8
        go_wp2_with fail
        clear x0 x1 x2 x3 h8
        refine (HR8.out _).mono ?_
        rintro e Z ⟨rfl, hb⟩
        replace RL := Lib.hid (RL.out.below hb (Nat.le_refl _))
        replace RW := Lib.hid (RW.out.below hb (Nat.le_refl _))
        replace BW := Lib.hid (below_more BW.out hb)
        clear hb XB HMO HR8
        go_wp2_with fail
        go_loopw [14] (fun i wr => FsRel Q.length Z i wr) (fun i _ => Q.length - (intOf i).toNat)
        case atStart => exact ⟨0, by omega, rfl, Below.refl _ _⟩
        case round =>
          obtain ⟨k, hk, rfl, hb⟩ := hrel
          have hq20 := HQL.out
          have HB := Lib.hid hb
          have RL2 := Lib.hid (RL.out.below hb (Nat.le_refl _))
          have RW2 := Lib.hid (RW.out.below hb (Nat.le_refl _))
          clear hb
          by_cases hlt : k < Q.length
          · obtain ⟨b7, o7, hp7, hl7, hc7⟩ := RW2.out.get (by omega)
            subst hp7
            have r0 : wr.cell? ⟨b7, o7 + k * 4, none⟩ = some (.int .i64 Q[k].1) := by rw [hc7 (k * 4) (by omega), stpCs_0 Q k hlt]
            have r1 : wr.cell? ⟨b7, o7 + k * 4 + 1, none⟩ = some (.int .i64 Q[k].2.1) := by rw [Nat.add_assoc, hc7 (k * 4 + 1) (by omega), stpCs_1 Q k hlt]
            have r2 : wr.cell? ⟨b7, o7 + k * 4 + 2, none⟩ = some (.int .i64 Q[k].2.2.1) := by rw [Nat.add_assoc, hc7 (k * 4 + 2) (by omega), stpCs_2 Q k hlt]
            have r3 : wr.cell? ⟨b7, o7 + k * 4 + 3, none⟩ = some (.string Q[k].2.2.2) := by rw [Nat.add_assoc, hc7 (k * 4 + 3) (by omega), stpCs_3 Q k hlt]
            have d5 : (Q[k].1 == 5) = false := by have := HQ5.out k hlt; simpa using this
            have e0 : (k : Int) < (Q.length : Int) := by omega
            have e1 : (0 : Int) ≤ (k : Int) := by omega
            obtain ⟨q, hq⟩ : ∃ q, q = Q[k] := ⟨_, rfl⟩
            rw [← hq] at r0 r1 r2 r3 d5
            have HQK := Lib.hid hq
            clear hq hc7
            go_wp2_with fail
            refine wp_region_held_drew (S := (fun w' => w'.cell? ⟨b7, o7 + k * 4, none⟩ = some (.int .i64 q.1) ∧ w'.cell? ⟨b7, o7 + k * 4 + 1, none⟩ = some (.int .i64 q.2.1) ∧ w'.cell? ⟨b7, o7 + k * 4 + 2, none⟩ = some (.int .i64 q.2.2.1) ∧ w'.cell? ⟨b7, o7 + k * 4 + 3, none⟩ = some (.string q.2.2.2))) (by kernel_rfl) ⟨r0, r1, r2, r3⟩ (fun hHeld => ?_)
            refine wpAnyH_take (i := 0) (oi := ⟨some 113, _, _, _, _, _⟩) (v := ?_) rfl (by kernel_rfl) (by kernel_rfl) (by kernel_rfl) (fun _ _ _ h => h) (Or.inl ⟨by rfl, ?_⟩) (by assumption) ?_
            rotate_left
            · intro w' hSw
              (try dsimp only at hSw)
              go_simp
              try with_reducible rfl
            (try simp only [Act.put, List.setIfInBounds_toArray, List.set_cons_zero, List.set_cons_succ])
            refine wpAnyH_take (i := 1) (oi := ⟨some 114, _, _, _, _, _⟩) (v := ?_) rfl (by kernel_rfl) (by kernel_rfl) (by kernel_rfl) (fun _ _ _ h => h) (Or.inl ⟨by rfl, ?_⟩) (by assumption) ?_
            rotate_left
            · intro w' hSw
              (try dsimp only at hSw)
              go_simp
              try with_reducible rfl
            (try simp only [Act.put, List.setIfInBounds_toArray, List.set_cons_zero, List.set_cons_succ])
            refine wpAnyH_take (i := 2) (oi := ⟨some 115, _, _, _, _, _⟩) (v := ?_) rfl (by kernel_rfl) (by kernel_rfl) (by kernel_rfl) (fun _ _ _ h => h) (Or.inl ⟨by rfl, ?_⟩) (by assumption) ?_
            rotate_left
            · intro w' hSw
              (try dsimp only at hSw)
              go_simp
              try with_reducible rfl
            (try simp only [Act.put, List.setIfInBounds_toArray, List.set_cons_zero, List.set_cons_succ])
            refine wpAnyH_take (i := 3) (oi := ⟨some 116, _, _, _, _, _⟩) (v := ?_) rfl (by kernel_rfl) (by kernel_rfl) (by kernel_rfl) (fun _ _ _ h => h) (Or.inl ⟨by rfl, ?_⟩) (by assumption) ?_
            rotate_left
            · intro w' hSw
              (try dsimp only at hSw)
              go_simp
              try with_reducible rfl
            (try simp only [Act.put, List.setIfInBounds_toArray, List.set_cons_zero, List.set_cons_succ])
            refine wpAnyH_take (i := 4) (oi := ⟨some 117, _, _, _, _, _⟩) (v := ?_) rfl (by kernel_rfl) (by kernel_rfl) (by kernel_rfl) (fun _ _ _ h => h) (Or.inl ⟨by rfl, ?_⟩) (by assumption) ?_
            rotate_left
            · intro w' hSw
              (try dsimp only at hSw)
              go_simp
              try with_reducible rfl
            (try simp only [Act.put, List.setIfInBounds_toArray, List.set_cons_zero, List.set_cons_succ])
            refine wpAnyH_take (i := 5) (oi := ⟨some 118, _, _, _, _, _⟩) (v := ?_) rfl (by kernel_rfl) (by kernel_rfl) (by kernel_rfl) (fun _ _ _ h => h) (Or.inl ⟨by rfl, ?_⟩) (by assumption) ?_
            rotate_left
            · intro w' hSw
              (try dsimp only at hSw)
              go_simp
              try with_reducible rfl
            (try simp only [Act.put, List.setIfInBounds_toArray, List.set_cons_zero, List.set_cons_succ])
            refine wpAnyH_take (i := 6) (oi := ⟨some 119, _, _, _, _, _⟩) (v := ?_) rfl (by kernel_rfl) (by kernel_rfl) (by kernel_rfl) (fun _ _ _ h => h) (Or.inl ⟨by rfl, ?_⟩) (by assumption) ?_
            rotate_left
            · intro w' hSw
              (try dsimp only at hSw)
              go_simp
              try with_reducible rfl
            (try simp only [Act.put, List.setIfInBounds_toArray, List.set_cons_zero, List.set_cons_succ])
            refine wpAnyH_take (i := 7) (oi := ⟨some 120, _, _, _, _, _⟩) (v := ?_) rfl (by kernel_rfl) (by kernel_rfl) (by kernel_rfl) (fun _ _ _ h => h) (Or.inl ⟨by rfl, ?_⟩) (by assumption) ?_
            rotate_left
            · intro w' hSw
              (try dsimp only at hSw)
              go_simp
              try with_reducible rfl
            (try simp only [Act.put, List.setIfInBounds_toArray, List.set_cons_zero, List.set_cons_succ])
            refine wpAnyH_take (i := 8) (oi := ⟨some 121, _, _, _, _, _⟩) (v := ?_) rfl (by kernel_rfl) (by kernel_rfl) (by kernel_rfl) (fun _ _ _ h => h) (Or.inl ⟨by rfl, ?_⟩) (by assumption) ?_
            rotate_left
            · intro w' hSw
              (try dsimp only at hSw)
              go_simp
              try with_reducible rfl
            (try simp only [Act.put, List.setIfInBounds_toArray, List.set_cons_zero, List.set_cons_succ])
            refine wpAnyH_take (i := 9) (oi := ⟨some 122, _, _, _, _, _⟩) (v := ?_) rfl (by kernel_rfl) (by kernel_rfl) (by kernel_rfl) (fun _ _ _ h => h) (Or.inl ⟨by rfl, ?_⟩) (by assumption) ?_
            rotate_left
            · intro w' hSw
              (try dsimp only at hSw)
              go_simp
              try with_reducible rfl
            (try simp only [Act.put, List.setIfInBounds_toArray, List.set_cons_zero, List.set_cons_succ])
            refine wpAnyH_take (i := 10) (oi := ⟨some 123, _, _, _, _, _⟩) (v := ?_) rfl (by kernel_rfl) (by kernel_rfl) (by kernel_rfl) (fun _ _ _ h => h) (Or.inl ⟨by rfl, ?_⟩) (by assumption) ?_
            rotate_left
            · intro w' hSw
              (try dsimp only at hSw)
              go_simp
              try with_reducible rfl
            (try simp only [Act.put, List.setIfInBounds_toArray, List.set_cons_zero, List.set_cons_succ])
            refine wpAnyH_take (i := 11) (oi := ⟨some 124, _, _, _, _, _⟩) (v := ?_) rfl (by kernel_rfl) (by kernel_rfl) (by kernel_rfl) (fun _ _ _ h => h) (Or.inl ⟨by rfl, ?_⟩) (by assumption) ?_
            rotate_left
            · intro w' hSw
              (try dsimp only at hSw)
              go_simp
              try with_reducible rfl
            (try simp only [Act.put, List.setIfInBounds_toArray, List.set_cons_zero, List.set_cons_succ])
            refine wpAnyH_take (i := 13) (oi := ⟨some 126, _, _, _, _, _⟩) (v := ?_) rfl (by kernel_rfl) (by kernel_rfl) (by kernel_rfl) (fun _ _ _ h => h) (Or.inl ⟨by rfl, ?_⟩) (by assumption) ?_
            rotate_left
            · intro w' hSw
              (try dsimp only at hSw)
              go_simp
              try with_reducible rfl
            (try simp only [Act.put, List.setIfInBounds_toArray, List.set_cons_zero, List.set_cons_succ])
            refine wpAnyH_ready (rs := [12]) (by kernel_rfl) (by simp) ?_
            refine AllReadyH.cons (o := ⟨some 125, _, _, _, _, _⟩) rfl (fun K hK => ?_) AllReadyH.nil
            clear hHeld
            go_simp
            refine (HSW.out _ (RL2.out.below (Below.refl wr.heap.size wr).drew (Nat.le_refl _))).mono ?_
            rintro e w9 ⟨v9, rfl, hg9, hb9⟩
            obtain ⟨a9, c9, rfl⟩ := gr_form hg9
            obtain ⟨b9, o9, hp9, hl9, hc9⟩ := hg9.own.rd.get (by omega)
            subst hp9
            have hbd := (Below.refl wr.heap.size wr).drew.trans hb9
            have s0 := hc9 (k * 4) (by omega)
            have s1 := hc9 (k * 4 + 1) (by omega)
            have s2 := hc9 (k * 4 + 2) (by omega)
            have s3 := hc9 (k * 4 + 3) (by omega)
            rw [stpCs_0 Q k hlt, ← HQK.out] at s0
            rw [stpCs_1 Q k hlt, ← HQK.out, ← Nat.add_assoc] at s1
            rw [stpCs_2 Q k hlt, ← HQK.out, ← Nat.add_assoc] at s2
            rw [stpCs_3 Q k hlt, ← HQK.out, ← Nat.add_assoc] at s3
            have t0 := (hbd.cell (p := ⟨b7, o7 + k * 4, none⟩) hl7).trans r0
            have t1 := (hbd.cell (p := ⟨b7, o7 + k * 4 + 1, none⟩) hl7).trans r1
            have t2 := (hbd.cell (p := ⟨b7, o7 + k * 4 + 2, none⟩) hl7).trans r2
            have t3 := (hbd.cell (p := ⟨b7, o7 + k * 4 + 3, none⟩) hl7).trans r3
            have HB9 := Lib.hid (below_more HB.out hbd)
            have HT9 := Lib.hid (show _ ∧ _ ∧ _ ∧ _ from ⟨t0, t1, t2, t3⟩)
            clear hg9 hb9 hc9 hbd t0 t1 t2 t3
            refine hK.out _ _ HT9.out (fun hHeld => ?_)
            clear hK K
            (try simp only [Act.put, List.setIfInBounds_toArray, List.set_cons_zero, List.set_cons_succ])
            refine wpAnyH_take (i := 14) (oi := ⟨some 127, _, _, _, _, _⟩) (v := ?_) rfl (by kernel_rfl) (by kernel_rfl) (by kernel_rfl) (fun _ _ _ h => h) (Or.inl ⟨by rfl, ?_⟩) (by assumption) ?_
            rotate_left
            · intro w' hSw
              (try dsimp only at hSw)
              go_simp
              try with_reducible rfl
            (try simp only [Act.put, List.setIfInBounds_toArray, List.set_cons_zero, List.set_cons_succ])
            refine wpAnyH_ready (rs := [15]) (by kernel_rfl) (by simp) ?_
            refine AllReadyH.cons (o := ⟨some 128, _, _, _, _, _⟩) rfl (fun K hK => ?_) AllReadyH.nil
            clear hHeld
            go_simp
            refine hK.out _ _ HT9.out (fun hHeld => ?_)
            clear hK K s0 s1 s2 s3
            (try simp only [Act.put, List.setIfInBounds_toArray, List.set_cons_zero, List.set_cons_succ])
            refine wpAnyH_take (i := 16) (oi := ⟨some 129, _, _, _, _, _⟩) (v := ?_) rfl (by kernel_rfl) (by kernel_rfl) (by kernel_rfl) (fun _ _ _ h => h) (Or.inl ⟨by rfl, ?_⟩) (by assumption) ?_
            rotate_left
            · intro w' hSw
              (try dsimp only at hSw)
              go_simp
              try with_reducible rfl
            (try simp only [Act.put, List.setIfInBounds_toArray, List.set_cons_zero, List.set_cons_succ])
            refine wpAnyH_take (i := 17) (oi := ⟨some 130, _, _, _, _, _⟩) (v := ?_) rfl (by kernel_rfl) (by kernel_rfl) (by kernel_rfl) (fun _ _ _ h => h) (Or.inl ⟨by rfl, ?_⟩) (by assumption) ?_
            rotate_left
            · intro w' hSw
              (try dsimp only at hSw)
              go_simp
              try with_reducible rfl
            (try simp only [Act.put, List.setIfInBounds_toArray, List.set_cons_zero, List.set_cons_succ])
            refine wpAnyH_done (by kernel_rfl) ?_ _
            clear hHeld
            go_wp2_with fail
            go_roundw
            case rel =>
              have fin : FsRel Q.length Z (.int .i64 ((k : Int) + 1)) w9 := ⟨k + 1, by omega, by go_num, HB9.out⟩
              first | exact fin | ((repeat apply Exists.intro); exact ⟨fin, rfl⟩)
            case measure => simp [intOf]; omega
          · obtain rfl : k = Q.length := by omega
            have BZ := Lib.hid (below_more BW.out HB.out)
            clear HB RW2 hlt hk
            by_cases hC : C = 0
            · by_cases hl0 : l.length = 0
              · have dC : (C != 0) = false := by simpa using hC
                have dl : ((l.length : Int) == 0) = true := by rw [hl0]; rfl
                clear hC HCD hl0
                go_wp2_with fail
                go_ret
                exact ⟨rfl, BZ.out⟩
              · have dC : (C != 0) = false := by simpa using hC
                have dl : ((l.length : Int) == 0) = false := beq_false_of_ne (by omega)
                have HD := Lib.hid (fun w h => implCode (.slice a5 (l.length - 1) c5) l.dropLast m w h (by simp; omega))
                rw [HCD.out hC] at HD
                have m0 : IntKind.i64.wrap ((l.length : Int) - 1) = ((l.length - 1 : Nat) : Int) := by rw [IntWalk.i64_in _ (by omega)]; omega
                have m1 : wrap64 ((l.length : Int) - 1) = ((l.length - 1 : Nat) : Int) := by rw [IntWalk.wrap64_in _ (by omega)]; omega
                have e0 : ((l.length - 1 : Nat) : Int) ≤ (c5 : Int) := by omega
                have e1 : l.length - 1 ≤ c5 := by omega
                clear hC HCD
                go_wp2_with fail
                refine (HD.out _ (rd_drop RL2.out)).mono ?_
                rintro e w9 ⟨rfl, hb9⟩
                have B9 := Lib.hid (below_more BZ.out hb9)
                clear hb9
                go_wp2_with fail
                go_ret
                exact ⟨rfl, B9.out⟩
            · have dC : (C != 0) = true := by simpa using hC
              clear hC HCD
              go_wp2_with fail
              go_ret
              exact ⟨rfl, BZ.out⟩
end Go.Proofs.YthkbllkhomjmbaaDoor
