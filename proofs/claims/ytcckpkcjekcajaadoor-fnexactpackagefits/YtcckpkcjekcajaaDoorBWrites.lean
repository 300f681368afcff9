/- Writes: the specification's and the program's. -/
import Derived.Test.YtcckpkcjekcajaaDoorM2
import Derived.Test.YtcckpkcjekcajaaDoorBStepM
namespace Go.Proofs.YtcckpkcjekcajaaDoor
open Go.RowKit

/-- The steps among the first k that are no labels. -/
def wrT (l : List stpT) (k : Nat) : List stpT := (l.take k).filter fun s => s.1 != 5
def writesL (l : List stpT) : List stpT := if 20 < l.length then [] else wrT l l.length
theorem wrT_zero (l : List stpT) : wrT l 0 = [] := rfl
theorem wrT_no (l : List stpT) (k : Nat) (h : k < l.length) (h5 : l[k].1 = 5) : wrT l (k + 1) = wrT l k := by
  unfold wrT
  rw [List.take_succ_eq_append_getElem h, List.filter_append]
  simp [h5]
theorem wrT_yes (l : List stpT) (k : Nat) (h : k < l.length) (h5 : l[k].1 ≠ 5) : wrT l (k + 1) = wrT l k ++ [l[k]] := by
  unfold wrT
  rw [List.take_succ_eq_append_getElem h, List.filter_append]
  simp [h5]
theorem wrT_len (l : List stpT) (k : Nat) : (wrT l k).length ≤ k := by
  unfold wrT
  have h1 := List.length_filter_le (fun s : stpT => s.1 != 5) (l.take k)
  have h2 : (l.take k).length ≤ k := by simp; omega
  omega
theorem writesL_len (l : List stpT) : (writesL l).length ≤ 20 := by
  unfold writesL
  split
  · simp
  · have := wrT_len l l.length; omega
theorem stpCs_snoc (l : List stpT) (x : stpT) : stpCs (l ++ [x]) = stpCs l ++ [.int .i64 x.1, .int .i64 x.2.1, .int .i64 x.2.2.1, .string x.2.2.2] := by rw [stpCs_append]; rfl
theorem four_new (w : World) (x y z u : Value) (t : TypeId) : ∀ j v, [x, y, z, u][j]? = some v → (w.alloc (.cells #[x, y, z, u] t)).cell? ((⟨w.heap.size, 0, none⟩ : Addr).add j) = some v := by
  intro j u hj
  rw [Addr.add_lit, (bx_new w t #[x, y, z, _]).cell]
  simpa using hj
theorem gr_form {w : World} {lo e sz n : Nat} {v : Value} {xs : List Value} (h : Gr w lo e sz v n xs) : ∃ a c, v = .slice a n c := by
  obtain ⟨a, c, rfl, -⟩ := h.own.2
  exact ⟨a, c, rfl⟩
/-- What a call gives that makes a list of steps which may be appended to. -/
def MadeS (w : World) (l : List stpT) (e : Ending) (w' : World) : Prop := ∃ v, e = .returned v ∧ Gr w' w.heap.size 33 4 v l.length (stpCs l) ∧ Below w.heap.size w w'
theorem MadeS.row {w w' : World} {l : List stpT} {e : Ending} (h : MadeS w l e w') : MadeRow w l.length 4 (stpCs l) e w' := by
  obtain ⟨v, h1, h2, h3⟩ := h
  exact ⟨v, h1, h2.own, h3⟩
def WrRel (l : List stpT) (w : World) (lv i : Value) (wr : World) : Prop :=
  ∃ k : Nat, k ≤ l.length ∧ i = .int .i64 k ∧ Gr wr w.heap.size 33 4 lv (wrT l k).length (stpCs (wrT l k)) ∧ Below w.heap.size w wr


set_option maxRecDepth 100000 in
set_option maxHeartbeats 2000000 in
theorem implWrites (v : Value) (l : List stpT) (w : World) (h : Rd w v l.length 4 (stpCs l)) (hn : l.length ≤ 1048576) :
    Calls Tryd.prog 34 #[v] w (MadeS w (writesL l)) := by
  obtain ⟨i0, hi, hz0, hz1, hz2⟩ := info_parts Tryd.infostp
  obtain ⟨a, c, rfl, -⟩ := id h.2
  have HV := Lib.hid h
  clear h
  obtain ⟨R, hR⟩ : ∃ R, R = writesL l := ⟨_, rfl⟩
  rw [← hR]
  unfold writesL at hR
  by_cases hbig : 20 < l.length
  · rw [if_pos hbig] at hR
    subst hR
    have d0 : decide ((l.length : Int) ≤ 20) = false := decide_eq_false (by omega)
    have d1 : decide ((20 : Int) < (l.length : Int)) = true := decide_eq_true (by omega)
    go_enter Tryd.func34, Tryd.ntmps34
    go_wp2_with fail
    go_ret
    exact ⟨_, rfl, Gr.nil _ _ _ _, Below.refl _ _⟩
  rw [if_neg hbig] at hR
  have HR := Lib.hid hR
  clear hR
  have d9 : decide ((l.length : Int) ≤ 20) = true := decide_eq_true (by omega)
  go_enter Tryd.func34, Tryd.ntmps34
  go_wp2_with fail
  go_loopw [3, 11] (fun lv i wr => WrRel l w lv i wr) (fun _ i _ => l.length - (intOf i).toNat)
  case atStart => exact ⟨0, by omega, rfl, Gr.nil _ _ _ _, Below.refl _ _⟩
  case round =>
    obtain ⟨k, hk, rfl, hg, hb⟩ := hrel
    obtain ⟨a3, c3, rfl⟩ := gr_form hg
    have HG := Lib.hid hg
    have HB := Lib.hid hb
    have hsz := hb.size
    by_cases hlt : k < l.length
    · obtain ⟨b, off, rfl, hbl, hcell⟩ := HV.out.get (by omega)
      have r0 : wr.cell? ⟨b, off + k * 4, none⟩ = some (.int .i64 l[k].1) := by rw [hb.cell (p := ⟨b, off + k * 4, none⟩) hbl, hcell (k * 4) (by omega), stpCs_0 l k hlt]
      have r1 : wr.cell? ⟨b, off + k * 4 + 1, none⟩ = some (.int .i64 l[k].2.1) := by rw [hb.cell (p := ⟨b, off + k * 4 + 1, none⟩) hbl, Nat.add_assoc, hcell (k * 4 + 1) (by omega), stpCs_1 l k hlt]
      have r2 : wr.cell? ⟨b, off + k * 4 + 2, none⟩ = some (.int .i64 l[k].2.2.1) := by rw [hb.cell (p := ⟨b, off + k * 4 + 2, none⟩) hbl, Nat.add_assoc, hcell (k * 4 + 2) (by omega), stpCs_2 l k hlt]
      have r3 : wr.cell? ⟨b, off + k * 4 + 3, none⟩ = some (.string l[k].2.2.2) := by rw [hb.cell (p := ⟨b, off + k * 4 + 3, none⟩) hbl, Nat.add_assoc, hcell (k * 4 + 3) (by omega), stpCs_3 l k hlt]
      have e0 : (k : Int) < (l.length : Int) := by omega
      have e1 : (0 : Int) ≤ (k : Int) := by omega
      have hl1 := wrT_len l k
      have hbl2 : ∀ b, blk (.slice a3 (wrT l k).length c3) (wrT l k).length = some b → w.heap.size ≤ b := fun b hb => (HG.out.own.blk b hb).1
      have HBL := Lib.hid hbl2
      have hstp : stpCs [l[k]] = [.int .i64 l[k].1, .int .i64 l[k].2.1, .int .i64 l[k].2.2.1, .string l[k].2.2.2] := rfl
      clear hcell hb hg hbl2
      by_cases h5 : l[k].1 = 5
      · have HX := Lib.hid (wrT_no l k hlt h5)
        rw [h5] at r0
        clear h5 hstp
        go_wp2_with fail
        go_roundw
        case rel =>
          refine ⟨k + 1, by omega, by go_num, ?_, ?_⟩
          · rw [HX.out]; exact HG.out.below (below_alloc1 wr _) (Nat.le_refl _)
          · exact HB.out.trans ((below_alloc1 wr _).mono hsz)
        case measure => simp [intOf]; omega
      · have HX := Lib.hid (wrT_yes l k hlt h5)
        have d5 : (l[k].1 == 5) = false := by simpa using h5
        have d6 : (l[k].1 != 5) = true := by simpa using h5
        clear h5 hstp
        obtain ⟨x, hx⟩ : ∃ x, x = l[k] := ⟨_, rfl⟩
        rw [← hx] at r0 r1 r2 r3 d5 d6 HX
        clear hx
        go_wp2_with ((with_reducible show wpList _ _ _ (⟨some 21, _, _, _, _, _⟩ :: _) _ _); refine wpList_append_gr (lo := w.heap.size) (e := 33) (sz := 4) (v := .slice a3 (wrT l k).length c3) (n := (wrT l k).length) (xs := stpCs (wrT l k)) rfl (.tmp 18) (.tmp 20) 24 rfl i0 _ 40 Tryd.underlying24 hi hz0 hz1 hz2 rfl (by decide) rfl (by rw [stpCs_length]) ?_ ⟨wr.heap.size + 1, 0, none⟩ 1 1 rfl [.int .i64 x.1, .int .i64 x.2.1, .int .i64 x.2.2.1, .string x.2.2.2] (by decide) rfl ?_ ?_ (by unfold maxLen; omega) (by omega) (by simp; omega) ?_)
        · exact HG.out.below ((below_alloc1 wr _).trans ((below_alloc1 _ _).mono (by simp))) (Nat.le_refl _)
        · have h9 := four_new (wr.alloc (.cells #[.int .i64 x.1, .int .i64 x.2.1, .int .i64 x.2.2.1, .string x.2.2.2] 33)) (.int .i64 x.1) (.int .i64 x.2.1) (.int .i64 x.2.2.1) (.string x.2.2.2) 33
          rw [size_alloc1] at h9
          exact h9
        · intro u hu; simp at hu; rcases hu with rfl | rfl | rfl | rfl <;> rfl
        · intro gg cc w4 hgn hgr hloc
          have hbw : Below w.heap.size wr w4 := (((below_alloc1 wr _).trans ((below_alloc1 _ _).mono (by simp))).mono hsz).trans ((Below.refl _ _).grown hgr (by simp; omega) HBL.out)
          have G4 := Lib.hid hgn
          have HB4 := Lib.hid (HB.out.trans hbw)
          clear hgn hgr hloc hbw
          go_wp2_with fail
          go_roundw
          case rel =>
            refine ⟨k + 1, by omega, by go_num, ?_, HB4.out⟩
            rw [HX.out, stpCs_snoc]
            have := G4.out
            simpa using this
          case measure => simp [intOf]; omega
    · obtain rfl : k = l.length := by omega
      have hRR : R = wrT l l.length := HR.out
      subst hRR
      clear hg hb
      go_wp2_with fail
      go_ret
      exact ⟨_, rfl, HG.out, HB.out⟩
end Go.Proofs.YtcckpkcjekcajaaDoor
