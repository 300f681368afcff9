/- The program's closed. -/
import Derived.Test.YtkeimgglikdbfaaIOpened
import Derived.Deep.RegionLaw
import Derived.Deep.AppendLies
import Derived.BigRegion
namespace Go.Proofs.Ytkeimgglikdbfaa
open Go.RowKit

/-- The writes in their order. -/
def listOf (m : Int → Option ByteArray) (ord : List Int) : List D := ord.map fun x => (x, (m x).getD ByteArray.empty)
theorem listOf_length (m : Int → Option ByteArray) (ord : List Int) : (listOf m ord).length = ord.length := by simp [listOf]
theorem listOf_at (m : Int → Option ByteArray) (ord : List Int) (k : Nat) (h : k < ord.length) (s : ByteArray) (hs : m ord[k] = some s) : (listOf m ord)[k]'(by simpa [listOf] using h) = (ord[k], s) := by simp [listOf, hs]
theorem dirs_snoc (l : List D) (k : Nat) (h : k < l.length) : dirs (l.take (k + 1)) = dirs (l.take k) ++ [.int .i64 l[k].1, .string l[k].2] := by
  rw [List.take_succ_eq_append_getElem h]
  generalize l.take k = a
  generalize l[k] = d
  induction a with
  | nil => rfl
  | cons x a ih => simp only [List.cons_append, dirs]; rw [ih]
def ClRel (L : List D) (W : World) (fb : Nat) (sv : Value) (i : Value) (wr : World) : Prop :=
  ∃ (k : Nat) (dv : Value), k ≤ L.length ∧ i = .int .i64 k ∧ Bx wr fb 26 #[sv, dv] ∧ wr.ownsRow (fb + 1) 63 2 dv k (dirs (L.take k)) ∧ Below fb W wr

set_option maxHeartbeats 4000000 in
set_option maxRecDepth 100000 in
theorem implClosed (lo pb mb N : Nat) (sv ov : Value) (S : List ByteArray) (m : Int → Option ByteArray) (ord : List Int) (w : World) (h : OF w lo pb mb N sv ov S m ord)
    (hS : S.length ≤ 1048576) (hord : ord.length ≤ 1048576) (hm : ∀ x ∈ ord, (m x).isSome = true ∧ 0 ≤ x ∧ x ≤ 1048576) :
    Calls Try.prog 33 #[.pointer (some ⟨pb, 0, none⟩)] w (FMade w ⟨S, listOf m ord⟩) := by
  obtain ⟨i0, hi, hz0, hz1, hz2⟩ := info_parts Try.infoD
  obtain ⟨a, c, rfl, -⟩ := id h.sec.2
  obtain ⟨ao, co, rfl⟩ := h.form
  have H := Lib.hid h
  have HM := Lib.hid hm
  have hpb := h.box.lt
  clear h hm
  have c0 := (H.out.next (below_alloc1 w (.cells #[.slice none 0 0, .slice none 0 0] 26))).c0
  go_enter Try.func33, Try.ntmps33
  go_wp2_with fail
  have X0 := Lib.hid (bx_new w 26 #[.slice none 0 0, .slice none 0 0])
  have B0 := Lib.hid (below_alloc1 w (.cells #[.slice none 0 0, .slice none 0 0] 26))
  have z0 := size_alloc1 w (.cells #[.slice none 0 0, .slice none 0 0] 26)
  generalize w.alloc (.cells #[.slice none 0 0, .slice none 0 0] 26) = W0 at *
  refine (cloneS _ S W0 (H.out.next B0.out).sec.rd hS).mono ?_
  rintro e w1 ⟨v, rfl, ho, hb⟩
  obtain ⟨a1, p1, rfl, -⟩ := id ho.2
  have g1 : W0.heap.size ≤ w1.heap.size := hb.size
  have b1 := below_alloc1 w1 (.cells #[.slice a1 S.length p1, .slice none 0 0] 26)
  have z1 := size_alloc1 w1 (.cells #[.slice a1 S.length p1, .slice none 0 0] 26)
  have B1 := Lib.hid (B0.out.trans (hb.mono (by omega)))
  have c2 := (H.out.next (B1.out.trans (b1.mono (by omega)))).c2
  have X1 := Lib.hid (X0.out.next hb)
  have O1 := Lib.hid ho
  have XF := Lib.hid (bx_new w1 26 #[.slice a1 S.length p1, .slice none 0 0])
  clear ho hb X0 B0 c0
  go_wp2_with fail
  generalize hW1 : w1.alloc (.cells #[.slice a1 S.length p1, .slice none 0 0] 26) = W1 at *
  have BF := Lib.hid b1
  clear b1 hW1
  obtain ⟨L, hL⟩ : ∃ L, L = listOf m ord := ⟨_, rfl⟩
  have hLl : L.length = ord.length := by rw [hL, listOf_length]
  have HL := Lib.hid hL
  clear hL
  go_loopw [17] (fun i wr => ClRel L w1 w1.heap.size (.slice a1 S.length p1) i wr) (fun i _ => ord.length - (intOf i).toNat)
  case atStart => exact ⟨0, _, by omega, rfl, XF.out, ⟨rfl, .inl ⟨rfl, rfl⟩⟩, BF.out⟩
  case round =>
    clear c2
    obtain ⟨k, dv, hk, rfl, hbx, hrow, hbw⟩ := hrel
    by_cases hlt : k < ord.length
    · have hof := H.out.next (B1.out.trans (hbw.mono (by omega)))
      have hxm := HM.out ord[k] (List.getElem_mem hlt)
      obtain ⟨s, hs⟩ := Option.isSome_iff_exists.1 hxm.1
      have hat : L[k]'(by omega) = (ord[k], s) := by
        have := listOf_at m ord k hlt s hs
        simp only [← HL.out] at this; exact this
      have hl := look_yes hof.map ord[k] s hs (by omega) (by omega) false
      simp only [Bool.false_eq_true, if_false] at hl
      have hl' : (Instr.lookup 77 (.map (some mb)) (.int .i64 ord[k]) false).run Try.prog wr.drew = .ok (.string s) wr.drew := by
        have := look_yes hof.drew.map ord[k] s hs (by omega) (by omega) false
        simpa only [Bool.false_eq_true, if_false] using this
      have p1' := hof.c1
      have f0 := hbx.c0
      have f1 := hbx.c1
      obtain ⟨g, rfl⟩ : ∃ g, ao = some ⟨g, 0, none⟩ := by
        rcases hof.row.2 with ⟨_, e0⟩ | ⟨g, cap, _, e, _⟩
        · omega
        · simp at e; exact ⟨g, e.1⟩
      have ho : wr.cell? ⟨g, k, none⟩ = some (.int .i64 ord[k]) := by rw [hof.row.cellAt k (by omega), ints_at _ _ hlt]
      have e0 : (k : Int) < (ord.length : Int) := by omega
      have e1 : (0 : Int) ≤ (k : Int) := by omega
      have hfb : w1.heap.size < wr.heap.size := hbx.lt
      have fa1 : (wr.alloc (.cells #[.int .i64 ord[k], .string s] 63)).cell? ⟨w1.heap.size, 1, none⟩ = some dv := (hbx.next (below_alloc1 wr _)).c1
      have HROW := Lib.hid hrow
      have HBX := Lib.hid hbx
      have HBW := Lib.hid hbw
      have hne : some w1.heap.size ≠ dv.ownBlock := fun e => by have := (HROW.out.lt _ e.symm).1; omega
      have NE := Lib.hid hne
      have fz1 : (wr.alloc (.cells #[.int .i64 ord[k], .string s] 63)).frozen? ⟨w1.heap.size, 1, none⟩ = false := (HBX.out.next (below_alloc1 wr _)).frozen 1
      clear hof hrow hbx hbw hne
      go_wp2_with fail
      go_region_law (refine step_append_lies _ (by rfl) _ _ _ (by rfl) (w1.heap.size + 1) 63 i0 _ 2 24 Try.underlying24 hi hz0 hz1 hz2 rfl (by omega) dv k (dirs (L.take k)) (by rfl) ((HROW.out.alloc _).drew) ⟨wr.heap.size, 0, none⟩ 1 1 [.int .i64 ord[k], .string s] (by rfl) (by rfl) (World.news_of_block (cs := #[.int .i64 ord[k], .string s]) (t := 63) (fr := (0, 0)) (heap_alloc_new wr _)) (by simp [Value.oneCell']) (by omega) (by unfold maxLen; omega) (by omega) (by simp; omega) (wr.heap.size + 1) (by simp) ?_; intro gg cap w3 hown3 hgrow hloc hlt3; have q1 : w3.cell? ⟨w1.heap.size, 1, none⟩ = some dv := (hgrow.cell_far _ (by simp; omega) NE.out).trans fa1; have q2 : w3.frozen? ⟨w1.heap.size, 1, none⟩ = false := (hgrow.frozen_far _ (by simp; omega) NE.out).trans fz1; have R3 := Lib.hid hown3; have G3 := Lib.hid hgrow; clear hown3 hgrow)
      all_goals (
        have RR := Lib.hid (show ClRel L w1 w1.heap.size (.slice a1 S.length p1) (.int .i64 ((k : Int) + 1)) (w3.setCell ⟨w1.heap.size, 1, none⟩ (.slice (some ⟨gg, 0, none⟩) (k + 1) cap)) by
          have hb3 : Bx w3 w1.heap.size 26 #[.slice a1 S.length p1, dv] := Bx.grown (w := (wr.alloc (.cells #[.int .i64 ord[k], .string s] 63)).drew) (HBX.out.next (below_alloc1 wr _).drew) G3.out NE.out
          refine ⟨k + 1, .slice (some ⟨gg, 0, none⟩) (k + 1) cap, by omega, by go_num, hb3.set _, ?_, ?_⟩
          · rw [dirs_snoc L k (by omega), hat]
            exact ownsRow_setCell_below R3.out (by simp) _
          · refine Below.setCell (p := ⟨w1.heap.size, 1, none⟩) ?_ (Nat.le_refl _) _
            refine (HBW.out.trans ((below_alloc1 wr (.cells #[.int .i64 ord[k], .string s] 63)).mono (by omega))).drew.trans (?_ : Below w1.heap.size _ w3)
            exact ⟨G3.out.os, G3.out.tape, G3.out.output, G3.out.size, fun j hj => G3.out.block j (by simp; omega) (fun e => by have := (HROW.out.lt j e.symm).1; omega)⟩)
        clear q1 q2 G3 R3 hloc hlt3 fa1 fz1 hl hl' p1' f0 f1 ho hi hz0 hz1 hz2
        go_wp2_with fail
        go_roundw
        case rel => first | exact RR.out | ((repeat apply Exists.intro); exact ⟨RR.out, rfl⟩)
        case measure => simp [intOf]; omega)
    · obtain rfl : k = ord.length := by omega
      have hb0 := X1.out.below hbw (by omega)
      have y0 := hbx.c0
      have y1 := hbx.c1
      have r0 := hb0.c0
      have r1 := hb0.c1
      have s0 := hb0.frozen 0
      have s1 := hb0.frozen 1
      obtain ⟨ad, cd, rfl⟩ : ∃ ad cd, dv = .slice ad ord.length cd := by
        rcases hrow.2 with ⟨e, e0⟩ | ⟨g, cap, _, e, _⟩
        · rw [e0]; exact ⟨_, _, e⟩
        · exact ⟨_, _, e⟩
      rw [← hLl, List.take_length] at hrow
      have HROW := Lib.hid hrow
      have OS := Lib.hid (O1.out.below hbw (Nat.le_refl _))
      have BW := Lib.hid (B1.out.trans (hbw.mono (by omega)))
      clear hb0 hbx hrow hbw hi hz0 hz1 hz2
      go_wp2_with fail
      refine bodyPost_ret (v := .agg #[.slice a1 S.length p1, .slice ad ord.length cd]) (by simp [results, Try.results33, go_sem, r0, r1]) rfl ⟨_, _, rfl, ⟨?_, ?_, ?_⟩, ?_⟩
      · refine Own.other (Own.other (OS.out.lower (by omega)) _ _ (fun k hk => ?_)) _ _ (fun k hk => ?_) <;> (have := (OS.out.blk k hk).1; simp; omega)
      · have ho := own_of_row HROW.out
        rw [hLl] at ho
        show Own _ _ _ (listOf m ord).length 2 (dirs (listOf m ord))
        rw [← HL.out, hLl]
        refine Own.other (Own.other (ho.lower (by omega)) _ _ (fun k hk => ?_)) _ _ (fun k hk => ?_) <;> (have := (ho.blk k hk).1; simp; omega)
      · intro k h1 h2
        have ho := own_of_row HROW.out
        have e1 := (O1.out.blk k h1).2
        rw [hLl] at ho
        have h2' : blk (.slice ad ord.length cd) ord.length = some k := by
          have h3 : blk (.slice ad ord.length cd) (listOf m ord).length = some k := h2
          rwa [← HL.out, hLl] at h3
        have e2 := (ho.blk k h2').1
        omega
      · exact (BW.out.setCell (p := ⟨w.heap.size, 0, none⟩) (Nat.le_refl _) _).setCell (p := ⟨w.heap.size, 1, none⟩) (Nat.le_refl _) _
end Go.Proofs.Ytkeimgglikdbfaa
