/- A flash in the laws: copied, measured, compared, marked. -/
import Derived.Test.YtocjjkjjojdpdaaLDirty
namespace Go.Proofs.Ytocjjkjjojdpdaa
open Go.RowKit

/-- A flash as the mathematics has it. -/
structure FM where
  sec : List ByteArray
  dir : List D
def FRd (w : World) (sv dv : Value) (F : FM) : Prop := Rd w sv F.sec.length 1 (strs F.sec) ∧ Rd w dv F.dir.length 2 (dirs F.dir)
/-- A flash of the call's own; its two slices lie apart. -/
def FOwn (w : World) (lo : Nat) (sv dv : Value) (F : FM) : Prop :=
  Own w lo sv F.sec.length 1 (strs F.sec) ∧ Own w lo dv F.dir.length 2 (dirs F.dir) ∧ ∀ k, blk sv F.sec.length = some k → blk dv F.dir.length ≠ some k
def FMade (w : World) (F : FM) (e : Ending) (w' : World) : Prop := ∃ sv dv, e = .returned (.agg #[sv, dv]) ∧ FOwn w' w.heap.size sv dv F ∧ Below w.heap.size w w'
/-- What a flash may take, and how great its parts are. -/
def FFits (F : FM) : Prop := F.sec.length ≤ 1048576 ∧ F.dir.length ≤ 1048576
def FReach (F : FM) : Prop := F.sec.length ≤ maxLen ∧ F.dir.length ≤ maxLen ∧ (∀ s ∈ F.sec, s.size ≤ maxLen) ∧ ∀ d ∈ F.dir, d.2.size ≤ maxLen
theorem FRd.below {w w' : World} {sv dv : Value} {F : FM} {B : Nat} (h : FRd w sv dv F) (hb : Below B w w') (hB : w.heap.size ≤ B) : FRd w' sv dv F := ⟨h.1.below hb hB, h.2.below hb hB⟩
theorem FOwn.below {w w' : World} {lo : Nat} {sv dv : Value} {F : FM} {B : Nat} (h : FOwn w lo sv dv F) (hb : Below B w w') (hB : w.heap.size ≤ B) : FOwn w' lo sv dv F := ⟨h.1.below hb hB, h.2.1.below hb hB, h.2.2⟩
theorem FOwn.rd {w : World} {lo : Nat} {sv dv : Value} {F : FM} (h : FOwn w lo sv dv F) : FRd w sv dv F := ⟨h.1.rd, h.2.1.rd⟩
theorem FOwn.lower {w : World} {lo lo' : Nat} {sv dv : Value} {F : FM} (h : FOwn w lo sv dv F) (hl : lo' ≤ lo) : FOwn w lo' sv dv F := ⟨h.1.lower hl, h.2.1.lower hl, h.2.2⟩
theorem two_cells {w w1 : World} {K : Nat} {T : TypeId} {a b : Value} (hb : Below K (w.alloc (.cells #[a, b] T)) w1) (hK : w.heap.size < K) : w1.cell? ⟨w.heap.size, 0, none⟩ = some a ∧ w1.cell? ⟨w.heap.size, 1, none⟩ = some b := by
  have hc : ∀ j, w1.cell? ⟨w.heap.size, j, none⟩ = (#[a, b] : Array Value)[j]? := fun j =>
    (hb.cell (p := ⟨w.heap.size, j, none⟩) hK).trans (World.cell?_alloc_new (w := w) #[a, b] T j)
  exact ⟨hc 0, hc 1⟩

set_option maxRecDepth 100000 in
set_option maxHeartbeats 1000000 in
theorem szFlash_any (sv dv : Value) (F : FM) (left : Int) (w : World) (h : FRd w sv dv F) (hr : FReach F) (h0 : 0 ≤ left) (h1 : left ≤ 1048576) :
    Calls Try.prog 7 #[.agg #[sv, dv], .int .i64 left] w (LeftB left (FFits F ∧ (∀ s ∈ F.sec, s.size ≤ 1048576) ∧ ∀ d ∈ F.dir, d.2.size ≤ 1048576) w) := by
  obtain ⟨r1, r2, r3, r4⟩ := hr
  have H1 := Lib.hid (h.1.below ((Below.refl w.heap.size w).alloc (Nat.le_refl _) (.cells #[sv, dv] 27)) (Nat.le_refl _))
  have H2 := Lib.hid (h.2.below ((Below.refl w.heap.size w).alloc (Nat.le_refl _) (.cells #[sv, dv] 27)) (Nat.le_refl _))
  have R1 := Lib.hid r1
  have R2 := Lib.hid r2
  have R3 := Lib.hid r3
  have R4 := Lib.hid r4
  have HB := Lib.hid ((Below.refl w.heap.size w).alloc (Nat.le_refl _) (.cells #[sv, dv] 27))
  clear h r1 r2 r3 r4
  go_enter Try.func7, Try.ntmps7
  go_wp2_with fail
  refine (szStrs_any sv F.sec left _ H1.out R1.out R3.out h0 h1).mono ?_
  rintro e w1 ⟨r, rfl, rfl, hq⟩
  rcases hq with rfl | ⟨hq0, hq1, hq2, hq3⟩
  · go_wp2_with fail
    go_ret
    exact ⟨-1, rfl, HB.out, .inl rfl⟩
  · have d0 : decide (r < 0) = false := decide_eq_false (by omega)
    have Q3 := Lib.hid hq3
    clear hq3
    go_wp2_with fail
    refine (szDirs_any dv F.dir r _ H2.out R2.out R4.out hq0 (by omega)).mono ?_
    rintro e w2 ⟨q, rfl, hb2, hq⟩
    have HB2 := Lib.hid (HB.out.trans (hb2.mono (by simp)))
    clear hb2
    rcases hq with rfl | ⟨ha0, ha1, ha2, ha3⟩
    · go_wp2_with fail
      go_ret
      exact ⟨-1, rfl, HB2.out, .inl rfl⟩
    · have d1 : decide (q < 0) = false := decide_eq_false (by omega)
      have Q4 := Lib.hid ha3
      clear ha3
      go_wp2_with fail
      go_ret
      exact ⟨q, rfl, HB2.out, .inr ⟨ha0, by omega, ⟨by omega, by omega⟩, fun s hs => by have := Q3.out s hs; omega, fun d hd => by have := Q4.out d hd; omega⟩⟩

set_option maxRecDepth 100000 in
set_option maxHeartbeats 1000000 in
theorem toFlash_any (sv dv : Value) (F : FM) (w : World) (h : FRd w sv dv F) (hf : FFits F) :
    Calls Try.prog 10 #[.agg #[sv, dv]] w (FMade w F) := by
  have HR := Lib.hid h
  have HF := Lib.hid hf
  clear h hf
  go_enter Try.func10, Try.ntmps10
  go_wp2_with fail
  have hb3 : Below w.heap.size w (((w.alloc (.cells #[sv, dv] 27)).alloc (.cells #[.slice none 0 0, .slice none 0 0] 33)).alloc (.cells #[.slice none 0 0, .slice none 0 0] 33)) := (((Below.refl _ w).alloc (Nat.le_refl _) _).alloc (by simp) _).alloc (by simp; omega) _
  have k0 : (((w.alloc (.cells #[sv, dv] 27)).alloc (.cells #[.slice none 0 0, .slice none 0 0] 33)).alloc (.cells #[.slice none 0 0, .slice none 0 0] 33)).heap[w.heap.size]? = some (.cells #[sv, dv] 27 (0, 0)) := (heap_alloc_old _ _ (by simp; omega)).trans (heap_alloc2_old w _ _)
  have k1 : (((w.alloc (.cells #[sv, dv] 27)).alloc (.cells #[.slice none 0 0, .slice none 0 0] 33)).alloc (.cells #[.slice none 0 0, .slice none 0 0] 33)).heap[w.heap.size + 1]? = some (.cells #[.slice none 0 0, .slice none 0 0] 33 (0, 0)) := (heap_alloc_old _ _ (by simp)).trans (heap_alloc2_new w _ _)
  have k2 : (((w.alloc (.cells #[sv, dv] 27)).alloc (.cells #[.slice none 0 0, .slice none 0 0] 33)).alloc (.cells #[.slice none 0 0, .slice none 0 0] 33)).heap[w.heap.size + 2]? = some (.cells #[.slice none 0 0, .slice none 0 0] 33 (0, 0)) := by
    have := heap_alloc_new ((w.alloc (.cells #[sv, dv] 27)).alloc (.cells #[.slice none 0 0, .slice none 0 0] 33)) (.cells #[.slice none 0 0, .slice none 0 0] 33)
    have e : ((w.alloc (.cells #[sv, dv] 27)).alloc (.cells #[.slice none 0 0, .slice none 0 0] 33)).heap.size = w.heap.size + 2 := by simp
    rwa [e] at this
  have kz : w.heap.size + 3 ≤ (((w.alloc (.cells #[sv, dv] 27)).alloc (.cells #[.slice none 0 0, .slice none 0 0] 33)).alloc (.cells #[.slice none 0 0, .slice none 0 0] 33)).heap.size := by simp
  generalize ((w.alloc (.cells #[sv, dv] 27)).alloc (.cells #[.slice none 0 0, .slice none 0 0] 33)).alloc (.cells #[.slice none 0 0, .slice none 0 0] 33) = W at *
  refine (toStrs_any sv F.sec _ (HR.out.1.below hb3 (Nat.le_refl _)) HF.out.1).mono ?_
  rintro e w1 ⟨v1, rfl, ho1, hb1⟩
  obtain ⟨a1, n1, rfl, _⟩ := id ho1.2
  have hz1 : W.heap.size ≤ w1.heap.size := hb1.size
  have m0 := (hb1.block w.heap.size (by omega)).trans k0
  have m1 := (hb1.block (w.heap.size + 1) (by omega)).trans k1
  have m2 := (hb1.block (w.heap.size + 2) (by omega)).trans k2
  have hbw1 : Below w.heap.size w w1 := hb3.trans (hb1.mono (by omega))
  have c01 := cell_of_row w1 w.heap.size 1 _ _ _ m0
  have c20 := cell_of_row w1 (w.heap.size + 2) 0 _ _ _ m2
  have c21 := cell_of_row w1 (w.heap.size + 2) 1 _ _ _ m2
  have f20 := frozen_of_row w1 (w.heap.size + 2) 0 _ _ m2
  have f21 := frozen_of_row w1 (w.heap.size + 2) 1 _ _ m2
  simp only [List.getElem?_toArray, List.getElem?_cons_zero, List.getElem?_cons_succ] at c01 c20 c21
  have M1 := Lib.hid m1
  have M2 := Lib.hid m2
  have O1 := Lib.hid ho1
  have HBW1 := Lib.hid hbw1
  clear hb3 k0 k1 k2 hb1 m0 m1 m2 ho1 hbw1
  go_wp2_with fail
  have hbs : Below w.heap.size w (w1.setCell ⟨w.heap.size + 2, 0, none⟩ (.slice a1 F.sec.length n1)) := HBW1.out.setCell (p := ⟨w.heap.size + 2, 0, none⟩) (by simp) _
  refine (toDirs_any dv F.dir _ (HR.out.2.below hbs (Nat.le_refl _)) HF.out.2).mono ?_
  rintro e w2 ⟨v2, rfl, ho2, hb2⟩
  obtain ⟨a2, n2, rfl, _⟩ := id ho2.2
  simp only [World.size_setCell] at ho2 hb2
  have hz2 : w1.heap.size ≤ w2.heap.size := by have := hb2.size; simpa using this
  have q1 := (hb2.block (w.heap.size + 1) (by omega)).trans ((Below.heap_setCell w1 ⟨w.heap.size + 2, 0, none⟩ _ _ (by simp)).trans M1.out)
  have q2 := (hb2.block (w.heap.size + 2) (by omega)).trans (heap_setCell_same w1 (w.heap.size + 2) 0 _ _ (.slice a1 F.sec.length n1) M2.out)
  have hbw2 : Below w.heap.size w w2 := hbs.trans (hb2.mono (by omega))
  have c10 := cell_of_row w2 (w.heap.size + 1) 0 _ _ _ q1
  have c11 := cell_of_row w2 (w.heap.size + 1) 1 _ _ _ q1
  have c20 := cell_of_row w2 (w.heap.size + 2) 0 _ _ _ q2
  have c21 := cell_of_row w2 (w.heap.size + 2) 1 _ _ _ q2
  have f10 := frozen_of_row w2 (w.heap.size + 1) 0 _ _ q1
  have f11 := frozen_of_row w2 (w.heap.size + 1) 1 _ _ q1
  have f20 := frozen_of_row w2 (w.heap.size + 2) 0 _ _ q2
  have f21 := frozen_of_row w2 (w.heap.size + 2) 1 _ _ q2
  simp at c10 c11 c20 c21
  have ho1' := (O1.out.other ⟨w.heap.size + 2, 0, none⟩ (.slice a1 F.sec.length n1) (fun k hk => by have := (O1.out.blk k hk).1; simp; omega)).below hb2 (by simp)
  have O1' := Lib.hid ho1'
  have O2 := Lib.hid ho2
  have hbk1 : ∀ k, blk (.slice a1 F.sec.length n1) F.sec.length = some k → w.heap.size + 3 ≤ k ∧ k < w1.heap.size := fun k hk => by have := O1.out.blk k hk; omega
  have hbk2 : ∀ k, blk (.slice a2 F.dir.length n2) F.dir.length = some k → w1.heap.size ≤ k := fun k hk => (ho2.blk k hk).1
  have K1 := Lib.hid hbk1
  have K2 := Lib.hid hbk2
  have HBW2 := Lib.hid hbw2
  clear hb2 q1 q2 ho1' ho2 hbw2 hbk1 hbk2 O1 M1 M2 c01 hbs
  go_wp2_with fail
  refine bodyPost_ret (v := .agg #[.slice a1 F.sec.length n1, .slice a2 F.dir.length n2]) (by simp [results, Try.results10, go_sem, c10, c11]) rfl ⟨_, _, rfl, ⟨?_, ?_, ?_⟩, ?_⟩
  · refine Own.other (Own.other (Own.other (O1'.out.lower (by omega)) _ _ (fun k hk => ?_)) _ _ (fun k hk => ?_)) _ _ (fun k hk => ?_) <;> (have := (K1.out k hk).1; simp; omega)
  · refine Own.other (Own.other (Own.other (O2.out.lower (by omega)) _ _ (fun k hk => ?_)) _ _ (fun k hk => ?_)) _ _ (fun k hk => ?_) <;> (have := K2.out k hk; simp; omega)
  · intro k h1 h2
    have := (K1.out k h1).2
    have := K2.out k h2
    omega
  · exact ((HBW2.out.setCell (by simp; omega) _).setCell (by simp) _).setCell (by simp) _

set_option maxRecDepth 100000 in
set_option maxHeartbeats 1000000 in
theorem eqFlash_any (sv dv tv ev : Value) (F : FM) (w : World) (h : FRd w sv dv F) (k : FRd w tv ev F) (hn : FFits F) :
    Calls Try.prog 14 #[.agg #[sv, dv], .agg #[tv, ev]] w fun e w' => e = .returned (.bool true) ∧ Below w.heap.size w w' := by
  have hb := ((Below.refl w.heap.size w).alloc (Nat.le_refl _) (.cells #[sv, dv] 33)).alloc (by simp) (.cells #[tv, ev] 33)
  have H := Lib.hid (h.below hb (Nat.le_refl _))
  have K := Lib.hid (k.below hb (Nat.le_refl _))
  have HB := Lib.hid hb
  have h1 : F.sec.length ≤ maxLen := by have := hn.1; unfold maxLen; omega
  have h2 : F.dir.length ≤ maxLen := by have := hn.2; unfold maxLen; omega
  have H1 := Lib.hid h1
  have H2 := Lib.hid h2
  clear h k hb hn h1 h2
  go_enter Try.func14, Try.ntmps14
  go_wp2_with fail
  refine (eqStrs_any sv tv F.sec _ H.out.1 K.out.1 H1.out).mono ?_
  rintro e w1 ⟨rfl, m, rfl⟩
  go_wp2_with fail
  refine (eqDirs_any dv ev F.dir _ H.out.2.drewN K.out.2.drewN H2.out).mono ?_
  rintro e w2 ⟨rfl, hb2⟩
  have HB2 := Lib.hid ((below_drewN HB.out m).trans (hb2.mono (by simp; omega)))
  clear hb2
  go_wp2_with fail
  go_ret
  exact ⟨rfl, HB2.out⟩

/-- A flash all of whose cells are marked from k on. -/
def FMarked (w : World) (lo : Nat) (sv dv : Value) (n m k : Nat) : Prop :=
  Own w lo sv n 1 (marks k n) ∧ Own w lo dv m 2 (marksD (k + n) m) ∧ ∀ j, blk sv n = some j → blk dv m ≠ some j
set_option maxRecDepth 100000 in
set_option maxHeartbeats 1000000 in
theorem markFlash_any (lo : Nat) (sv dv : Value) (F : FM) (k : Nat) (w : World) (h : FOwn w lo sv dv F) (hn : FFits F) (h0 : 1 ≤ k) (h1 : k ≤ 100000000) :
    Calls Try.prog 16 #[.agg #[sv, dv], .int .i64 k] w fun e w' => e = .returned (.int .i64 ((k + F.sec.length + F.dir.length * 2 : Nat) : Int)) ∧ FMarked w' lo sv dv F.sec.length F.dir.length k ∧ Two (blk sv F.sec.length) (blk dv F.dir.length) w w' := by
  obtain ⟨n1, n2⟩ := hn
  have hb := (Below.refl w.heap.size w).alloc (Nat.le_refl _) (.cells #[sv, dv] 33)
  have H := Lib.hid (h.below hb (Nat.le_refl _))
  have HB := Lib.hid hb
  have hs1 : ∀ j, blk sv F.sec.length = some j → j < w.heap.size := fun j hj => (h.1.blk j hj).2
  have hs2 : ∀ j, blk dv F.dir.length = some j → j < w.heap.size := fun j hj => (h.2.1.blk j hj).2
  have S1 := Lib.hid hs1
  have S2 := Lib.hid hs2
  clear h hb hs1 hs2
  go_enter Try.func16, Try.ntmps16
  go_wp2_with fail
  refine (markStrs_any lo sv F.sec.length k _ _ H.out.1 n1 h0 (by omega)).mono ?_
  rintro e w1 ⟨rfl, ho1, hg1⟩
  have c1 : w1.cell? ⟨w.heap.size, 1, none⟩ = some dv := by
    rw [World.cell?_of_block (w := w.alloc (.cells #[sv, dv] 33)) (a := ⟨w.heap.size, 1, none⟩) (hg1.block w.heap.size (by simp) (fun e => by have := S1.out _ e.symm; omega)), World.cell?_alloc_new]; rfl
  have o2 := H.out.2.1.grown hg1 (fun hp e => by
    obtain ⟨_, a, c, rfl, h2⟩ := H.out.2.1
    obtain ⟨b, off, rfl, _⟩ := h2 hp
    exact H.out.2.2 b (e.symm) (blk_pos hp))
  have O2 := Lib.hid o2
  have O1 := Lib.hid ho1
  have G1 := Lib.hid hg1
  clear ho1 hg1 o2
  go_wp2_with fail
  refine (markDirs_any lo dv F.dir.length (k + F.sec.length) _ _ O2.out n2 (by omega) (by omega)).mono ?_
  rintro e w2 ⟨rfl, ho2, hg2⟩
  have o1 := O1.out.grown hg2 (fun hp e => by
    obtain ⟨_, a, c, rfl, h2⟩ := O1.out
    obtain ⟨b, off, rfl, _⟩ := h2 hp
    exact H.out.2.2 b (blk_pos hp) e.symm)
  have O1' := Lib.hid o1
  have O2' := Lib.hid ho2
  have T := Lib.hid ((two_below HB.out).trans ((two_left (d := blk dv F.dir.length) G1.out).trans (two_right (s := blk sv F.sec.length) hg2)))
  clear ho2 hg2 o1
  go_wp2_with fail
  go_ret
  exact ⟨rfl, ⟨O1'.out, O2'.out, H.out.2.2⟩, T.out⟩

set_option maxRecDepth 100000 in
set_option maxHeartbeats 1000000 in
theorem heldFlash_any (lo : Nat) (sv dv : Value) (n m k : Nat) (w : World) (h : FMarked w lo sv dv n m k) (hn : n ≤ 1048576) (hm : m ≤ 1048576) (h0 : 1 ≤ k) (h1 : k ≤ 100000000) :
    Calls Try.prog 49 #[.agg #[sv, dv], .int .i64 k] w (Held ((k + n + m * 2 : Nat) : Int) w) := by
  have hb := (Below.refl w.heap.size w).alloc (Nat.le_refl _) (.cells #[sv, dv] 33)
  have H1 := Lib.hid (h.1.rd.below hb (Nat.le_refl _))
  have H2 := Lib.hid (h.2.1.rd.below hb (Nat.le_refl _))
  have HB := Lib.hid hb
  clear h hb
  go_enter Try.func49, Try.ntmps49
  go_wp2_with fail
  refine (heldStrs_any sv n k _ H1.out hn h0 (by omega)).mono ?_
  rintro e w1 ⟨rfl, hb1⟩
  obtain ⟨_, c1⟩ := two_cells hb1 (by simp)
  have R2 := Lib.hid (H2.out.below hb1 (Nat.le_refl _))
  have HB1 := Lib.hid (HB.out.trans (hb1.mono (by simp)))
  have d0 : decide (((k + n : Nat) : Int) < 0) = false := decide_eq_false (by omega)
  clear hb1
  go_wp2_with fail
  refine (heldDirs_any dv m (k + n) _ R2.out hm (by omega) (by omega)).mono ?_
  rintro e w2 ⟨rfl, hb2⟩
  have HB2 := Lib.hid (HB1.out.trans (hb2.mono HB1.out.size))
  have d1 : decide (((k + n + m * 2 : Nat) : Int) < 0) = false := decide_eq_false (by omega)
  clear hb2
  go_wp2_with fail
  go_ret
  exact ⟨rfl, HB2.out⟩
end Go.Proofs.Ytocjjkjjojdpdaa
