/- Slices of Extent in the laws: copied, measured, compared, marked. -/
import Derived.Test.YtmhmjofmafeidaaLDirty
namespace Go.Proofs.Ytmhmjofmafeidaa
open Go.RowKit

abbrev extT := Int × Int
def extCs : List extT → List Value
  | [] => []
  | d :: l => .int .i64 d.1 :: .int .i64 d.2 :: extCs l
theorem extCs_length : ∀ l : List extT, (extCs l).length = l.length * 2
  | [] => rfl
  | d :: l => by simp [extCs, extCs_length l]; omega
theorem extCs_0 : ∀ (l : List extT) (k : Nat) (h : k < l.length), (extCs l)[k * 2]? = some (.int .i64 l[k].1)
  | d :: l, 0, _ => rfl
  | d :: l, k + 1, h => by
    rw [show (k + 1) * 2 = k * 2 + 1 + 1 by omega]
    simpa [extCs] using extCs_0 l k (by simpa using h)
theorem extCs_1 : ∀ (l : List extT) (k : Nat) (h : k < l.length), (extCs l)[k * 2 + 1]? = some (.int .i64 l[k].2)
  | d :: l, 0, _ => rfl
  | d :: l, k + 1, h => by
    rw [show (k + 1) * 2 + 1 = k * 2 + 1 + 1 + 1 by omega]
    simpa [extCs] using extCs_1 l k (by simpa using h)
theorem extCs_append : ∀ (a b : List extT), extCs (a ++ b) = extCs a ++ extCs b
  | [], b => rfl
  | d :: a, b => by simp only [List.cons_append, extCs]; rw [extCs_append a b]
set_option maxRecDepth 100000 in
set_option maxHeartbeats 400000 in
theorem toExtent_any (x0 : Int) (x1 : Int) (w : World) :
    Calls Try.prog 60 #[.agg #[.int .i64 x0, .int .i64 x1]] w fun e w' => e = .returned (.agg #[.int .i64 x0, .int .i64 x1]) ∧ Below w.heap.size w w' := by
  go_enter Try.func60, Try.ntmps60
  go_wp2_with fail
  refine bodyPost_ret (v := .agg #[.int .i64 x0, .int .i64 x1]) (by simp [results, Try.results60, go_sem]) rfl ⟨rfl, ?_⟩
  exact (((Below.refl _ _).alloc (Nat.le_refl _) _).alloc (by simp) _).alloc (by simp; omega) _
set_option maxRecDepth 100000 in
set_option maxHeartbeats 400000 in
theorem eqExtent_any (x0 : Int) (x1 : Int) (w : World) :
    Calls Try.prog 59 #[.agg #[.int .i64 x0, .int .i64 x1], .agg #[.int .i64 x0, .int .i64 x1]] w fun e w' => e = .returned (.bool true) ∧ Below w.heap.size w w' := by
  have d0 : (x0 != x0) = false := by simp
  have d1 : (x1 != x1) = false := by simp
  go_enter Try.func59, Try.ntmps59
  go_wp2_with fail
  go_ret
  exact ⟨rfl, ((Below.refl _ _).alloc (Nat.le_refl _) _).alloc (by simp) _⟩
theorem Try.infoext : (Try.prog.info? 40).map (fun i => (i.zero, i.size, i.bytes)) = some (some (.agg #[.int .i64 0, .int .i64 0]), 2, 16) := by kernel_rfl
def extPart (l : List extT) (k j : Nat) : Value := if j < k * 2 then (extCs l).getD j undef else if j % 2 = 0 then .int .i64 0 else .int .i64 0
def extCopyRel (w : World) (l : List extT) (i : Value) (wr : World) : Prop :=
  ∃ k : Nat, k ≤ l.length ∧ i = .int .i64 k ∧ CellsAt wr w.heap.size 40 (l.length * 2) (extPart l k) ∧ Below w.heap.size w wr
theorem made_ext {w1 : World} {g n : Nat} {l : List extT} (h : w1.heap[g]? = some (.cells (madeCells #[Value.int .i64 0, Value.int .i64 0] (n * 2)).toList.toArray 40 (0, 0))) : CellsAt w1 g 40 (n * 2) (extPart l 0) := by
  refine cellsAt_list h (n * 2) _ (by simp [madeCells]) (fun j hj => ?_)
  have h2 : j % 2 = 0 ∨ j % 2 = 1 := by omega
  rcases h2 with h2 | h2 <;> simp [madeCells, hj, extPart, h2]
theorem ext_laid {w2 : World} {g n k : Nat} {T : TypeId} {l : List extT} (h : CellsAt w2 g T n (extPart l k)) (hk : k < l.length) :
    CellsAt ((w2.setCell ⟨g, k * 2, none⟩ (.int .i64 l[k].1)).setCell ⟨g, k * 2 + 1, none⟩ (.int .i64 l[k].2)) g T n (extPart l (k + 1)) := by
  refine ((h.set (v' := fun j => if j = k * 2 then .int .i64 l[k].1 else extPart l k j) (k * 2) _ (if_pos rfl) (fun i hi => if_neg hi)).set (v' := fun j => if j = k * 2 + 1 then .int .i64 l[k].2 else if j = k * 2 then .int .i64 l[k].1 else extPart l k j) (k * 2 + 1) _ (if_pos rfl) (fun i hi => if_neg hi)).congr fun j _ => ?_
  have e0 := extCs_0 l k hk
  have e1 := extCs_1 l k hk
  by_cases h1 : j = k * 2 + 1
  · subst h1; simp [extPart, e1]; try omega
  by_cases h0 : j = k * 2
  · subst h0; simp [extPart, e0]; try omega
  simp only [h0, h1, if_false, extPart]
  by_cases h9 : j < k * 2
  · rw [if_pos h9, if_pos (by omega)]
  · rw [if_neg h9, if_neg (by omega)]

set_option maxRecDepth 100000 in
set_option maxHeartbeats 1000000 in
theorem toExtents_any (v : Value) (l : List extT) (w : World) (h : Rd w v l.length 2 (extCs l)) (hn : l.length ≤ 1048576) :
    Calls Try.prog 39 #[v] w (MadeRow w l.length 2 (extCs l)) := by
  obtain ⟨i0, hi, hz0, hz1, hz2⟩ := info_parts Try.infoext
  obtain ⟨_, a, c, rfl, hc⟩ := h
  have HC := Lib.hid hc
  clear hc
  go_enter Try.func39, Try.ntmps39
  go_wp2_with (at_make; refine wpList_make_full _ rfl _ _ 26 rfl w.heap.size 40 i0 (.agg #[.int .i64 0, .int .i64 0]) 2 Try.underlying26 hi hz0 hz1 .i64 .i64 _ _ l.length rfl rfl (by omega) (by omega) (by rw [hz2]; omega) (by unfold maxLen; omega) (Nat.le_refl _) ?_)
  intro w1 hown1 hgrow1
  have hb1 : Below w.heap.size w w1 := (Below.refl _ w).grown hgrow1 (Nat.le_refl _) (by simp)
  have hg1 := own_block' hown1
  have HG1 := Lib.hid (made_ext (l := l) hg1)
  have HB1 := Lib.hid hb1
  clear hown1 hgrow1 hg1 hb1 hi hz0 hz1 hz2
  go_wp2_with fail
  go_loopw [4] (fun i wr => extCopyRel w l i wr) (fun i _ => l.length - (intOf i).toNat)
  case atStart => exact ⟨0, by omega, rfl, HG1.out, HB1.out⟩
  case round =>
    clear HG1 HB1
    obtain ⟨k, hk, rfl, hcs, hbel⟩ := hrel
    by_cases hlt : k < l.length
    · obtain ⟨b, off, rfl, hbl, hcell⟩ := HC.out (by omega)
      have hc0 : wr.cell? ⟨b, off + k * 2, none⟩ = some (.int .i64 l[k].1) := by
        rw [hbel.cell (p := ⟨b, off + k * 2, none⟩) hbl, hcell (k * 2) (by omega), extCs_0 l k hlt]
      have hc1 : wr.cell? ⟨b, off + k * 2 + 1, none⟩ = some (.int .i64 l[k].2) := by
        rw [hbel.cell (p := ⟨b, off + k * 2 + 1, none⟩) hbl, Nat.add_assoc, hcell (k * 2 + 1) (by omega), extCs_1 l k hlt]
      have HCS := Lib.hid hcs
      have HBEL := Lib.hid hbel
      have hsz := hbel.size
      clear hcs hbel hcell
      go_wp2_with fail
      refine (toExtent_any _ _ _).mono ?_
      rintro e w2 ⟨rfl, hb2⟩
      have hcs2 := HCS.out.below hb2 HCS.out.lt
      have g0 := hcs2.cell (k * 2) (by omega)
      have f0 := hcs2.frozen (k * 2)
      generalize extPart l k (k * 2) = v0 at g0
      have g1 := hcs2.cell (k * 2 + 1) (by omega)
      have f1 := hcs2.frozen (k * 2 + 1)
      generalize extPart l k (k * 2 + 1) = v1 at g1
      have HC2 := Lib.hid hcs2
      have HB2 := Lib.hid (HBEL.out.trans (hb2.mono hsz))
      clear hcs2 hb2
      go_wp2_with fail
      go_roundw
      case rel =>
        refine ⟨k + 1, by omega, by go_num, ?_, ?_⟩
        · exact ext_laid HC2.out hlt
        · exact ((HB2.out.setCell (p := ⟨w.heap.size, k * 2, none⟩) (Nat.le_refl _) _).setCell (p := ⟨w.heap.size, k * 2 + 1, none⟩) (Nat.le_refl _) _)
      case measure => simp [intOf]; omega
    · obtain rfl : k = l.length := by omega
      have HCS := Lib.hid hcs
      have HBEL := Lib.hid hbel
      clear hcs hbel
      go_wp2_with fail
      go_ret
      refine ⟨_, rfl, ?_, HBEL.out⟩
      refine own_of_cells HCS.out (Nat.le_refl _) (Nat.le_refl _) (extCs_length l) (fun j hj => ?_)
      unfold extPart
      rw [if_pos hj, List.getD_eq_getElem?_getD, List.getElem?_eq_getElem (by rw [extCs_length]; exact hj)]; rfl

set_option maxRecDepth 100000 in
set_option maxHeartbeats 1000000 in
theorem eqExtents_any (v u : Value) (l : List extT) (w : World) (h : Rd w v l.length 2 (extCs l)) (k : Rd w u l.length 2 (extCs l)) (hn : l.length ≤ maxLen) :
    Calls Try.prog 34 #[v, u] w fun e w' => e = .returned (.bool true) ∧ Below w.heap.size w w' := by
  unfold maxLen at hn
  obtain ⟨_, a, c, rfl, hc⟩ := h
  obtain ⟨_, a', c', rfl, hc'⟩ := k
  have HC := Lib.hid hc
  have HC' := Lib.hid hc'
  clear hc hc'
  have d0 : ((l.length : Int) != (l.length : Int)) = false := by simp
  go_enter Try.func34, Try.ntmps34
  go_wp2_with fail
  go_loopw [5] (fun i wr => DEqRel w l.length i wr) (fun i _ => l.length - (intOf i).toNat)
  case atStart => exact ⟨0, by omega, rfl, Below.refl _ _⟩
  case round =>
    obtain ⟨k, hk, rfl, hbel⟩ := hrel
    by_cases hlt : k < l.length
    · obtain ⟨b, off, rfl, hbl, hcell⟩ := HC.out (by omega)
      obtain ⟨b', off', rfl, hbl', hcell'⟩ := HC'.out (by omega)
      have hc0 : wr.cell? ⟨b, off + k * 2, none⟩ = some (.int .i64 l[k].1) := by
        rw [hbel.cell (p := ⟨b, off + k * 2, none⟩) hbl, hcell (k * 2) (by omega), extCs_0 l k hlt]
      have hc1 : wr.cell? ⟨b, off + k * 2 + 1, none⟩ = some (.int .i64 l[k].2) := by
        rw [hbel.cell (p := ⟨b, off + k * 2 + 1, none⟩) hbl, Nat.add_assoc, hcell (k * 2 + 1) (by omega), extCs_1 l k hlt]
      have hd0 : wr.cell? ⟨b', off' + k * 2, none⟩ = some (.int .i64 l[k].1) := by
        rw [hbel.cell (p := ⟨b', off' + k * 2, none⟩) hbl', hcell' (k * 2) (by omega), extCs_0 l k hlt]
      have hd1 : wr.cell? ⟨b', off' + k * 2 + 1, none⟩ = some (.int .i64 l[k].2) := by
        rw [hbel.cell (p := ⟨b', off' + k * 2 + 1, none⟩) hbl', Nat.add_assoc, hcell' (k * 2 + 1) (by omega), extCs_1 l k hlt]
      have hbs := hbel.size
      have HBEL := Lib.hid hbel
      clear hcell hcell' hbel
      have e0 : (k : Int) < (l.length : Int) := by omega
      have e1 : (0 : Int) ≤ (k : Int) := by omega
      go_wp2_with fail
      go_still_tail 8, (by kernel_rfl)
      change wpList _ _ _ _ _ wr.drew
      go_wp2_with fail
      refine (eqExtent_any _ _ _).mono ?_
      rintro e w2 ⟨rfl, hb2⟩
      have HB2 := Lib.hid (HBEL.out.drew.trans (hb2.mono hbs))
      clear hb2
      go_wp2_with fail
      go_roundw
      case rel => exact ⟨k + 1, by omega, by go_num, HB2.out⟩
      case measure => simp [intOf]; omega
    · obtain rfl : k = l.length := by omega
      have HBEL := Lib.hid hbel
      clear hbel
      go_wp2_with fail
      go_ret
      exact ⟨rfl, HBEL.out⟩

/-- The mark of cell j. -/
def extMark (k j : Nat) : Value := if j % 2 = 0 then .int .i64 ((k + j : Nat) : Int) else .int .i64 ((k + j : Nat) : Int)
def extMarks (k n : Nat) : List Value := (List.range (n * 2)).map (extMark k)
def extMarked (k i : Nat) (xs : List Value) : List Value := (List.range xs.length).map fun j => if j < i then extMark k j else xs.getD j undef
theorem extMarked_zero (k : Nat) (xs : List Value) : extMarked k 0 xs = xs := by
  apply List.ext_getElem
  · simp [extMarked]
  · intro j h1 h2; simp [extMarked, h2]
theorem extMarked_all (k n : Nat) (xs : List Value) (h : xs.length = n * 2) : extMarked k (n * 2) xs = extMarks k n := by
  apply List.ext_getElem
  · simp [extMarked, extMarks, h]
  · intro j h1 h2; simp [extMarked, h] at h1; simp [extMarked, extMarks, h1]
theorem extMarked_set (k i : Nat) (xs : List Value) : (extMarked k i xs).set i (extMark k i) = extMarked k (i + 1) xs := by
  apply List.ext_getElem
  · simp [extMarked]
  · intro j h1 h2
    rw [List.getElem_set]
    by_cases hj : i = j
    · subst hj; simp [extMarked]
    · rw [if_neg hj]; simp only [extMarked, List.getElem_map, List.getElem_range]
      by_cases hji : j < i
      · rw [if_pos hji, if_pos (by omega)]
      · rw [if_neg hji, if_neg (by omega)]
theorem extMarks_at (k n j : Nat) (h : j < n * 2) : (extMarks k n)[j]? = some (extMark k j) := by simp [extMarks, h]
theorem extMark_0 (k j : Nat) : extMark k (j * 2) = .int .i64 ((k + j * 2 : Nat) : Int) := by unfold extMark; rw [if_pos (by omega)]
theorem extMark_1 (k j : Nat) : extMark k (j * 2 + 1) = .int .i64 ((k + j * 2 + 1 : Nat) : Int) := by unfold extMark; rw [if_neg (by omega)]; rfl
def extMarkRel (lo : Nat) (v : Value) (k n : Nat) (xs : List Value) (w : World) (q i : Value) (wr : World) : Prop :=
  ∃ j : Nat, j ≤ n ∧ q = .int .i64 ((k + j * 2 : Nat) : Int) ∧ i = .int .i64 j ∧ Own wr lo v n 2 (extMarked k (j * 2) xs) ∧ w.grownBy wr (blk v n)
def extHeldRel (k n : Nat) (w : World) (q i : Value) (wr : World) : Prop :=
  ∃ j : Nat, j ≤ n ∧ q = .int .i64 ((k + j * 2 : Nat) : Int) ∧ i = .int .i64 j ∧ Below w.heap.size w wr

set_option maxRecDepth 100000 in
set_option maxHeartbeats 1000000 in
theorem markExtents_any (lo : Nat) (v : Value) (n k : Nat) (xs : List Value) (w : World) (h : Own w lo v n 2 xs) (hn : n ≤ 1048576) (h0 : 1 ≤ k) (h1 : k ≤ 1000000000) :
    Calls Try.prog 36 #[v, .int .i64 k] w (Marked lo v n 2 (extMarks k n) ((k + n * 2 : Nat) : Int) w) := by
  have hlx : xs.length = n * 2 := h.1
  obtain ⟨a, c, rfl, _⟩ := h.2
  have HO := Lib.hid h
  have HX := Lib.hid hlx
  clear h hlx
  go_enter Try.func36, Try.ntmps36
  go_wp2_with fail
  go_loopw [1, 5] (fun q i wr => extMarkRel lo (.slice a n c) k n xs w q i wr) (fun _ i _ => n - (intOf i).toNat)
  case atStart => exact ⟨0, by omega, rfl, rfl, by rw [Nat.zero_mul, extMarked_zero]; exact HO.out, World.grownBy.refl w _⟩
  case round =>
    clear HO
    obtain ⟨j, hj, rfl, rfl, hown, hg⟩ := hrel
    by_cases hlt : j < n
    · obtain ⟨b, off, rfl, hlo, hbl, q1, q2⟩ := hown.get (by omega)
      clear q1 q2
      obtain ⟨⟨u0, hc0⟩, hf0⟩ := hown.cellEx (j * 2) (by omega)
      obtain ⟨⟨u1, hc1⟩, hf1⟩ := hown.cellEx (j * 2 + 1) (by omega)
      have hown0 := hown.set (j * 2) (extMark k (j * 2)) (by omega) ⟨u0, hc0⟩
      have hown1 := hown0.set (j * 2 + 1) (extMark k (j * 2 + 1)) (by omega) ⟨u1, by rw [World.cell?_setCell_other (h := by simp)]; exact hc1⟩
      rw [blk_pos (by omega)] at hg
      have hgx := grown_set (b := b) (i := off + (j * 2 + 1)) (x := extMark k (j * 2 + 1)) (grown_set (b := b) (i := off + (j * 2)) (x := extMark k (j * 2)) (hg))
      rw [extMarked_set, extMarked_set] at hown1
      have HO1 := Lib.hid hown1
      have HG1 := Lib.hid hgx
      rw [extMark_0, extMark_1] at HO1 HG1
      clear hown hg hgx hown0 hown1
      rw [← Nat.add_assoc] at hc1 hf1
      simp only [← Nat.add_assoc] at HO1 HG1
      go_wp2_with fail
      go_roundw
      case rel =>
        refine ⟨j + 1, by omega, by go_num, by go_num, ?_, by rw [blk_pos (by omega)]; exact HG1.out⟩
        rw [show (j + 1) * 2 = j * 2 + 1 + 1 by omega]
        exact HO1.out
      case measure => simp [intOf]; omega
    · obtain rfl : j = n := by omega
      have HOWN := Lib.hid hown
      have HG := Lib.hid hg
      clear hown hg
      go_wp2_with fail
      go_ret
      refine ⟨rfl, ?_, HG.out⟩
      have := HOWN.out
      rw [extMarked_all k j xs HX.out] at this
      exact this

set_option maxRecDepth 100000 in
set_option maxHeartbeats 1000000 in
theorem heldExtents_any (v : Value) (n k : Nat) (w : World) (h : Rd w v n 2 (extMarks k n)) (hn : n ≤ 1048576) (h0 : 1 ≤ k) (h1 : k ≤ 1000000000) :
    Calls Try.prog 37 #[v, .int .i64 k] w (Held ((k + n * 2 : Nat) : Int) w) := by
  obtain ⟨_, a, c, rfl, hc⟩ := h
  have HC := Lib.hid hc
  clear hc
  go_enter Try.func37, Try.ntmps37
  go_wp2_with fail
  go_loopw [1, 5] (fun q i wr => extHeldRel k n w q i wr) (fun _ i _ => n - (intOf i).toNat)
  case atStart => exact ⟨0, by omega, rfl, rfl, Below.refl _ _⟩
  case round =>
    obtain ⟨j, hj, rfl, rfl, hbel⟩ := hrel
    by_cases hlt : j < n
    · obtain ⟨b, off, rfl, hbl, hcell⟩ := HC.out (by omega)
      have hc0 : wr.cell? ⟨b, off + j * 2, none⟩ = some (.int .i64 ((k + j * 2 : Nat) : Int)) := by
        rw [hbel.cell (p := ⟨b, off + j * 2, none⟩) hbl, hcell (j * 2) (by omega), extMarks_at k n _ (by omega), extMark_0]
      have hc1 : wr.cell? ⟨b, off + j * 2 + 1, none⟩ = some (.int .i64 ((k + j * 2 + 1 : Nat) : Int)) := by
        rw [hbel.cell (p := ⟨b, off + j * 2 + 1, none⟩) hbl, Nat.add_assoc, hcell (j * 2 + 1) (by omega), extMarks_at k n _ (by omega), extMark_1]
      have hblr : b < wr.heap.size := Nat.lt_of_lt_of_le hbl hbel.size
      have hsz := hbel.size
      have HBEL := Lib.hid hbel
      clear hcell hbel
      have e0 : (j : Int) < (n : Int) := by omega
      have e1 : (0 : Int) ≤ (j : Int) := by omega
      have d0 : (((k + j * 2 : Nat) : Int) != ((k + j * 2 : Nat) : Int)) = false := by simp
      have d1 : (((k + j * 2 + 1 : Nat) : Int) != ((k + j * 2 + 1 : Nat) : Int)) = false := by simp
      have s1 : ((k + j * 2 : Nat) : Int) + 1 = ((k + j * 2 + 1 : Nat) : Int) := by omega
      go_wp2_with fail
      go_roundw
      case rel => exact ⟨j + 1, by omega, by go_num, by go_num, HBEL.out⟩
      case measure => simp [intOf]; omega
    · obtain rfl : j = n := by omega
      have HBEL := Lib.hid hbel
      clear hbel
      go_wp2_with fail
      go_ret
      exact ⟨rfl, HBEL.out⟩
end Go.Proofs.Ytmhmjofmafeidaa
