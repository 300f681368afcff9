/- Slices of Step in the laws: copied, measured, compared, marked. -/
import Derived.Test.YthkbllkhomjmbaaDoorLDirty
namespace Go.Proofs.YthkbllkhomjmbaaDoor
open Go.RowKit

abbrev stpT := Int × Int × Int × ByteArray
def stpCs : List stpT → List Value
  | [] => []
  | d :: l => .int .i64 d.1 :: .int .i64 d.2.1 :: .int .i64 d.2.2.1 :: .string d.2.2.2 :: stpCs l
theorem stpCs_length : ∀ l : List stpT, (stpCs l).length = l.length * 4
  | [] => rfl
  | d :: l => by simp [stpCs, stpCs_length l]; omega
theorem stpCs_0 : ∀ (l : List stpT) (k : Nat) (h : k < l.length), (stpCs l)[k * 4]? = some (.int .i64 l[k].1)
  | d :: l, 0, _ => rfl
  | d :: l, k + 1, h => by
    rw [show (k + 1) * 4 = k * 4 + 1 + 1 + 1 + 1 by omega]
    simpa [stpCs] using stpCs_0 l k (by simpa using h)
theorem stpCs_1 : ∀ (l : List stpT) (k : Nat) (h : k < l.length), (stpCs l)[k * 4 + 1]? = some (.int .i64 l[k].2.1)
  | d :: l, 0, _ => rfl
  | d :: l, k + 1, h => by
    rw [show (k + 1) * 4 + 1 = k * 4 + 1 + 1 + 1 + 1 + 1 by omega]
    simpa [stpCs] using stpCs_1 l k (by simpa using h)
theorem stpCs_2 : ∀ (l : List stpT) (k : Nat) (h : k < l.length), (stpCs l)[k * 4 + 2]? = some (.int .i64 l[k].2.2.1)
  | d :: l, 0, _ => rfl
  | d :: l, k + 1, h => by
    rw [show (k + 1) * 4 + 2 = k * 4 + 2 + 1 + 1 + 1 + 1 by omega]
    simpa [stpCs] using stpCs_2 l k (by simpa using h)
theorem stpCs_3 : ∀ (l : List stpT) (k : Nat) (h : k < l.length), (stpCs l)[k * 4 + 3]? = some (.string l[k].2.2.2)
  | d :: l, 0, _ => rfl
  | d :: l, k + 1, h => by
    rw [show (k + 1) * 4 + 3 = k * 4 + 3 + 1 + 1 + 1 + 1 by omega]
    simpa [stpCs] using stpCs_3 l k (by simpa using h)
theorem stpCs_append : ∀ (a b : List stpT), stpCs (a ++ b) = stpCs a ++ stpCs b
  | [], b => rfl
  | d :: a, b => by simp only [List.cons_append, stpCs]; rw [stpCs_append a b]
set_option maxRecDepth 100000 in
set_option maxHeartbeats 400000 in
theorem eqStep_any (x0 : Int) (x1 : Int) (x2 : Int) (x3 : ByteArray) (w : World) :
    Calls Tryd.prog 92 #[.agg #[.int .i64 x0, .int .i64 x1, .int .i64 x2, .string x3], .agg #[.int .i64 x0, .int .i64 x1, .int .i64 x2, .string x3]] w fun e w' => e = .returned (.bool true) ∧ Below w.heap.size w w' := by
  have d0 : (x0 != x0) = false := by simp
  have d1 : (x1 != x1) = false := by simp
  have d2 : (x2 != x2) = false := by simp
  go_enter Tryd.func92, Tryd.ntmps92
  go_wp2_with fail
  go_ret
  exact ⟨rfl, ((Below.refl _ _).alloc (Nat.le_refl _) _).alloc (by simp) _⟩
theorem Tryd.infostp : (Tryd.prog.info? 41).map (fun i => (i.zero, i.size, i.bytes)) = some (some (.agg #[.int .i64 0, .int .i64 0, .int .i64 0, .string ByteArray.empty]), 4, 40) := by kernel_rfl
def stpPart (l : List stpT) (k j : Nat) : Value := if j < k * 4 then (stpCs l).getD j undef else if j % 4 = 0 then .int .i64 0 else if j % 4 = 1 then .int .i64 0 else if j % 4 = 2 then .int .i64 0 else .string ByteArray.empty
def stpCopyRel (w : World) (l : List stpT) (i : Value) (wr : World) : Prop :=
  ∃ k : Nat, k ≤ l.length ∧ i = .int .i64 k ∧ CellsAt wr w.heap.size 41 (l.length * 4) (stpPart l k) ∧ Below w.heap.size w wr
theorem made_stp {w1 : World} {g n : Nat} {l : List stpT} (h : w1.heap[g]? = some (.cells (madeCells #[Value.int .i64 0, Value.int .i64 0, Value.int .i64 0, Value.string ByteArray.empty] (n * 4)).toList.toArray 41 (0, 0))) : CellsAt w1 g 41 (n * 4) (stpPart l 0) := by
  refine cellsAt_list h (n * 4) _ (by simp [madeCells]) (fun j hj => ?_)
  have h2 : j % 4 = 0 ∨ j % 4 = 1 ∨ j % 4 = 2 ∨ j % 4 = 3 := by omega
  rcases h2 with h2 | h2 | h2 | h2 <;> simp [madeCells, hj, stpPart, h2]
theorem stp_laid {w2 : World} {g n k : Nat} {T : TypeId} {l : List stpT} (h : CellsAt w2 g T n (stpPart l k)) (hk : k < l.length) :
    CellsAt ((((w2.setCell ⟨g, k * 4, none⟩ (.int .i64 l[k].1)).setCell ⟨g, k * 4 + 1, none⟩ (.int .i64 l[k].2.1)).setCell ⟨g, k * 4 + 2, none⟩ (.int .i64 l[k].2.2.1)).setCell ⟨g, k * 4 + 3, none⟩ (.string l[k].2.2.2)) g T n (stpPart l (k + 1)) := by
  refine ((((h.set (v' := fun j => if j = k * 4 then .int .i64 l[k].1 else stpPart l k j) (k * 4) _ (if_pos rfl) (fun i hi => if_neg hi)).set (v' := fun j => if j = k * 4 + 1 then .int .i64 l[k].2.1 else if j = k * 4 then .int .i64 l[k].1 else stpPart l k j) (k * 4 + 1) _ (if_pos rfl) (fun i hi => if_neg hi)).set (v' := fun j => if j = k * 4 + 2 then .int .i64 l[k].2.2.1 else if j = k * 4 + 1 then .int .i64 l[k].2.1 else if j = k * 4 then .int .i64 l[k].1 else stpPart l k j) (k * 4 + 2) _ (if_pos rfl) (fun i hi => if_neg hi)).set (v' := fun j => if j = k * 4 + 3 then .string l[k].2.2.2 else if j = k * 4 + 2 then .int .i64 l[k].2.2.1 else if j = k * 4 + 1 then .int .i64 l[k].2.1 else if j = k * 4 then .int .i64 l[k].1 else stpPart l k j) (k * 4 + 3) _ (if_pos rfl) (fun i hi => if_neg hi)).congr fun j _ => ?_
  have e0 := stpCs_0 l k hk
  have e1 := stpCs_1 l k hk
  have e2 := stpCs_2 l k hk
  have e3 := stpCs_3 l k hk
  by_cases h3 : j = k * 4 + 3
  · subst h3; simp [stpPart, e3]; try omega
  by_cases h2 : j = k * 4 + 2
  · subst h2; simp [stpPart, e2]; try omega
  by_cases h1 : j = k * 4 + 1
  · subst h1; simp [stpPart, e1]; try omega
  by_cases h0 : j = k * 4
  · subst h0; simp [stpPart, e0]; try omega
  simp only [h0, h1, h2, h3, if_false, stpPart]
  by_cases h9 : j < k * 4
  · rw [if_pos h9, if_pos (by omega)]
  · rw [if_neg h9, if_neg (by omega)]

def stpSizeRel (l : List stpT) (left : Int) (w : World) (x i : Value) (wr : World) : Prop :=
  ∃ (k : Nat) (r : Int), k ≤ l.length ∧ i = .int .i64 k ∧ x = .int .i64 r ∧ 0 ≤ r ∧ r ≤ left ∧ (∀ j (h : j < l.length), j < k → (l[j].2.2.2.size : Int) ≤ left) ∧ Below w.heap.size w wr
set_option maxRecDepth 100000 in
set_option maxHeartbeats 1000000 in
theorem eqSteps_any (v u : Value) (l : List stpT) (w : World) (h : Rd w v l.length 4 (stpCs l)) (k : Rd w u l.length 4 (stpCs l)) (hn : l.length ≤ maxLen) :
    Calls Tryd.prog 100 #[v, u] w fun e w' => e = .returned (.bool true) ∧ Below w.heap.size w w' := by
  unfold maxLen at hn
  obtain ⟨_, a, c, rfl, hc⟩ := h
  obtain ⟨_, a', c', rfl, hc'⟩ := k
  have HC := Lib.hid hc
  have HC' := Lib.hid hc'
  clear hc hc'
  have d0 : ((l.length : Int) != (l.length : Int)) = false := by simp
  go_enter Tryd.func100, Tryd.ntmps100
  go_wp2_with fail
  go_loopw [5] (fun i wr => DEqRel w l.length i wr) (fun i _ => l.length - (intOf i).toNat)
  case atStart => exact ⟨0, by omega, rfl, Below.refl _ _⟩
  case round =>
    obtain ⟨k, hk, rfl, hbel⟩ := hrel
    by_cases hlt : k < l.length
    · obtain ⟨b, off, rfl, hbl, hcell⟩ := HC.out (by omega)
      obtain ⟨b', off', rfl, hbl', hcell'⟩ := HC'.out (by omega)
      have hc0 : wr.cell? ⟨b, off + k * 4, none⟩ = some (.int .i64 l[k].1) := by
        rw [hbel.cell (p := ⟨b, off + k * 4, none⟩) hbl, hcell (k * 4) (by omega), stpCs_0 l k hlt]
      have hc1 : wr.cell? ⟨b, off + k * 4 + 1, none⟩ = some (.int .i64 l[k].2.1) := by
        rw [hbel.cell (p := ⟨b, off + k * 4 + 1, none⟩) hbl, Nat.add_assoc, hcell (k * 4 + 1) (by omega), stpCs_1 l k hlt]
      have hc2 : wr.cell? ⟨b, off + k * 4 + 2, none⟩ = some (.int .i64 l[k].2.2.1) := by
        rw [hbel.cell (p := ⟨b, off + k * 4 + 2, none⟩) hbl, Nat.add_assoc, hcell (k * 4 + 2) (by omega), stpCs_2 l k hlt]
      have hc3 : wr.cell? ⟨b, off + k * 4 + 3, none⟩ = some (.string l[k].2.2.2) := by
        rw [hbel.cell (p := ⟨b, off + k * 4 + 3, none⟩) hbl, Nat.add_assoc, hcell (k * 4 + 3) (by omega), stpCs_3 l k hlt]
      have hd0 : wr.cell? ⟨b', off' + k * 4, none⟩ = some (.int .i64 l[k].1) := by
        rw [hbel.cell (p := ⟨b', off' + k * 4, none⟩) hbl', hcell' (k * 4) (by omega), stpCs_0 l k hlt]
      have hd1 : wr.cell? ⟨b', off' + k * 4 + 1, none⟩ = some (.int .i64 l[k].2.1) := by
        rw [hbel.cell (p := ⟨b', off' + k * 4 + 1, none⟩) hbl', Nat.add_assoc, hcell' (k * 4 + 1) (by omega), stpCs_1 l k hlt]
      have hd2 : wr.cell? ⟨b', off' + k * 4 + 2, none⟩ = some (.int .i64 l[k].2.2.1) := by
        rw [hbel.cell (p := ⟨b', off' + k * 4 + 2, none⟩) hbl', Nat.add_assoc, hcell' (k * 4 + 2) (by omega), stpCs_2 l k hlt]
      have hd3 : wr.cell? ⟨b', off' + k * 4 + 3, none⟩ = some (.string l[k].2.2.2) := by
        rw [hbel.cell (p := ⟨b', off' + k * 4 + 3, none⟩) hbl', Nat.add_assoc, hcell' (k * 4 + 3) (by omega), stpCs_3 l k hlt]
      have hbs := hbel.size
      have HBEL := Lib.hid hbel
      clear hcell hcell' hbel
      have e0 : (k : Int) < (l.length : Int) := by omega
      have e1 : (0 : Int) ≤ (k : Int) := by omega
      go_wp2_with fail
      go_still_tail 8, (by kernel_rfl)
      change wpList _ _ _ _ _ wr.drew
      go_wp2_with fail
      refine (eqStep_any _ _ _ _ _).mono ?_
      rintro e w2 ⟨rfl, hb2⟩
      have HB2 := Lib.hid (HBEL.out.drew.trans (hb2.mono hbs))
      clear hb2
      go_wp2_with fail
      go_roundw
      case rel => exact ⟨k + 1, by omega, by go_num, HB2.out⟩
      case measure => simp [intOf]; omega
    · obtain rfl : k = l.length := by omega
      have HBEL := Lib.hid hbel
      clear hbel
      go_wp2_with fail
      go_ret
      exact ⟨rfl, HBEL.out⟩

/-- The mark of cell j. -/
def stpMark (k j : Nat) : Value := if j % 4 = 0 then .int .i64 ((k + j : Nat) : Int) else if j % 4 = 1 then .int .i64 ((k + j : Nat) : Int) else if j % 4 = 2 then .int .i64 ((k + j : Nat) : Int) else .string (markS (k + j))
def stpMarks (k n : Nat) : List Value := (List.range (n * 4)).map (stpMark k)
def stpMarked (k i : Nat) (xs : List Value) : List Value := (List.range xs.length).map fun j => if j < i then stpMark k j else xs.getD j undef
theorem stpMarked_zero (k : Nat) (xs : List Value) : stpMarked k 0 xs = xs := by
  apply List.ext_getElem
  · simp [stpMarked]
  · intro j h1 h2; simp [stpMarked, h2]
theorem stpMarked_all (k n : Nat) (xs : List Value) (h : xs.length = n * 4) : stpMarked k (n * 4) xs = stpMarks k n := by
  apply List.ext_getElem
  · simp [stpMarked, stpMarks, h]
  · intro j h1 h2; simp [stpMarked, h] at h1; simp [stpMarked, stpMarks, h1]
theorem stpMarked_set (k i : Nat) (xs : List Value) : (stpMarked k i xs).set i (stpMark k i) = stpMarked k (i + 1) xs := by
  apply List.ext_getElem
  · simp [stpMarked]
  · intro j h1 h2
    rw [List.getElem_set]
    by_cases hj : i = j
    · subst hj; simp [stpMarked]
    · rw [if_neg hj]; simp only [stpMarked, List.getElem_map, List.getElem_range]
      by_cases hji : j < i
      · rw [if_pos hji, if_pos (by omega)]
      · rw [if_neg hji, if_neg (by omega)]
theorem stpMarks_at (k n j : Nat) (h : j < n * 4) : (stpMarks k n)[j]? = some (stpMark k j) := by simp [stpMarks, h]
theorem stpMark_0 (k j : Nat) : stpMark k (j * 4) = .int .i64 ((k + j * 4 : Nat) : Int) := by unfold stpMark; rw [if_pos (by omega)]
theorem stpMark_1 (k j : Nat) : stpMark k (j * 4 + 1) = .int .i64 ((k + j * 4 + 1 : Nat) : Int) := by unfold stpMark; rw [if_neg (by omega), if_pos (by omega)]; rfl
theorem stpMark_2 (k j : Nat) : stpMark k (j * 4 + 2) = .int .i64 ((k + j * 4 + 2 : Nat) : Int) := by unfold stpMark; rw [if_neg (by omega), if_neg (by omega), if_pos (by omega)]; rfl
theorem stpMark_3 (k j : Nat) : stpMark k (j * 4 + 3) = .string (markS (k + j * 4 + 3)) := by unfold stpMark; rw [if_neg (by omega), if_neg (by omega), if_neg (by omega)]; rfl
def stpMarkRel (lo : Nat) (v : Value) (k n : Nat) (xs : List Value) (w : World) (q i : Value) (wr : World) : Prop :=
  ∃ j : Nat, j ≤ n ∧ q = .int .i64 ((k + j * 4 : Nat) : Int) ∧ i = .int .i64 j ∧ Own wr lo v n 4 (stpMarked k (j * 4) xs) ∧ w.grownBy wr (blk v n)
def stpHeldRel (k n : Nat) (w : World) (q i : Value) (wr : World) : Prop :=
  ∃ j : Nat, j ≤ n ∧ q = .int .i64 ((k + j * 4 : Nat) : Int) ∧ i = .int .i64 j ∧ Below w.heap.size w wr

set_option maxRecDepth 100000 in
set_option maxHeartbeats 1000000 in
theorem markSteps_any (lo : Nat) (v : Value) (n k : Nat) (xs : List Value) (w : World) (h : Own w lo v n 4 xs) (hn : n ≤ 1048576) (h0 : 1 ≤ k) (h1 : k ≤ 1000000000) :
    Calls Tryd.prog 102 #[v, .int .i64 k] w (Marked lo v n 4 (stpMarks k n) ((k + n * 4 : Nat) : Int) w) := by
  have hlx : xs.length = n * 4 := h.1
  obtain ⟨a, c, rfl, _⟩ := h.2
  have HO := Lib.hid h
  have HX := Lib.hid hlx
  clear h hlx
  go_enter Tryd.func102, Tryd.ntmps102
  go_wp2_with fail
  go_loopw [1, 5] (fun q i wr => stpMarkRel lo (.slice a n c) k n xs w q i wr) (fun _ i _ => n - (intOf i).toNat)
  case atStart => exact ⟨0, by omega, rfl, rfl, by rw [Nat.zero_mul, stpMarked_zero]; exact HO.out, World.grownBy.refl w _⟩
  case round =>
    clear HO
    obtain ⟨j, hj, rfl, rfl, hown, hg⟩ := hrel
    by_cases hlt : j < n
    · obtain ⟨b, off, rfl, hlo, hbl, q1, q2⟩ := hown.get (by omega)
      clear q1 q2
      obtain ⟨⟨u0, hc0⟩, hf0⟩ := hown.cellEx (j * 4) (by omega)
      obtain ⟨⟨u1, hc1⟩, hf1⟩ := hown.cellEx (j * 4 + 1) (by omega)
      obtain ⟨⟨u2, hc2⟩, hf2⟩ := hown.cellEx (j * 4 + 2) (by omega)
      have hown0 := hown.set (j * 4) (stpMark k (j * 4)) (by omega) ⟨u0, hc0⟩
      have hown1 := hown0.set (j * 4 + 1) (stpMark k (j * 4 + 1)) (by omega) ⟨u1, by rw [World.cell?_setCell_other (h := by simp)]; exact hc1⟩
      have hown2 := hown1.set (j * 4 + 2) (stpMark k (j * 4 + 2)) (by omega) ⟨u2, by rw [World.cell?_setCell_other (h := by simp), World.cell?_setCell_other (h := by simp)]; exact hc2⟩
      rw [blk_pos (by omega)] at hg
      have hgx := grown_set (b := b) (i := off + (j * 4 + 2)) (x := stpMark k (j * 4 + 2)) (grown_set (b := b) (i := off + (j * 4 + 1)) (x := stpMark k (j * 4 + 1)) (grown_set (b := b) (i := off + (j * 4)) (x := stpMark k (j * 4)) (hg)))
      rw [stpMarked_set, stpMarked_set, stpMarked_set] at hown2
      have HO1 := Lib.hid hown2
      have HG1 := Lib.hid hgx
      rw [stpMark_0, stpMark_1, stpMark_2] at HO1 HG1
      clear hown hg hgx hown0 hown1 hown2
      rw [← Nat.add_assoc] at hc1 hf1
      rw [← Nat.add_assoc] at hc2 hf2
      simp only [← Nat.add_assoc] at HO1 HG1
      go_wp2_with fail
      refine (markText_any (k + j * 4 + 3) _ (by omega) (by omega)).mono ?_
      rintro e w1 ⟨rfl, hb1⟩
      have hown2 := HO1.out.below hb1 (Nat.le_refl _)
      obtain ⟨⟨u9, hc9⟩, hf9⟩ := hown2.cellEx (j * 4 + 3) (by omega)
      have HO2 := Lib.hid (hown2.set (j * 4 + 3) (stpMark k (j * 4 + 3)) (by omega) ⟨u9, hc9⟩)
      have HG2 := Lib.hid (grown_set (HG1.out.andThen (below_grown hb1) (fun _ e => by cases e)) (b := b) (i := off + (j * 4 + 3)) (x := stpMark k (j * 4 + 3)))
      rw [stpMarked_set] at HO2
      rw [stpMark_3] at HO2 HG2
      rw [← Nat.add_assoc] at hc9 hf9
      simp only [← Nat.add_assoc] at HO2 HG2
      clear hb1 hown2 hc0 hf0 hc1 hf1 hc2 hf2
      go_wp2_with fail
      go_roundw
      case rel =>
        refine ⟨j + 1, by omega, by go_num, by go_num, ?_, by rw [blk_pos (by omega)]; exact HG2.out⟩
        rw [show (j + 1) * 4 = j * 4 + 1 + 1 + 1 + 1 by omega]
        exact HO2.out
      case measure => simp [intOf]; omega
    · obtain rfl : j = n := by omega
      have HOWN := Lib.hid hown
      have HG := Lib.hid hg
      clear hown hg
      go_wp2_with fail
      go_ret
      refine ⟨rfl, ?_, HG.out⟩
      have := HOWN.out
      rw [stpMarked_all k j xs HX.out] at this
      exact this

set_option maxRecDepth 100000 in
set_option maxHeartbeats 1000000 in
theorem heldSteps_any (v : Value) (n k : Nat) (w : World) (h : Rd w v n 4 (stpMarks k n)) (hn : n ≤ 1048576) (h0 : 1 ≤ k) (h1 : k ≤ 1000000000) :
    Calls Tryd.prog 103 #[v, .int .i64 k] w (Held ((k + n * 4 : Nat) : Int) w) := by
  obtain ⟨_, a, c, rfl, hc⟩ := h
  have HC := Lib.hid hc
  clear hc
  go_enter Tryd.func103, Tryd.ntmps103
  go_wp2_with fail
  go_loopw [1, 5] (fun q i wr => stpHeldRel k n w q i wr) (fun _ i _ => n - (intOf i).toNat)
  case atStart => exact ⟨0, by omega, rfl, rfl, Below.refl _ _⟩
  case round =>
    obtain ⟨j, hj, rfl, rfl, hbel⟩ := hrel
    by_cases hlt : j < n
    · obtain ⟨b, off, rfl, hbl, hcell⟩ := HC.out (by omega)
      have hc0 : wr.cell? ⟨b, off + j * 4, none⟩ = some (.int .i64 ((k + j * 4 : Nat) : Int)) := by
        rw [hbel.cell (p := ⟨b, off + j * 4, none⟩) hbl, hcell (j * 4) (by omega), stpMarks_at k n _ (by omega), stpMark_0]
      have hc1 : wr.cell? ⟨b, off + j * 4 + 1, none⟩ = some (.int .i64 ((k + j * 4 + 1 : Nat) : Int)) := by
        rw [hbel.cell (p := ⟨b, off + j * 4 + 1, none⟩) hbl, Nat.add_assoc, hcell (j * 4 + 1) (by omega), stpMarks_at k n _ (by omega), stpMark_1]
      have hc2 : wr.cell? ⟨b, off + j * 4 + 2, none⟩ = some (.int .i64 ((k + j * 4 + 2 : Nat) : Int)) := by
        rw [hbel.cell (p := ⟨b, off + j * 4 + 2, none⟩) hbl, Nat.add_assoc, hcell (j * 4 + 2) (by omega), stpMarks_at k n _ (by omega), stpMark_2]
      have hc3 : wr.cell? ⟨b, off + j * 4 + 3, none⟩ = some (.string (markS (k + j * 4 + 3))) := by
        rw [hbel.cell (p := ⟨b, off + j * 4 + 3, none⟩) hbl, Nat.add_assoc, hcell (j * 4 + 3) (by omega), stpMarks_at k n _ (by omega), stpMark_3]
      have hblr : b < wr.heap.size := Nat.lt_of_lt_of_le hbl hbel.size
      have hsz := hbel.size
      have HBEL := Lib.hid hbel
      clear hcell hbel
      have e0 : (j : Int) < (n : Int) := by omega
      have e1 : (0 : Int) ≤ (j : Int) := by omega
      have d0 : (((k + j * 4 : Nat) : Int) != ((k + j * 4 : Nat) : Int)) = false := by simp
      have d1 : (((k + j * 4 + 1 : Nat) : Int) != ((k + j * 4 + 1 : Nat) : Int)) = false := by simp
      have s1 : ((k + j * 4 : Nat) : Int) + 1 = ((k + j * 4 + 1 : Nat) : Int) := by omega
      have d2 : (((k + j * 4 + 2 : Nat) : Int) != ((k + j * 4 + 2 : Nat) : Int)) = false := by simp
      have s2 : ((k + j * 4 + 1 : Nat) : Int) + 1 = ((k + j * 4 + 2 : Nat) : Int) := by omega
      have s3 : ((k + j * 4 + 2 : Nat) : Int) + 1 = ((k + j * 4 + 3 : Nat) : Int) := by omega
      go_wp2_with fail
      go_region_held3 (fun w' => w'.cell? ⟨b, off + j * 4 + 3, none⟩ = some (.string (markS (k + j * 4 + 3)))) (first | go_keep | (rw [hb1.cell (p := ⟨b, off + j * 4 + 3, none⟩) hblr]; exact hc3)) ((go_at_call 101; refine (markText_any (k + j * 4 + 3) _ (by omega) (by omega)).mono ?_; rintro e w1 ⟨rfl, hb1⟩))
      have HB1 := Lib.hid (HBEL.out.drew.trans (hb1.mono hsz))
      clear hb1
      go_wp2_with fail
      go_roundw
      case rel => exact ⟨j + 1, by omega, by go_num, by go_num, HB1.out⟩
      case measure => simp [intOf]; omega
    · obtain rfl : j = n := by omega
      have HBEL := Lib.hid hbel
      clear hbel
      go_wp2_with fail
      go_ret
      exact ⟨rfl, HBEL.out⟩
end Go.Proofs.YthkbllkhomjmbaaDoor
