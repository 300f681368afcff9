/- Slices of Act in the laws: copied, measured, compared, marked. -/
import Derived.Test.YtocjjkjjojdpdaaLDirty
namespace Go.Proofs.Ytocjjkjjojdpdaa
open Go.RowKit

abbrev actT := Bool × Int × ByteArray
def actCs : List actT → List Value
  | [] => []
  | d :: l => .bool d.1 :: .int .i64 d.2.1 :: .string d.2.2 :: actCs l
theorem actCs_length : ∀ l : List actT, (actCs l).length = l.length * 3
  | [] => rfl
  | d :: l => by simp [actCs, actCs_length l]; omega
theorem actCs_0 : ∀ (l : List actT) (k : Nat) (h : k < l.length), (actCs l)[k * 3]? = some (.bool l[k].1)
  | d :: l, 0, _ => rfl
  | d :: l, k + 1, h => by
    rw [show (k + 1) * 3 = k * 3 + 1 + 1 + 1 by omega]
    simpa [actCs] using actCs_0 l k (by simpa using h)
theorem actCs_1 : ∀ (l : List actT) (k : Nat) (h : k < l.length), (actCs l)[k * 3 + 1]? = some (.int .i64 l[k].2.1)
  | d :: l, 0, _ => rfl
  | d :: l, k + 1, h => by
    rw [show (k + 1) * 3 + 1 = k * 3 + 1 + 1 + 1 + 1 by omega]
    simpa [actCs] using actCs_1 l k (by simpa using h)
theorem actCs_2 : ∀ (l : List actT) (k : Nat) (h : k < l.length), (actCs l)[k * 3 + 2]? = some (.string l[k].2.2)
  | d :: l, 0, _ => rfl
  | d :: l, k + 1, h => by
    rw [show (k + 1) * 3 + 2 = k * 3 + 2 + 1 + 1 + 1 by omega]
    simpa [actCs] using actCs_2 l k (by simpa using h)
theorem actCs_append : ∀ (a b : List actT), actCs (a ++ b) = actCs a ++ actCs b
  | [], b => rfl
  | d :: a, b => by simp only [List.cons_append, actCs]; rw [actCs_append a b]
set_option maxRecDepth 100000 in
set_option maxHeartbeats 400000 in
theorem toAct_any (x0 : Bool) (x1 : Int) (x2 : ByteArray) (w : World) :
    Calls Try.prog 36 #[.agg #[.bool x0, .int .i64 x1, .string x2]] w fun e w' => e = .returned (.agg #[.bool x0, .int .i64 x1, .string x2]) ∧ Below w.heap.size w w' := by
  go_enter Try.func36, Try.ntmps36
  go_wp2_with fail
  refine bodyPost_ret (v := .agg #[.bool x0, .int .i64 x1, .string x2]) (by simp [results, Try.results36, go_sem]) rfl ⟨rfl, ?_⟩
  exact (((Below.refl _ _).alloc (Nat.le_refl _) _).alloc (by simp) _).alloc (by simp; omega) _
set_option maxRecDepth 100000 in
set_option maxHeartbeats 400000 in
theorem eqAct_any (x0 : Bool) (x1 : Int) (x2 : ByteArray) (w : World) :
    Calls Try.prog 45 #[.agg #[.bool x0, .int .i64 x1, .string x2], .agg #[.bool x0, .int .i64 x1, .string x2]] w fun e w' => e = .returned (.bool true) ∧ Below w.heap.size w w' := by
  have d0 : (x0 != x0) = false := by simp
  have d1 : (x1 != x1) = false := by simp
  go_enter Try.func45, Try.ntmps45
  go_wp2_with fail
  go_ret
  exact ⟨rfl, ((Below.refl _ _).alloc (Nat.le_refl _) _).alloc (by simp) _⟩
theorem Try.infoact : (Try.prog.info? 58).map (fun i => (i.zero, i.size, i.bytes)) = some (some (.agg #[.bool false, .int .i64 0, .string ByteArray.empty]), 3, 32) := by kernel_rfl
def actPart (l : List actT) (k j : Nat) : Value := if j < k * 3 then (actCs l).getD j undef else if j % 3 = 0 then .bool false else if j % 3 = 1 then .int .i64 0 else .string ByteArray.empty
def actCopyRel (w : World) (l : List actT) (i : Value) (wr : World) : Prop :=
  ∃ k : Nat, k ≤ l.length ∧ i = .int .i64 k ∧ CellsAt wr w.heap.size 58 (l.length * 3) (actPart l k) ∧ Below w.heap.size w wr
theorem made_act {w1 : World} {g n : Nat} {l : List actT} (h : w1.heap[g]? = some (.cells (madeCells #[Value.bool false, Value.int .i64 0, Value.string ByteArray.empty] (n * 3)).toList.toArray 58 (0, 0))) : CellsAt w1 g 58 (n * 3) (actPart l 0) := by
  refine cellsAt_list h (n * 3) _ (by simp [madeCells]) (fun j hj => ?_)
  have h2 : j % 3 = 0 ∨ j % 3 = 1 ∨ j % 3 = 2 := by omega
  rcases h2 with h2 | h2 | h2 <;> simp [madeCells, hj, actPart, h2]
theorem act_laid {w2 : World} {g n k : Nat} {T : TypeId} {l : List actT} (h : CellsAt w2 g T n (actPart l k)) (hk : k < l.length) :
    CellsAt (((w2.setCell ⟨g, k * 3, none⟩ (.bool l[k].1)).setCell ⟨g, k * 3 + 1, none⟩ (.int .i64 l[k].2.1)).setCell ⟨g, k * 3 + 2, none⟩ (.string l[k].2.2)) g T n (actPart l (k + 1)) := by
  refine (((h.set (v' := fun j => if j = k * 3 then .bool l[k].1 else actPart l k j) (k * 3) _ (if_pos rfl) (fun i hi => if_neg hi)).set (v' := fun j => if j = k * 3 + 1 then .int .i64 l[k].2.1 else if j = k * 3 then .bool l[k].1 else actPart l k j) (k * 3 + 1) _ (if_pos rfl) (fun i hi => if_neg hi)).set (v' := fun j => if j = k * 3 + 2 then .string l[k].2.2 else if j = k * 3 + 1 then .int .i64 l[k].2.1 else if j = k * 3 then .bool l[k].1 else actPart l k j) (k * 3 + 2) _ (if_pos rfl) (fun i hi => if_neg hi)).congr fun j _ => ?_
  have e0 := actCs_0 l k hk
  have e1 := actCs_1 l k hk
  have e2 := actCs_2 l k hk
  by_cases h2 : j = k * 3 + 2
  · subst h2; simp [actPart, e2]; try omega
  by_cases h1 : j = k * 3 + 1
  · subst h1; simp [actPart, e1]; try omega
  by_cases h0 : j = k * 3
  · subst h0; simp [actPart, e0]; try omega
  simp only [h0, h1, h2, if_false, actPart]
  by_cases h9 : j < k * 3
  · rw [if_pos h9, if_pos (by omega)]
  · rw [if_neg h9, if_neg (by omega)]

set_option maxRecDepth 100000 in
set_option maxHeartbeats 1000000 in
theorem toActs_any (v : Value) (l : List actT) (w : World) (h : Rd w v l.length 3 (actCs l)) (hn : l.length ≤ 1048576) :
    Calls Try.prog 11 #[v] w (MadeRow w l.length 3 (actCs l)) := by
  obtain ⟨i0, hi, hz0, hz1, hz2⟩ := info_parts Try.infoact
  obtain ⟨_, a, c, rfl, hc⟩ := h
  have HC := Lib.hid hc
  clear hc
  go_enter Try.func11, Try.ntmps11
  go_wp2_with (at_make; refine wpList_make_full _ rfl _ _ 38 rfl w.heap.size 58 i0 (.agg #[.bool false, .int .i64 0, .string ByteArray.empty]) 3 Try.underlying38 hi hz0 hz1 .i64 .i64 _ _ l.length rfl rfl (by omega) (by omega) (by rw [hz2]; omega) (by unfold maxLen; omega) (Nat.le_refl _) ?_)
  intro w1 hown1 hgrow1
  have hb1 : Below w.heap.size w w1 := (Below.refl _ w).grown hgrow1 (Nat.le_refl _) (by simp)
  have hg1 := own_block' hown1
  have HG1 := Lib.hid (made_act (l := l) hg1)
  have HB1 := Lib.hid hb1
  clear hown1 hgrow1 hg1 hb1 hi hz0 hz1 hz2
  go_wp2_with fail
  go_loopw [4] (fun i wr => actCopyRel w l i wr) (fun i _ => l.length - (intOf i).toNat)
  case atStart => exact ⟨0, by omega, rfl, HG1.out, HB1.out⟩
  case round =>
    clear HG1 HB1
    obtain ⟨k, hk, rfl, hcs, hbel⟩ := hrel
    by_cases hlt : k < l.length
    · obtain ⟨b, off, rfl, hbl, hcell⟩ := HC.out (by omega)
      have hc0 : wr.cell? ⟨b, off + k * 3, none⟩ = some (.bool l[k].1) := by
        rw [hbel.cell (p := ⟨b, off + k * 3, none⟩) hbl, hcell (k * 3) (by omega), actCs_0 l k hlt]
      have hc1 : wr.cell? ⟨b, off + k * 3 + 1, none⟩ = some (.int .i64 l[k].2.1) := by
        rw [hbel.cell (p := ⟨b, off + k * 3 + 1, none⟩) hbl, Nat.add_assoc, hcell (k * 3 + 1) (by omega), actCs_1 l k hlt]
      have hc2 : wr.cell? ⟨b, off + k * 3 + 2, none⟩ = some (.string l[k].2.2) := by
        rw [hbel.cell (p := ⟨b, off + k * 3 + 2, none⟩) hbl, Nat.add_assoc, hcell (k * 3 + 2) (by omega), actCs_2 l k hlt]
      have HCS := Lib.hid hcs
      have HBEL := Lib.hid hbel
      have hsz := hbel.size
      clear hcs hbel hcell
      go_wp2_with fail
      refine (toAct_any _ _ _ _).mono ?_
      rintro e w2 ⟨rfl, hb2⟩
      have hcs2 := HCS.out.below hb2 HCS.out.lt
      have g0 := hcs2.cell (k * 3) (by omega)
      have f0 := hcs2.frozen (k * 3)
      generalize actPart l k (k * 3) = v0 at g0
      have g1 := hcs2.cell (k * 3 + 1) (by omega)
      have f1 := hcs2.frozen (k * 3 + 1)
      generalize actPart l k (k * 3 + 1) = v1 at g1
      have g2 := hcs2.cell (k * 3 + 2) (by omega)
      have f2 := hcs2.frozen (k * 3 + 2)
      generalize actPart l k (k * 3 + 2) = v2 at g2
      have HC2 := Lib.hid hcs2
      have HB2 := Lib.hid (HBEL.out.trans (hb2.mono hsz))
      clear hcs2 hb2
      go_wp2_with fail
      go_roundw
      case rel =>
        refine ⟨k + 1, by omega, by go_num, ?_, ?_⟩
        · exact act_laid HC2.out hlt
        · exact (((HB2.out.setCell (p := ⟨w.heap.size, k * 3, none⟩) (Nat.le_refl _) _).setCell (p := ⟨w.heap.size, k * 3 + 1, none⟩) (Nat.le_refl _) _).setCell (p := ⟨w.heap.size, k * 3 + 2, none⟩) (Nat.le_refl _) _)
      case measure => simp [intOf]; omega
    · obtain rfl : k = l.length := by omega
      have HCS := Lib.hid hcs
      have HBEL := Lib.hid hbel
      clear hcs hbel
      go_wp2_with fail
      go_ret
      refine ⟨_, rfl, ?_, HBEL.out⟩
      refine own_of_cells HCS.out (Nat.le_refl _) (Nat.le_refl _) (actCs_length l) (fun j hj => ?_)
      unfold actPart
      rw [if_pos hj, List.getD_eq_getElem?_getD, List.getElem?_eq_getElem (by rw [actCs_length]; exact hj)]; rfl

set_option maxRecDepth 100000 in
set_option maxHeartbeats 400000 in
theorem szAct_any (x0 : Bool) (x1 : Int) (x2 : ByteArray) (left : Int) (w : World) (hs : x2.size ≤ maxLen) (h0 : 0 ≤ left) (h1 : left ≤ 1048576) :
    Calls Try.prog 30 #[.agg #[.bool x0, .int .i64 x1, .string x2], .int .i64 left] w (LeftB left ((x2.size : Int) ≤ left) w) := by
  unfold maxLen at hs
  by_cases hneg : left - (x2.size : Int) < 0
  · go_enter Try.func30, Try.ntmps30
    go_wp2_with fail
    go_ret
    exact ⟨-1, rfl, (Below.refl _ _).alloc (Nat.le_refl _) _, .inl rfl⟩
  · go_enter Try.func30, Try.ntmps30
    go_wp2_with fail
    go_ret
    exact ⟨_, rfl, (Below.refl _ _).alloc (Nat.le_refl _) _, .inr ⟨by omega, by omega, by omega⟩⟩
def actSizeRel (l : List actT) (left : Int) (w : World) (x i : Value) (wr : World) : Prop :=
  ∃ (k : Nat) (r : Int), k ≤ l.length ∧ i = .int .i64 k ∧ x = .int .i64 r ∧ 0 ≤ r ∧ r ≤ left ∧ (∀ j (h : j < l.length), j < k → (l[j].2.2.size : Int) ≤ left) ∧ Below w.heap.size w wr
set_option maxRecDepth 100000 in
set_option maxHeartbeats 1000000 in
theorem szActs_any (v : Value) (l : List actT) (left : Int) (w : World) (h : Rd w v l.length 3 (actCs l)) (hn : l.length ≤ maxLen) (hs : ∀ d ∈ l, d.2.2.size ≤ maxLen) (h0 : 0 ≤ left) (h1 : left ≤ 1048576) :
    Calls Try.prog 8 #[v, .int .i64 left] w (LeftB left (l.length ≤ left ∧ ∀ d ∈ l, (d.2.2.size : Int) ≤ left) w) := by
  unfold maxLen at hn
  obtain ⟨_, a, c, rfl, hc⟩ := h
  have HC := Lib.hid hc
  have HS := Lib.hid hs
  clear hc hs
  by_cases hlen : left - l.length < 0
  · go_enter Try.func8, Try.ntmps8
    go_wp2_with fail
    go_ret
    exact ⟨-1, rfl, Below.refl _ _, .inl rfl⟩
  · have d0 : decide (left - (l.length : Int) < 0) = false := decide_eq_false hlen
    go_enter Try.func8, Try.ntmps8
    go_wp2_with fail
    go_loopw [1, 5] (fun x i wr => actSizeRel l left w x i wr) (fun _ i _ => l.length - (intOf i).toNat)
    case atStart => exact ⟨0, _, by omega, rfl, rfl, by omega, by omega, fun j _ hj => absurd hj (by omega), Below.refl _ _⟩
    case round =>
      obtain ⟨k, r, hk, rfl, rfl, hr0, hr1, hsz, hbel⟩ := hrel
      have HSZ := Lib.hid hsz
      clear hsz
      by_cases hlt : k < l.length
      · obtain ⟨b, off, rfl, hbl, hcell⟩ := HC.out (by omega)
        have hc0 : wr.cell? ⟨b, off + k * 3, none⟩ = some (.bool l[k].1) := by
          rw [hbel.cell (p := ⟨b, off + k * 3, none⟩) hbl, hcell (k * 3) (by omega), actCs_0 l k hlt]
        have hc1 : wr.cell? ⟨b, off + k * 3 + 1, none⟩ = some (.int .i64 l[k].2.1) := by
          rw [hbel.cell (p := ⟨b, off + k * 3 + 1, none⟩) hbl, Nat.add_assoc, hcell (k * 3 + 1) (by omega), actCs_1 l k hlt]
        have hc2 : wr.cell? ⟨b, off + k * 3 + 2, none⟩ = some (.string l[k].2.2) := by
          rw [hbel.cell (p := ⟨b, off + k * 3 + 2, none⟩) hbl, Nat.add_assoc, hcell (k * 3 + 2) (by omega), actCs_2 l k hlt]
        have hsk := HS.out l[k] (List.getElem_mem hlt)
        have hbs := hbel.size
        have HBEL := Lib.hid hbel
        clear hcell hbel
        go_wp2_with fail
        refine (szAct_any _ _ _ r _ hsk hr0 (by omega)).mono ?_
        rintro e w2 ⟨q, rfl, hb2, hq⟩
        have HB2 := Lib.hid (HBEL.out.trans (hb2.mono hbs))
        clear hb2 hsk
        rcases hq with rfl | ⟨hq0, hq1, hq2⟩
        · go_wp2_with fail
          go_ret
          exact ⟨-1, rfl, HB2.out, .inl rfl⟩
        · have d1 : decide (q < 0) = false := decide_eq_false (by omega)
          go_wp2_with fail
          go_roundw
          case rel =>
            refine ⟨k + 1, q, by omega, by go_num, rfl, hq0, by omega, fun j h hj => ?_, HB2.out⟩
            by_cases hjk : j = k
            · subst hjk; omega
            · exact HSZ.out j h (by omega)
          case measure => simp [intOf]; omega
      · obtain rfl : k = l.length := by omega
        have HBEL := Lib.hid hbel
        clear hbel
        go_wp2_with fail
        go_ret
        refine ⟨r, rfl, HBEL.out, .inr ⟨hr0, hr1, by omega, fun s hs => ?_⟩⟩
        obtain ⟨j, hj, rfl⟩ := List.getElem_of_mem hs
        exact HSZ.out j hj hj

set_option maxRecDepth 100000 in
set_option maxHeartbeats 1000000 in
theorem eqActs_any (v u : Value) (l : List actT) (w : World) (h : Rd w v l.length 3 (actCs l)) (k : Rd w u l.length 3 (actCs l)) (hn : l.length ≤ maxLen) :
    Calls Try.prog 15 #[v, u] w fun e w' => e = .returned (.bool true) ∧ Below w.heap.size w w' := by
  unfold maxLen at hn
  obtain ⟨_, a, c, rfl, hc⟩ := h
  obtain ⟨_, a', c', rfl, hc'⟩ := k
  have HC := Lib.hid hc
  have HC' := Lib.hid hc'
  clear hc hc'
  have d0 : ((l.length : Int) != (l.length : Int)) = false := by simp
  go_enter Try.func15, Try.ntmps15
  go_wp2_with fail
  go_loopw [5] (fun i wr => DEqRel w l.length i wr) (fun i _ => l.length - (intOf i).toNat)
  case atStart => exact ⟨0, by omega, rfl, Below.refl _ _⟩
  case round =>
    obtain ⟨k, hk, rfl, hbel⟩ := hrel
    by_cases hlt : k < l.length
    · obtain ⟨b, off, rfl, hbl, hcell⟩ := HC.out (by omega)
      obtain ⟨b', off', rfl, hbl', hcell'⟩ := HC'.out (by omega)
      have hc0 : wr.cell? ⟨b, off + k * 3, none⟩ = some (.bool l[k].1) := by
        rw [hbel.cell (p := ⟨b, off + k * 3, none⟩) hbl, hcell (k * 3) (by omega), actCs_0 l k hlt]
      have hc1 : wr.cell? ⟨b, off + k * 3 + 1, none⟩ = some (.int .i64 l[k].2.1) := by
        rw [hbel.cell (p := ⟨b, off + k * 3 + 1, none⟩) hbl, Nat.add_assoc, hcell (k * 3 + 1) (by omega), actCs_1 l k hlt]
      have hc2 : wr.cell? ⟨b, off + k * 3 + 2, none⟩ = some (.string l[k].2.2) := by
        rw [hbel.cell (p := ⟨b, off + k * 3 + 2, none⟩) hbl, Nat.add_assoc, hcell (k * 3 + 2) (by omega), actCs_2 l k hlt]
      have hd0 : wr.cell? ⟨b', off' + k * 3, none⟩ = some (.bool l[k].1) := by
        rw [hbel.cell (p := ⟨b', off' + k * 3, none⟩) hbl', hcell' (k * 3) (by omega), actCs_0 l k hlt]
      have hd1 : wr.cell? ⟨b', off' + k * 3 + 1, none⟩ = some (.int .i64 l[k].2.1) := by
        rw [hbel.cell (p := ⟨b', off' + k * 3 + 1, none⟩) hbl', Nat.add_assoc, hcell' (k * 3 + 1) (by omega), actCs_1 l k hlt]
      have hd2 : wr.cell? ⟨b', off' + k * 3 + 2, none⟩ = some (.string l[k].2.2) := by
        rw [hbel.cell (p := ⟨b', off' + k * 3 + 2, none⟩) hbl', Nat.add_assoc, hcell' (k * 3 + 2) (by omega), actCs_2 l k hlt]
      have hbs := hbel.size
      have HBEL := Lib.hid hbel
      clear hcell hcell' hbel
      have e0 : (k : Int) < (l.length : Int) := by omega
      have e1 : (0 : Int) ≤ (k : Int) := by omega
      go_wp2_with fail
      go_still_tail 8, (by kernel_rfl)
      change wpList _ _ _ _ _ wr.drew
      go_wp2_with fail
      refine (eqAct_any _ _ _ _).mono ?_
      rintro e w2 ⟨rfl, hb2⟩
      have HB2 := Lib.hid (HBEL.out.drew.trans (hb2.mono hbs))
      clear hb2
      go_wp2_with fail
      go_roundw
      case rel => exact ⟨k + 1, by omega, by go_num, HB2.out⟩
      case measure => simp [intOf]; omega
    · obtain rfl : k = l.length := by omega
      have HBEL := Lib.hid hbel
      clear hbel
      go_wp2_with fail
      go_ret
      exact ⟨rfl, HBEL.out⟩

/-- The mark of cell j. -/
def actMark (k j : Nat) : Value := if j % 3 = 0 then .bool (((k + j : Nat) : Int) % 3 == 0) else if j % 3 = 1 then .int .i64 ((k + j : Nat) : Int) else .string (markS (k + j))
def actMarks (k n : Nat) : List Value := (List.range (n * 3)).map (actMark k)
def actMarked (k i : Nat) (xs : List Value) : List Value := (List.range xs.length).map fun j => if j < i then actMark k j else xs.getD j undef
theorem actMarked_zero (k : Nat) (xs : List Value) : actMarked k 0 xs = xs := by
  apply List.ext_getElem
  · simp [actMarked]
  · intro j h1 h2; simp [actMarked, h2]
theorem actMarked_all (k n : Nat) (xs : List Value) (h : xs.length = n * 3) : actMarked k (n * 3) xs = actMarks k n := by
  apply List.ext_getElem
  · simp [actMarked, actMarks, h]
  · intro j h1 h2; simp [actMarked, h] at h1; simp [actMarked, actMarks, h1]
theorem actMarked_set (k i : Nat) (xs : List Value) : (actMarked k i xs).set i (actMark k i) = actMarked k (i + 1) xs := by
  apply List.ext_getElem
  · simp [actMarked]
  · intro j h1 h2
    rw [List.getElem_set]
    by_cases hj : i = j
    · subst hj; simp [actMarked]
    · rw [if_neg hj]; simp only [actMarked, List.getElem_map, List.getElem_range]
      by_cases hji : j < i
      · rw [if_pos hji, if_pos (by omega)]
      · rw [if_neg hji, if_neg (by omega)]
theorem actMarks_at (k n j : Nat) (h : j < n * 3) : (actMarks k n)[j]? = some (actMark k j) := by simp [actMarks, h]
theorem actMark_0 (k j : Nat) : actMark k (j * 3) = .bool ((k : Int) % 3 == 0) := by
  unfold actMark
  rw [if_pos (by omega), show ((k + j * 3 : Nat) : Int) % 3 = (k : Int) % 3 by omega]
theorem actMark_1 (k j : Nat) : actMark k (j * 3 + 1) = .int .i64 ((k + j * 3 + 1 : Nat) : Int) := by unfold actMark; rw [if_neg (by omega), if_pos (by omega)]; rfl
theorem actMark_2 (k j : Nat) : actMark k (j * 3 + 2) = .string (markS (k + j * 3 + 2)) := by unfold actMark; rw [if_neg (by omega), if_neg (by omega)]; rfl
def actMarkRel (lo : Nat) (v : Value) (k n : Nat) (xs : List Value) (w : World) (q i : Value) (wr : World) : Prop :=
  ∃ j : Nat, j ≤ n ∧ q = .int .i64 ((k + j * 3 : Nat) : Int) ∧ i = .int .i64 j ∧ Own wr lo v n 3 (actMarked k (j * 3) xs) ∧ w.grownBy wr (blk v n)
def actHeldRel (k n : Nat) (w : World) (q i : Value) (wr : World) : Prop :=
  ∃ j : Nat, j ≤ n ∧ q = .int .i64 ((k + j * 3 : Nat) : Int) ∧ i = .int .i64 j ∧ Below w.heap.size w wr

set_option maxRecDepth 100000 in
set_option maxHeartbeats 1000000 in
theorem markActs_any (lo : Nat) (v : Value) (n k : Nat) (xs : List Value) (w : World) (h : Own w lo v n 3 xs) (hn : n ≤ 1048576) (h0 : 1 ≤ k) (h1 : k ≤ 1000000000) :
    Calls Try.prog 17 #[v, .int .i64 k] w (Marked lo v n 3 (actMarks k n) ((k + n * 3 : Nat) : Int) w) := by
  have hlx : xs.length = n * 3 := h.1
  obtain ⟨a, c, rfl, _⟩ := h.2
  have HO := Lib.hid h
  have HX := Lib.hid hlx
  clear h hlx
  go_enter Try.func17, Try.ntmps17
  go_wp2_with fail
  go_loopw [1, 5] (fun q i wr => actMarkRel lo (.slice a n c) k n xs w q i wr) (fun _ i _ => n - (intOf i).toNat)
  case atStart => exact ⟨0, by omega, rfl, rfl, by rw [Nat.zero_mul, actMarked_zero]; exact HO.out, World.grownBy.refl w _⟩
  case round =>
    clear HO
    obtain ⟨j, hj, rfl, rfl, hown, hg⟩ := hrel
    by_cases hlt : j < n
    · obtain ⟨b, off, rfl, hlo, hbl, q1, q2⟩ := hown.get (by omega)
      clear q1 q2
      obtain ⟨⟨u0, hc0⟩, hf0⟩ := hown.cellEx (j * 3) (by omega)
      obtain ⟨⟨u1, hc1⟩, hf1⟩ := hown.cellEx (j * 3 + 1) (by omega)
      have hown0 := hown.set (j * 3) (actMark k (j * 3)) (by omega) ⟨u0, hc0⟩
      have hown1 := hown0.set (j * 3 + 1) (actMark k (j * 3 + 1)) (by omega) ⟨u1, by rw [World.cell?_setCell_other (h := by simp)]; exact hc1⟩
      rw [blk_pos (by omega)] at hg
      have hgx := grown_set (b := b) (i := off + (j * 3 + 1)) (x := actMark k (j * 3 + 1)) (grown_set (b := b) (i := off + (j * 3)) (x := actMark k (j * 3)) (hg))
      rw [actMarked_set, actMarked_set] at hown1
      have HO1 := Lib.hid hown1
      have HG1 := Lib.hid hgx
      rw [actMark_0, actMark_1] at HO1 HG1
      clear hown hg hgx hown0 hown1
      rw [← Nat.add_assoc] at hc1 hf1
      simp only [← Nat.add_assoc] at HO1 HG1
      go_wp2_with fail
      refine (markText_any (k + j * 3 + 2) _ (by omega) (by omega)).mono ?_
      rintro e w1 ⟨rfl, hb1⟩
      have hown2 := HO1.out.below hb1 (Nat.le_refl _)
      obtain ⟨⟨u9, hc9⟩, hf9⟩ := hown2.cellEx (j * 3 + 2) (by omega)
      have HO2 := Lib.hid (hown2.set (j * 3 + 2) (actMark k (j * 3 + 2)) (by omega) ⟨u9, hc9⟩)
      have HG2 := Lib.hid (grown_set (HG1.out.andThen (below_grown hb1) (fun _ e => by cases e)) (b := b) (i := off + (j * 3 + 2)) (x := actMark k (j * 3 + 2)))
      rw [actMarked_set] at HO2
      rw [actMark_2] at HO2 HG2
      rw [← Nat.add_assoc] at hc9 hf9
      simp only [← Nat.add_assoc] at HO2 HG2
      clear hb1 hown2 hc0 hf0 hc1 hf1
      go_wp2_with fail
      go_roundw
      case rel =>
        refine ⟨j + 1, by omega, by go_num, by go_num, ?_, by rw [blk_pos (by omega)]; exact HG2.out⟩
        rw [show (j + 1) * 3 = j * 3 + 1 + 1 + 1 by omega]
        exact HO2.out
      case measure => simp [intOf]; omega
    · obtain rfl : j = n := by omega
      have HOWN := Lib.hid hown
      have HG := Lib.hid hg
      clear hown hg
      go_wp2_with fail
      go_ret
      refine ⟨rfl, ?_, HG.out⟩
      have := HOWN.out
      rw [actMarked_all k j xs HX.out] at this
      exact this

end Go.Proofs.Ytocjjkjjojdpdaa
