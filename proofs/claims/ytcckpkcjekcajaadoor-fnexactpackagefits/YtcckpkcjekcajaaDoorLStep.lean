/- Slices of Step in the laws: copied, measured, compared, marked. -/
import Derived.Test.YtcckpkcjekcajaaDoorLDirty
namespace Go.Proofs.YtcckpkcjekcajaaDoor
open Go.RowKit

abbrev stpT := Int × Int × Int × ByteArray
def stpCs : List stpT → List Value
  | [] => []
  | d :: l => .int .i64 d.1 :: .int .i64 d.2.1 :: .int .i64 d.2.2.1 :: .string d.2.2.2 :: stpCs l
theorem stpCs_length : ∀ l : List stpT, (stpCs l).length = l.length * 4
  | [] => rfl
  | d :: l => by simp [stpCs, stpCs_length l]; omega
theorem stpCs_0 : ∀ (l : List stpT) (k : Nat) (h : k < l.length), (stpCs l)[k * 4]? = some (.int .i64 l[k].1)
  | d :: l, 0, _ => rfl
  | d :: l, k + 1, h => by
    rw [show (k + 1) * 4 = k * 4 + 1 + 1 + 1 + 1 by omega]
    simpa [stpCs] using stpCs_0 l k (by simpa using h)
theorem stpCs_1 : ∀ (l : List stpT) (k : Nat) (h : k < l.length), (stpCs l)[k * 4 + 1]? = some (.int .i64 l[k].2.1)
  | d :: l, 0, _ => rfl
  | d :: l, k + 1, h => by
    rw [show (k + 1) * 4 + 1 = k * 4 + 1 + 1 + 1 + 1 + 1 by omega]
    simpa [stpCs] using stpCs_1 l k (by simpa using h)
theorem stpCs_2 : ∀ (l : List stpT) (k : Nat) (h : k < l.length), (stpCs l)[k * 4 + 2]? = some (.int .i64 l[k].2.2.1)
  | d :: l, 0, _ => rfl
  | d :: l, k + 1, h => by
    rw [show (k + 1) * 4 + 2 = k * 4 + 2 + 1 + 1 + 1 + 1 by omega]
    simpa [stpCs] using stpCs_2 l k (by simpa using h)
theorem stpCs_3 : ∀ (l : List stpT) (k : Nat) (h : k < l.length), (stpCs l)[k * 4 + 3]? = some (.string l[k].2.2.2)
  | d :: l, 0, _ => rfl
  | d :: l, k + 1, h => by
    rw [show (k + 1) * 4 + 3 = k * 4 + 3 + 1 + 1 + 1 + 1 by omega]
    simpa [stpCs] using stpCs_3 l k (by simpa using h)
theorem stpCs_append : ∀ (a b : List stpT), stpCs (a ++ b) = stpCs a ++ stpCs b
  | [], b => rfl
  | d :: a, b => by simp only [List.cons_append, stpCs]; rw [stpCs_append a b]
set_option maxRecDepth 100000 in
set_option maxHeartbeats 400000 in
theorem toStep_any (x0 : Int) (x1 : Int) (x2 : Int) (x3 : ByteArray) (w : World) :
    Calls Tryd.prog 81 #[.agg #[.int .i64 x0, .int .i64 x1, .int .i64 x2, .string x3]] w fun e w' => e = .returned (.agg #[.int .i64 x0, .int .i64 x1, .int .i64 x2, .string x3]) ∧ Below w.heap.size w w' := by
  go_enter Tryd.func81, Tryd.ntmps81
  go_wp2_with fail
  refine bodyPost_ret (v := .agg #[.int .i64 x0, .int .i64 x1, .int .i64 x2, .string x3]) (by simp [results, Tryd.results81, go_sem]) rfl ⟨rfl, ?_⟩
  exact (((Below.refl _ _).alloc (Nat.le_refl _) _).alloc (by simp) _).alloc (by simp; omega) _
set_option maxRecDepth 100000 in
set_option maxHeartbeats 400000 in
theorem eqStep_any (x0 : Int) (x1 : Int) (x2 : Int) (x3 : ByteArray) (w : World) :
    Calls Tryd.prog 82 #[.agg #[.int .i64 x0, .int .i64 x1, .int .i64 x2, .string x3], .agg #[.int .i64 x0, .int .i64 x1, .int .i64 x2, .string x3]] w fun e w' => e = .returned (.bool true) ∧ Below w.heap.size w w' := by
  have d0 : (x0 != x0) = false := by simp
  have d1 : (x1 != x1) = false := by simp
  have d2 : (x2 != x2) = false := by simp
  go_enter Tryd.func82, Tryd.ntmps82
  go_wp2_with fail
  go_ret
  exact ⟨rfl, ((Below.refl _ _).alloc (Nat.le_refl _) _).alloc (by simp) _⟩
theorem Tryd.infostp : (Tryd.prog.info? 33).map (fun i => (i.zero, i.size, i.bytes)) = some (some (.agg #[.int .i64 0, .int .i64 0, .int .i64 0, .string ByteArray.empty]), 4, 40) := by kernel_rfl
def stpPart (l : List stpT) (k j : Nat) : Value := if j < k * 4 then (stpCs l).getD j undef else if j % 4 = 0 then .int .i64 0 else if j % 4 = 1 then .int .i64 0 else if j % 4 = 2 then .int .i64 0 else .string ByteArray.empty
def stpCopyRel (w : World) (l : List stpT) (i : Value) (wr : World) : Prop :=
  ∃ k : Nat, k ≤ l.length ∧ i = .int .i64 k ∧ CellsAt wr w.heap.size 33 (l.length * 4) (stpPart l k) ∧ Below w.heap.size w wr
theorem made_stp {w1 : World} {g n : Nat} {l : List stpT} (h : w1.heap[g]? = some (.cells (madeCells #[Value.int .i64 0, Value.int .i64 0, Value.int .i64 0, Value.string ByteArray.empty] (n * 4)).toList.toArray 33 (0, 0))) : CellsAt w1 g 33 (n * 4) (stpPart l 0) := by
  refine cellsAt_list h (n * 4) _ (by simp [madeCells]) (fun j hj => ?_)
  have h2 : j % 4 = 0 ∨ j % 4 = 1 ∨ j % 4 = 2 ∨ j % 4 = 3 := by omega
  rcases h2 with h2 | h2 | h2 | h2 <;> simp [madeCells, hj, stpPart, h2]
theorem stp_laid {w2 : World} {g n k : Nat} {T : TypeId} {l : List stpT} (h : CellsAt w2 g T n (stpPart l k)) (hk : k < l.length) :
    CellsAt ((((w2.setCell ⟨g, k * 4, none⟩ (.int .i64 l[k].1)).setCell ⟨g, k * 4 + 1, none⟩ (.int .i64 l[k].2.1)).setCell ⟨g, k * 4 + 2, none⟩ (.int .i64 l[k].2.2.1)).setCell ⟨g, k * 4 + 3, none⟩ (.string l[k].2.2.2)) g T n (stpPart l (k + 1)) := by
  refine ((((h.set (v' := fun j => if j = k * 4 then .int .i64 l[k].1 else stpPart l k j) (k * 4) _ (if_pos rfl) (fun i hi => if_neg hi)).set (v' := fun j => if j = k * 4 + 1 then .int .i64 l[k].2.1 else if j = k * 4 then .int .i64 l[k].1 else stpPart l k j) (k * 4 + 1) _ (if_pos rfl) (fun i hi => if_neg hi)).set (v' := fun j => if j = k * 4 + 2 then .int .i64 l[k].2.2.1 else if j = k * 4 + 1 then .int .i64 l[k].2.1 else if j = k * 4 then .int .i64 l[k].1 else stpPart l k j) (k * 4 + 2) _ (if_pos rfl) (fun i hi => if_neg hi)).set (v' := fun j => if j = k * 4 + 3 then .string l[k].2.2.2 else if j = k * 4 + 2 then .int .i64 l[k].2.2.1 else if j = k * 4 + 1 then .int .i64 l[k].2.1 else if j = k * 4 then .int .i64 l[k].1 else stpPart l k j) (k * 4 + 3) _ (if_pos rfl) (fun i hi => if_neg hi)).congr fun j _ => ?_
  have e0 := stpCs_0 l k hk
  have e1 := stpCs_1 l k hk
  have e2 := stpCs_2 l k hk
  have e3 := stpCs_3 l k hk
  by_cases h3 : j = k * 4 + 3
  · subst h3; simp [stpPart, e3]; try omega
  by_cases h2 : j = k * 4 + 2
  · subst h2; simp [stpPart, e2]; try omega
  by_cases h1 : j = k * 4 + 1
  · subst h1; simp [stpPart, e1]; try omega
  by_cases h0 : j = k * 4
  · subst h0; simp [stpPart, e0]; try omega
  simp only [h0, h1, h2, h3, if_false, stpPart]
  by_cases h9 : j < k * 4
  · rw [if_pos h9, if_pos (by omega)]
  · rw [if_neg h9, if_neg (by omega)]

set_option maxRecDepth 100000 in
set_option maxHeartbeats 1000000 in
theorem toSteps_any (v : Value) (l : List stpT) (w : World) (h : Rd w v l.length 4 (stpCs l)) (hn : l.length ≤ 1048576) :
    Calls Tryd.prog 60 #[v] w (MadeRow w l.length 4 (stpCs l)) := by
  obtain ⟨i0, hi, hz0, hz1, hz2⟩ := info_parts Tryd.infostp
  obtain ⟨_, a, c, rfl, hc⟩ := h
  have HC := Lib.hid hc
  clear hc
  go_enter Tryd.func60, Tryd.ntmps60
  go_wp2_with (at_make; refine wpList_make_full _ rfl _ _ 24 rfl w.heap.size 33 i0 (.agg #[.int .i64 0, .int .i64 0, .int .i64 0, .string ByteArray.empty]) 4 Tryd.underlying24 hi hz0 hz1 .i64 .i64 _ _ l.length rfl rfl (by omega) (by omega) (by rw [hz2]; omega) (by unfold maxLen; omega) (Nat.le_refl _) ?_)
  intro w1 hown1 hgrow1
  have hb1 : Below w.heap.size w w1 := (Below.refl _ w).grown hgrow1 (Nat.le_refl _) (by simp)
  have hg1 := own_block' hown1
  have HG1 := Lib.hid (made_stp (l := l) hg1)
  have HB1 := Lib.hid hb1
  clear hown1 hgrow1 hg1 hb1 hi hz0 hz1 hz2
  go_wp2_with fail
  go_loopw [4] (fun i wr => stpCopyRel w l i wr) (fun i _ => l.length - (intOf i).toNat)
  case atStart => exact ⟨0, by omega, rfl, HG1.out, HB1.out⟩
  case round =>
    clear HG1 HB1
    obtain ⟨k, hk, rfl, hcs, hbel⟩ := hrel
    by_cases hlt : k < l.length
    · obtain ⟨b, off, rfl, hbl, hcell⟩ := HC.out (by omega)
      have hc0 : wr.cell? ⟨b, off + k * 4, none⟩ = some (.int .i64 l[k].1) := by
        rw [hbel.cell (p := ⟨b, off + k * 4, none⟩) hbl, hcell (k * 4) (by omega), stpCs_0 l k hlt]
      have hc1 : wr.cell? ⟨b, off + k * 4 + 1, none⟩ = some (.int .i64 l[k].2.1) := by
        rw [hbel.cell (p := ⟨b, off + k * 4 + 1, none⟩) hbl, Nat.add_assoc, hcell (k * 4 + 1) (by omega), stpCs_1 l k hlt]
      have hc2 : wr.cell? ⟨b, off + k * 4 + 2, none⟩ = some (.int .i64 l[k].2.2.1) := by
        rw [hbel.cell (p := ⟨b, off + k * 4 + 2, none⟩) hbl, Nat.add_assoc, hcell (k * 4 + 2) (by omega), stpCs_2 l k hlt]
      have hc3 : wr.cell? ⟨b, off + k * 4 + 3, none⟩ = some (.string l[k].2.2.2) := by
        rw [hbel.cell (p := ⟨b, off + k * 4 + 3, none⟩) hbl, Nat.add_assoc, hcell (k * 4 + 3) (by omega), stpCs_3 l k hlt]
      have HCS := Lib.hid hcs
      have HBEL := Lib.hid hbel
      have hsz := hbel.size
      clear hcs hbel hcell
      go_wp2_with fail
      refine (toStep_any _ _ _ _ _).mono ?_
      rintro e w2 ⟨rfl, hb2⟩
      have hcs2 := HCS.out.below hb2 HCS.out.lt
      have g0 := hcs2.cell (k * 4) (by omega)
      have f0 := hcs2.frozen (k * 4)
      generalize stpPart l k (k * 4) = v0 at g0
      have g1 := hcs2.cell (k * 4 + 1) (by omega)
      have f1 := hcs2.frozen (k * 4 + 1)
      generalize stpPart l k (k * 4 + 1) = v1 at g1
      have g2 := hcs2.cell (k * 4 + 2) (by omega)
      have f2 := hcs2.frozen (k * 4 + 2)
      generalize stpPart l k (k * 4 + 2) = v2 at g2
      have g3 := hcs2.cell (k * 4 + 3) (by omega)
      have f3 := hcs2.frozen (k * 4 + 3)
      generalize stpPart l k (k * 4 + 3) = v3 at g3
      have HC2 := Lib.hid hcs2
      have HB2 := Lib.hid (HBEL.out.trans (hb2.mono hsz))
      clear hcs2 hb2
      go_wp2_with fail
      go_roundw
      case rel =>
        refine ⟨k + 1, by omega, by go_num, ?_, ?_⟩
        · exact stp_laid HC2.out hlt
        · exact ((((HB2.out.setCell (p := ⟨w.heap.size, k * 4, none⟩) (Nat.le_refl _) _).setCell (p := ⟨w.heap.size, k * 4 + 1, none⟩) (Nat.le_refl _) _).setCell (p := ⟨w.heap.size, k * 4 + 2, none⟩) (Nat.le_refl _) _).setCell (p := ⟨w.heap.size, k * 4 + 3, none⟩) (Nat.le_refl _) _)
      case measure => simp [intOf]; omega
    · obtain rfl : k = l.length := by omega
      have HCS := Lib.hid hcs
      have HBEL := Lib.hid hbel
      clear hcs hbel
      go_wp2_with fail
      go_ret
      refine ⟨_, rfl, ?_, HBEL.out⟩
      refine own_of_cells HCS.out (Nat.le_refl _) (Nat.le_refl _) (stpCs_length l) (fun j hj => ?_)
      unfold stpPart
      rw [if_pos hj, List.getD_eq_getElem?_getD, List.getElem?_eq_getElem (by rw [stpCs_length]; exact hj)]; rfl

set_option maxRecDepth 100000 in
set_option maxHeartbeats 400000 in
theorem szStep_any (x0 : Int) (x1 : Int) (x2 : Int) (x3 : ByteArray) (left : Int) (w : World) (hs : x3.size ≤ maxLen) (h0 : 0 ≤ left) (h1 : left ≤ 1048576) :
    Calls Tryd.prog 80 #[.agg #[.int .i64 x0, .int .i64 x1, .int .i64 x2, .string x3], .int .i64 left] w (LeftB left ((x3.size : Int) ≤ left) w) := by
  unfold maxLen at hs
  by_cases hneg : left - (x3.size : Int) < 0
  · go_enter Tryd.func80, Tryd.ntmps80
    go_wp2_with fail
    go_ret
    exact ⟨-1, rfl, (Below.refl _ _).alloc (Nat.le_refl _) _, .inl rfl⟩
  · go_enter Tryd.func80, Tryd.ntmps80
    go_wp2_with fail
    go_ret
    exact ⟨_, rfl, (Below.refl _ _).alloc (Nat.le_refl _) _, .inr ⟨by omega, by omega, by omega⟩⟩
def stpSizeRel (l : List stpT) (left : Int) (w : World) (x i : Value) (wr : World) : Prop :=
  ∃ (k : Nat) (r : Int), k ≤ l.length ∧ i = .int .i64 k ∧ x = .int .i64 r ∧ 0 ≤ r ∧ r ≤ left ∧ (∀ j (h : j < l.length), j < k → (l[j].2.2.2.size : Int) ≤ left) ∧ Below w.heap.size w wr
set_option maxRecDepth 100000 in
set_option maxHeartbeats 1000000 in
theorem szSteps_any (v : Value) (l : List stpT) (left : Int) (w : World) (h : Rd w v l.length 4 (stpCs l)) (hn : l.length ≤ maxLen) (hs : ∀ d ∈ l, d.2.2.2.size ≤ maxLen) (h0 : 0 ≤ left) (h1 : left ≤ 1048576) :
    Calls Tryd.prog 58 #[v, .int .i64 left] w (LeftB left (l.length ≤ left ∧ ∀ d ∈ l, (d.2.2.2.size : Int) ≤ left) w) := by
  unfold maxLen at hn
  obtain ⟨_, a, c, rfl, hc⟩ := h
  have HC := Lib.hid hc
  have HS := Lib.hid hs
  clear hc hs
  by_cases hlen : left - l.length < 0
  · go_enter Tryd.func58, Tryd.ntmps58
    go_wp2_with fail
    go_ret
    exact ⟨-1, rfl, Below.refl _ _, .inl rfl⟩
  · have d0 : decide (left - (l.length : Int) < 0) = false := decide_eq_false hlen
    go_enter Tryd.func58, Tryd.ntmps58
    go_wp2_with fail
    go_loopw [1, 5] (fun x i wr => stpSizeRel l left w x i wr) (fun _ i _ => l.length - (intOf i).toNat)
    case atStart => exact ⟨0, _, by omega, rfl, rfl, by omega, by omega, fun j _ hj => absurd hj (by omega), Below.refl _ _⟩
    case round =>
      obtain ⟨k, r, hk, rfl, rfl, hr0, hr1, hsz, hbel⟩ := hrel
      have HSZ := Lib.hid hsz
      clear hsz
      by_cases hlt : k < l.length
      · obtain ⟨b, off, rfl, hbl, hcell⟩ := HC.out (by omega)
        have hc0 : wr.cell? ⟨b, off + k * 4, none⟩ = some (.int .i64 l[k].1) := by
          rw [hbel.cell (p := ⟨b, off + k * 4, none⟩) hbl, hcell (k * 4) (by omega), stpCs_0 l k hlt]
        have hc1 : wr.cell? ⟨b, off + k * 4 + 1, none⟩ = some (.int .i64 l[k].2.1) := by
          rw [hbel.cell (p := ⟨b, off + k * 4 + 1, none⟩) hbl, Nat.add_assoc, hcell (k * 4 + 1) (by omega), stpCs_1 l k hlt]
        have hc2 : wr.cell? ⟨b, off + k * 4 + 2, none⟩ = some (.int .i64 l[k].2.2.1) := by
          rw [hbel.cell (p := ⟨b, off + k * 4 + 2, none⟩) hbl, Nat.add_assoc, hcell (k * 4 + 2) (by omega), stpCs_2 l k hlt]
        have hc3 : wr.cell? ⟨b, off + k * 4 + 3, none⟩ = some (.string l[k].2.2.2) := by
          rw [hbel.cell (p := ⟨b, off + k * 4 + 3, none⟩) hbl, Nat.add_assoc, hcell (k * 4 + 3) (by omega), stpCs_3 l k hlt]
        have hsk := HS.out l[k] (List.getElem_mem hlt)
        have hbs := hbel.size
        have HBEL := Lib.hid hbel
        clear hcell hbel
        go_wp2_with fail
        refine (szStep_any _ _ _ _ r _ hsk hr0 (by omega)).mono ?_
        rintro e w2 ⟨q, rfl, hb2, hq⟩
        have HB2 := Lib.hid (HBEL.out.trans (hb2.mono hbs))
        clear hb2 hsk
        rcases hq with rfl | ⟨hq0, hq1, hq2⟩
        · go_wp2_with fail
          go_ret
          exact ⟨-1, rfl, HB2.out, .inl rfl⟩
        · have d1 : decide (q < 0) = false := decide_eq_false (by omega)
          go_wp2_with fail
          go_roundw
          case rel =>
            refine ⟨k + 1, q, by omega, by go_num, rfl, hq0, by omega, fun j h hj => ?_, HB2.out⟩
            by_cases hjk : j = k
            · subst hjk; omega
            · exact HSZ.out j h (by omega)
          case measure => simp [intOf]; omega
      · obtain rfl : k = l.length := by omega
        have HBEL := Lib.hid hbel
        clear hbel
        go_wp2_with fail
        go_ret
        refine ⟨r, rfl, HBEL.out, .inr ⟨hr0, hr1, by omega, fun s hs => ?_⟩⟩
        obtain ⟨j, hj, rfl⟩ := List.getElem_of_mem hs
        exact HSZ.out j hj hj

set_option maxRecDepth 100000 in
set_option maxHeartbeats 1000000 in
theorem eqSteps_any (v u : Value) (l : List stpT) (w : World) (h : Rd w v l.length 4 (stpCs l)) (k : Rd w u l.length 4 (stpCs l)) (hn : l.length ≤ maxLen) :
    Calls Tryd.prog 62 #[v, u] w fun e w' => e = .returned (.bool true) ∧ Below w.heap.size w w' := by
  unfold maxLen at hn
  obtain ⟨_, a, c, rfl, hc⟩ := h
  obtain ⟨_, a', c', rfl, hc'⟩ := k
  have HC := Lib.hid hc
  have HC' := Lib.hid hc'
  clear hc hc'
  have d0 : ((l.length : Int) != (l.length : Int)) = false := by simp
  go_enter Tryd.func62, Tryd.ntmps62
  go_wp2_with fail
  go_loopw [5] (fun i wr => DEqRel w l.length i wr) (fun i _ => l.length - (intOf i).toNat)
  case atStart => exact ⟨0, by omega, rfl, Below.refl _ _⟩
  case round =>
    obtain ⟨k, hk, rfl, hbel⟩ := hrel
    by_cases hlt : k < l.length
    · obtain ⟨b, off, rfl, hbl, hcell⟩ := HC.out (by omega)
      obtain ⟨b', off', rfl, hbl', hcell'⟩ := HC'.out (by omega)
      have hc0 : wr.cell? ⟨b, off + k * 4, none⟩ = some (.int .i64 l[k].1) := by
        rw [hbel.cell (p := ⟨b, off + k * 4, none⟩) hbl, hcell (k * 4) (by omega), stpCs_0 l k hlt]
      have hc1 : wr.cell? ⟨b, off + k * 4 + 1, none⟩ = some (.int .i64 l[k].2.1) := by
        rw [hbel.cell (p := ⟨b, off + k * 4 + 1, none⟩) hbl, Nat.add_assoc, hcell (k * 4 + 1) (by omega), stpCs_1 l k hlt]
      have hc2 : wr.cell? ⟨b, off + k * 4 + 2, none⟩ = some (.int .i64 l[k].2.2.1) := by
        rw [hbel.cell (p := ⟨b, off + k * 4 + 2, none⟩) hbl, Nat.add_assoc, hcell (k * 4 + 2) (by omega), stpCs_2 l k hlt]
      have hc3 : wr.cell? ⟨b, off + k * 4 + 3, none⟩ = some (.string l[k].2.2.2) := by
        rw [hbel.cell (p := ⟨b, off + k * 4 + 3, none⟩) hbl, Nat.add_assoc, hcell (k * 4 + 3) (by omega), stpCs_3 l k hlt]
      have hd0 : wr.cell? ⟨b', off' + k * 4, none⟩ = some (.int .i64 l[k].1) := by
        rw [hbel.cell (p := ⟨b', off' + k * 4, none⟩) hbl', hcell' (k * 4) (by omega), stpCs_0 l k hlt]
      have hd1 : wr.cell? ⟨b', off' + k * 4 + 1, none⟩ = some (.int .i64 l[k].2.1) := by
        rw [hbel.cell (p := ⟨b', off' + k * 4 + 1, none⟩) hbl', Nat.add_assoc, hcell' (k * 4 + 1) (by omega), stpCs_1 l k hlt]
      have hd2 : wr.cell? ⟨b', off' + k * 4 + 2, none⟩ = some (.int .i64 l[k].2.2.1) := by
        rw [hbel.cell (p := ⟨b', off' + k * 4 + 2, none⟩) hbl', Nat.add_assoc, hcell' (k * 4 + 2) (by omega), stpCs_2 l k hlt]
      have hd3 : wr.cell? ⟨b', off' + k * 4 + 3, none⟩ = some (.string l[k].2.2.2) := by
        rw [hbel.cell (p := ⟨b', off' + k * 4 + 3, none⟩) hbl', Nat.add_assoc, hcell' (k * 4 + 3) (by omega), stpCs_3 l k hlt]
      have hbs := hbel.size
      have HBEL := Lib.hid hbel
      clear hcell hcell' hbel
      have e0 : (k : Int) < (l.length : Int) := by omega
      have e1 : (0 : Int) ≤ (k : Int) := by omega
      go_wp2_with fail
      go_still_tail 8, (by kernel_rfl)
      change wpList _ _ _ _ _ wr.drew
      go_wp2_with fail
      refine (eqStep_any _ _ _ _ _).mono ?_
      rintro e w2 ⟨rfl, hb2⟩
      have HB2 := Lib.hid (HBEL.out.drew.trans (hb2.mono hbs))
      clear hb2
      go_wp2_with fail
      go_roundw
      case rel => exact ⟨k + 1, by omega, by go_num, HB2.out⟩
      case measure => simp [intOf]; omega
    · obtain rfl : k = l.length := by omega
      have HBEL := Lib.hid hbel
      clear hbel
      go_wp2_with fail
      go_ret
      exact ⟨rfl, HBEL.out⟩

/-- The mark of cell j. -/
def stpMark (k j : Nat) : Value := if j % 4 = 0 then .int .i64 ((k + j : Nat) : Int) else if j % 4 = 1 then .int .i64 ((k + j : Nat) : Int) else if j % 4 = 2 then .int .i64 ((k + j : Nat) : Int) else .string (markS (k + j))
def stpMarks (k n : Nat) : List Value := (List.range (n * 4)).map (stpMark k)
def stpMarked (k i : Nat) (xs : List Value) : List Value := (List.range xs.length).map fun j => if j < i then stpMark k j else xs.getD j undef
theorem stpMarked_zero (k : Nat) (xs : List Value) : stpMarked k 0 xs = xs := by
  apply List.ext_getElem
  · simp [stpMarked]
  · intro j h1 h2; simp [stpMarked, h2]
theorem stpMarked_all (k n : Nat) (xs : List Value) (h : xs.length = n * 4) : stpMarked k (n * 4) xs = stpMarks k n := by
  apply List.ext_getElem
  · simp [stpMarked, stpMarks, h]
  · intro j h1 h2; simp [stpMarked, h] at h1; simp [stpMarked, stpMarks, h1]
theorem stpMarked_set (k i : Nat) (xs : List Value) : (stpMarked k i xs).set i (stpMark k i) = stpMarked k (i + 1) xs := by
  apply List.ext_getElem
  · simp [stpMarked]
  · intro j h1 h2
    rw [List.getElem_set]
    by_cases hj : i = j
    · subst hj; simp [stpMarked]
    · rw [if_neg hj]; simp only [stpMarked, List.getElem_map, List.getElem_range]
      by_cases hji : j < i
      · rw [if_pos hji, if_pos (by omega)]
      · rw [if_neg hji, if_neg (by omega)]
theorem stpMarks_at (k n j : Nat) (h : j < n * 4) : (stpMarks k n)[j]? = some (stpMark k j) := by simp [stpMarks, h]
theorem stpMark_0 (k j : Nat) : stpMark k (j * 4) = .int .i64 ((k + j * 4 : Nat) : Int) := by unfold stpMark; rw [if_pos (by omega)]
theorem stpMark_1 (k j : Nat) : stpMark k (j * 4 + 1) = .int .i64 ((k + j * 4 + 1 : Nat) : Int) := by unfold stpMark; rw [if_neg (by omega), if_pos (by omega)]; rfl
theorem stpMark_2 (k j : Nat) : stpMark k (j * 4 + 2) = .int .i64 ((k + j * 4 + 2 : Nat) : Int) := by unfold stpMark; rw [if_neg (by omega), if_neg (by omega), if_pos (by omega)]; rfl
theorem stpMark_3 (k j : Nat) : stpMark k (j * 4 + 3) = .string (markS (k + j * 4 + 3)) := by unfold stpMark; rw [if_neg (by omega), if_neg (by omega), if_neg (by omega)]; rfl
def stpMarkRel (lo : Nat) (v : Value) (k n : Nat) (xs : List Value) (w : World) (q i : Value) (wr : World) : Prop :=
  ∃ j : Nat, j ≤ n ∧ q = .int .i64 ((k + j * 4 : Nat) : Int) ∧ i = .int .i64 j ∧ Own wr lo v n 4 (stpMarked k (j * 4) xs) ∧ w.grownBy wr (blk v n)
def stpHeldRel (k n : Nat) (w : World) (q i : Value) (wr : World) : Prop :=
  ∃ j : Nat, j ≤ n ∧ q = .int .i64 ((k + j * 4 : Nat) : Int) ∧ i = .int .i64 j ∧ Below w.heap.size w wr

end Go.Proofs.YtcckpkcjekcajaaDoor
