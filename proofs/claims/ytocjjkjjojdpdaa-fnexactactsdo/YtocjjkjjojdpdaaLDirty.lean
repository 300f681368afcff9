/- Slices of Dirty in the laws: copied, measured, compared, marked. -/
import Derived.Test.YtocjjkjjojdpdaaLMark
import Derived.StillTailTactics
namespace Go.Proofs.Ytocjjkjjojdpdaa
open Go.RowKit

abbrev D := Int × ByteArray
def dV (d : D) : Value := .agg #[.int .i64 d.1, .string d.2]
def dirs : List D → List Value
  | [] => []
  | d :: l => .int .i64 d.1 :: .string d.2 :: dirs l
theorem dirs_length : ∀ l : List D, (dirs l).length = l.length * 2
  | [] => rfl
  | d :: l => by simp [dirs, dirs_length l]; omega
theorem dirs_even : ∀ (l : List D) (j : Nat) (h : j < l.length), (dirs l)[j * 2]? = some (.int .i64 l[j].1)
  | d :: l, 0, _ => rfl
  | d :: l, j + 1, h => by
    rw [show (j + 1) * 2 = j * 2 + 1 + 1 by omega]
    simpa [dirs] using dirs_even l j (by simpa using h)
theorem dirs_odd : ∀ (l : List D) (j : Nat) (h : j < l.length), (dirs l)[j * 2 + 1]? = some (.string l[j].2)
  | d :: l, 0, _ => rfl
  | d :: l, j + 1, h => by
    rw [show (j + 1) * 2 + 1 = j * 2 + 1 + 1 + 1 by omega]
    simpa [dirs] using dirs_odd l j (by simpa using h)

set_option maxRecDepth 100000 in
set_option maxHeartbeats 400000 in
theorem toDirty_any (x : Int) (s : ByteArray) (w : World) :
    Calls Try.prog 58 #[.agg #[.int .i64 x, .string s]] w fun e w' => e = .returned (.agg #[.int .i64 x, .string s]) ∧ Below w.heap.size w w' := by
  go_enter Try.func58, Try.ntmps58
  go_wp2_with fail
  refine bodyPost_ret (v := .agg #[.int .i64 x, .string s]) (by simp [results, Try.results58, go_sem]) rfl ⟨rfl, ?_⟩
  exact (((Below.refl _ _).alloc (Nat.le_refl _) _).alloc (by simp) _).alloc (by simp; omega) _
/-- As LeftIn, memory having been made. -/
def LeftB (left : Int) (P : Prop) (w : World) (e : Ending) (w' : World) : Prop := ∃ r : Int, e = .returned (.int .i64 r) ∧ Below w.heap.size w w' ∧ (r = -1 ∨ 0 ≤ r ∧ r ≤ left ∧ P)
set_option maxRecDepth 100000 in
set_option maxHeartbeats 400000 in
theorem szDirty_any (x : Int) (s : ByteArray) (left : Int) (w : World) (hs : s.size ≤ maxLen) (h0 : 0 ≤ left) (h1 : left ≤ 1048576) :
    Calls Try.prog 54 #[.agg #[.int .i64 x, .string s], .int .i64 left] w (LeftB left ((s.size : Int) ≤ left) w) := by
  unfold maxLen at hs
  by_cases hneg : left - (s.size : Int) < 0
  · go_enter Try.func54, Try.ntmps54
    go_wp2_with fail
    go_ret
    exact ⟨-1, rfl, (Below.refl _ _).alloc (Nat.le_refl _) _, .inl rfl⟩
  · go_enter Try.func54, Try.ntmps54
    go_wp2_with fail
    go_ret
    exact ⟨_, rfl, (Below.refl _ _).alloc (Nat.le_refl _) _, .inr ⟨by omega, by omega, by omega⟩⟩
set_option maxRecDepth 100000 in
set_option maxHeartbeats 400000 in
theorem eqDirty_any (x : Int) (s : ByteArray) (w : World) :
    Calls Try.prog 65 #[.agg #[.int .i64 x, .string s], .agg #[.int .i64 x, .string s]] w fun e w' => e = .returned (.bool true) ∧ Below w.heap.size w w' := by
  have d0 : (x != x) = false := by simp
  go_enter Try.func65, Try.ntmps65
  go_wp2_with fail
  go_ret
  exact ⟨rfl, ((Below.refl _ _).alloc (Nat.le_refl _) _).alloc (by simp) _⟩

theorem Try.infoD : (Try.prog.info? 82).map (fun i => (i.zero, i.size, i.bytes)) = some (some (.agg #[.int .i64 0, .string ByteArray.empty]), 2, 24) := by kernel_rfl
theorem own_block' {w : World} {base e g n sz : Nat} {xs : List Value} (h : w.ownsRow base e sz (.slice (some ⟨g, 0, none⟩) n n) n xs) : w.heap[g]? = some (.cells xs.toArray e (0, 0)) := by
  rcases h.2 with ⟨h', _⟩ | ⟨g', cap', cur, h', _, hg, _, _, hs, htake⟩
  · simp at h'
  · simp only [Value.slice.injEq, Option.some.injEq, Addr.mk.injEq, and_true, true_and] at h'
    obtain ⟨rfl, rfl⟩ := h'
    rw [hg, ← htake, List.take_of_length_le (by simp [hs])]
/-- The first k of l laid, the others at zero. -/
def dPart (l : List D) (k j : Nat) : Value := if j < k * 2 then (dirs l).getD j undef else if j % 2 = 0 then .int .i64 0 else .string ByteArray.empty
def DCopyRel (w : World) (l : List D) (i : Value) (wr : World) : Prop :=
  ∃ k : Nat, k ≤ l.length ∧ i = .int .i64 k ∧ CellsAt wr w.heap.size 82 (l.length * 2) (dPart l k) ∧ Below w.heap.size w wr
theorem made_dirs {w1 : World} {g n : Nat} {l : List D} (h : w1.heap[g]? = some (.cells (madeCells #[Value.int .i64 0, Value.string ByteArray.empty] (n * 2)).toList.toArray 82 (0, 0))) : CellsAt w1 g 82 (n * 2) (dPart l 0) := by
  refine cellsAt_list h (n * 2) _ (by simp [madeCells]) (fun j hj => ?_)
  have h2 : j % 2 = 0 ∨ j % 2 = 1 := by omega
  rcases h2 with h2 | h2 <;> simp [madeCells, hj, dPart, h2]

theorem d_laid {w2 : World} {g n k : Nat} {T : TypeId} {l : List D} (h : CellsAt w2 g T n (dPart l k)) (hk : k < l.length) :
    CellsAt ((w2.setCell ⟨g, k * 2, none⟩ (.int .i64 l[k].1)).setCell ⟨g, k * 2 + 1, none⟩ (.string l[k].2)) g T n (dPart l (k + 1)) := by
  refine ((h.set (v' := fun j => if j = k * 2 then .int .i64 l[k].1 else dPart l k j) (k * 2) _ (if_pos rfl) (fun i hi => if_neg hi)).set (v' := fun j => if j = k * 2 + 1 then .string l[k].2 else if j = k * 2 then .int .i64 l[k].1 else dPart l k j) (k * 2 + 1) _ (if_pos rfl) (fun i hi => if_neg hi)).congr fun j _ => ?_
  have e1 := dirs_even l k hk
  have e2 := dirs_odd l k hk
  by_cases h1 : j = k * 2 + 1
  · subst h1; simp [dPart, e2]; try omega
  · by_cases h2 : j = k * 2
    · subst h2; simp [dPart, e1]; try omega
    · simp only [h1, h2, if_false, dPart]
      by_cases h3 : j < k * 2
      · rw [if_pos h3, if_pos (by omega)]
      · rw [if_neg h3, if_neg (by omega)]

set_option maxRecDepth 100000 in
set_option maxHeartbeats 1000000 in
theorem toDirs_any (v : Value) (l : List D) (w : World) (h : Rd w v l.length 2 (dirs l)) (hn : l.length ≤ 1048576) :
    Calls Try.prog 35 #[v] w (MadeRow w l.length 2 (dirs l)) := by
  obtain ⟨i0, hi, hz0, hz1, hz2⟩ := info_parts Try.infoD
  obtain ⟨_, a, c, rfl, hc⟩ := h
  have HC := Lib.hid hc
  clear hc
  go_enter Try.func35, Try.ntmps35
  go_wp2_with (at_make; refine wpList_make_full _ rfl _ _ 31 rfl w.heap.size 82 i0 (.agg #[.int .i64 0, .string ByteArray.empty]) 2 Try.underlying31 hi hz0 hz1 .i64 .i64 _ _ l.length rfl rfl (by omega) (by omega) (by rw [hz2]; omega) (by unfold maxLen; omega) (Nat.le_refl _) ?_)
  intro w1 hown1 hgrow1
  have hb1 : Below w.heap.size w w1 := (Below.refl _ w).grown hgrow1 (Nat.le_refl _) (by simp)
  have hg1 := own_block' hown1
  have HG1 := Lib.hid (made_dirs (l := l) hg1)
  have HB1 := Lib.hid hb1
  clear hown1 hgrow1 hg1 hb1 hi hz0 hz1 hz2
  go_wp2_with fail
  go_loopw [4] (fun i wr => DCopyRel w l i wr) (fun i _ => l.length - (intOf i).toNat)
  case atStart => exact ⟨0, by omega, rfl, HG1.out, HB1.out⟩
  case round =>
    clear HG1 HB1
    obtain ⟨k, hk, rfl, hcs, hbel⟩ := hrel
    by_cases hlt : k < l.length
    · obtain ⟨b, off, rfl, hbl, hcell⟩ := HC.out (by omega)
      have hc1 : wr.cell? ⟨b, off + k * 2, none⟩ = some (.int .i64 l[k].1) := by
        rw [hbel.cell (p := ⟨b, off + k * 2, none⟩) hbl, hcell (k * 2) (by omega), dirs_even l k hlt]
      have hc2 : wr.cell? ⟨b, off + k * 2 + 1, none⟩ = some (.string l[k].2) := by
        rw [hbel.cell (p := ⟨b, off + k * 2 + 1, none⟩) hbl, Nat.add_assoc, hcell (k * 2 + 1) (by omega), dirs_odd l k hlt]
      have HCS := Lib.hid hcs
      have HBEL := Lib.hid hbel
      have hsz := hbel.size
      clear hcs hbel hcell
      go_wp2_with fail
      refine (toDirty_any _ _ _).mono ?_
      rintro e w2 ⟨rfl, hb2⟩
      have hcs2 := HCS.out.below hb2 HCS.out.lt
      have g1 := hcs2.cell (k * 2) (by omega)
      have g2 := hcs2.cell (k * 2 + 1) (by omega)
      have f1 := hcs2.frozen (k * 2)
      have f2 := hcs2.frozen (k * 2 + 1)
      generalize dPart l k (k * 2) = v1 at g1
      generalize dPart l k (k * 2 + 1) = v2 at g2
      have HC2 := Lib.hid hcs2
      have HB2 := Lib.hid (HBEL.out.trans (hb2.mono hsz))
      clear hcs2 hb2
      go_wp2_with fail
      go_roundw
      case rel =>
        refine ⟨k + 1, by omega, by go_num, ?_, ?_⟩
        · exact d_laid HC2.out hlt
        · exact (HB2.out.setCell (p := ⟨w.heap.size, k * 2, none⟩) (Nat.le_refl _) _).setCell (p := ⟨w.heap.size, k * 2 + 1, none⟩) (Nat.le_refl _) _
      case measure => simp [intOf]; omega
    · obtain rfl : k = l.length := by omega
      have HCS := Lib.hid hcs
      have HBEL := Lib.hid hbel
      clear hcs hbel
      go_wp2_with fail
      go_ret
      refine ⟨_, rfl, ?_, HBEL.out⟩
      refine own_of_cells HCS.out (Nat.le_refl _) (Nat.le_refl _) (dirs_length l) (fun j hj => ?_)
      unfold dPart
      rw [if_pos hj, List.getD_eq_getElem?_getD, List.getElem?_eq_getElem (by rw [dirs_length]; exact hj)]; rfl

def DSizeRel (l : List D) (left : Int) (w : World) (x i : Value) (wr : World) : Prop :=
  ∃ (k : Nat) (r : Int), k ≤ l.length ∧ i = .int .i64 k ∧ x = .int .i64 r ∧ 0 ≤ r ∧ r ≤ left ∧ (∀ j (h : j < l.length), j < k → (l[j].2.size : Int) ≤ left) ∧ Below w.heap.size w wr
set_option maxRecDepth 100000 in
set_option maxHeartbeats 1000000 in
theorem szDirs_any (v : Value) (l : List D) (left : Int) (w : World) (h : Rd w v l.length 2 (dirs l)) (hn : l.length ≤ maxLen) (hs : ∀ d ∈ l, d.2.size ≤ maxLen) (h0 : 0 ≤ left) (h1 : left ≤ 1048576) :
    Calls Try.prog 29 #[v, .int .i64 left] w (LeftB left (l.length ≤ left ∧ ∀ d ∈ l, (d.2.size : Int) ≤ left) w) := by
  unfold maxLen at hn
  obtain ⟨_, a, c, rfl, hc⟩ := h
  have HC := Lib.hid hc
  have HS := Lib.hid hs
  clear hc hs
  by_cases hlen : left - l.length < 0
  · go_enter Try.func29, Try.ntmps29
    go_wp2_with fail
    go_ret
    exact ⟨-1, rfl, Below.refl _ _, .inl rfl⟩
  · have d0 : decide (left - (l.length : Int) < 0) = false := decide_eq_false hlen
    go_enter Try.func29, Try.ntmps29
    go_wp2_with fail
    go_loopw [1, 5] (fun x i wr => DSizeRel l left w x i wr) (fun _ i _ => l.length - (intOf i).toNat)
    case atStart => exact ⟨0, _, by omega, rfl, rfl, by omega, by omega, fun j _ hj => absurd hj (by omega), Below.refl _ _⟩
    case round =>
      obtain ⟨k, r, hk, rfl, rfl, hr0, hr1, hsz, hbel⟩ := hrel
      have HSZ := Lib.hid hsz
      clear hsz
      by_cases hlt : k < l.length
      · obtain ⟨b, off, rfl, hbl, hcell⟩ := HC.out (by omega)
        have hc1 : wr.cell? ⟨b, off + k * 2, none⟩ = some (.int .i64 l[k].1) := by
          rw [hbel.cell (p := ⟨b, off + k * 2, none⟩) hbl, hcell (k * 2) (by omega), dirs_even l k hlt]
        have hc2 : wr.cell? ⟨b, off + k * 2 + 1, none⟩ = some (.string l[k].2) := by
          rw [hbel.cell (p := ⟨b, off + k * 2 + 1, none⟩) hbl, Nat.add_assoc, hcell (k * 2 + 1) (by omega), dirs_odd l k hlt]
        have hsk := HS.out l[k] (List.getElem_mem hlt)
        have hbs := hbel.size
        have HBEL := Lib.hid hbel
        clear hcell hbel
        go_wp2_with fail
        refine (szDirty_any _ _ r _ hsk hr0 (by omega)).mono ?_
        rintro e w2 ⟨q, rfl, hb2, hq⟩
        have HB2 := Lib.hid (HBEL.out.trans (hb2.mono hbs))
        clear hb2 hsk
        rcases hq with rfl | ⟨hq0, hq1, hq2⟩
        · go_wp2_with fail
          go_ret
          exact ⟨-1, rfl, HB2.out, .inl rfl⟩
        · have d1 : decide (q < 0) = false := decide_eq_false (by omega)
          go_wp2_with fail
          go_roundw
          case rel =>
            refine ⟨k + 1, q, by omega, by go_num, rfl, hq0, by omega, fun j h hj => ?_, HB2.out⟩
            by_cases hjk : j = k
            · subst hjk; omega
            · exact HSZ.out j h (by omega)
          case measure => simp [intOf]; omega
      · obtain rfl : k = l.length := by omega
        have HBEL := Lib.hid hbel
        clear hbel
        go_wp2_with fail
        go_ret
        refine ⟨r, rfl, HBEL.out, .inr ⟨hr0, hr1, by omega, fun s hs => ?_⟩⟩
        obtain ⟨j, hj, rfl⟩ := List.getElem_of_mem hs
        exact HSZ.out j hj hj

def DEqRel (w : World) (n : Nat) (i : Value) (wr : World) : Prop := ∃ k : Nat, k ≤ n ∧ i = .int .i64 k ∧ Below w.heap.size w wr
set_option maxRecDepth 100000 in
set_option maxHeartbeats 1000000 in
theorem eqDirs_any (v u : Value) (l : List D) (w : World) (h : Rd w v l.length 2 (dirs l)) (k : Rd w u l.length 2 (dirs l)) (hn : l.length ≤ maxLen) :
    Calls Try.prog 44 #[v, u] w fun e w' => e = .returned (.bool true) ∧ Below w.heap.size w w' := by
  unfold maxLen at hn
  obtain ⟨_, a, c, rfl, hc⟩ := h
  obtain ⟨_, a', c', rfl, hc'⟩ := k
  have HC := Lib.hid hc
  have HC' := Lib.hid hc'
  clear hc hc'
  have d0 : ((l.length : Int) != (l.length : Int)) = false := by simp
  go_enter Try.func44, Try.ntmps44
  go_wp2_with fail
  go_loopw [5] (fun i wr => DEqRel w l.length i wr) (fun i _ => l.length - (intOf i).toNat)
  case atStart => exact ⟨0, by omega, rfl, Below.refl _ _⟩
  case round =>
    obtain ⟨k, hk, rfl, hbel⟩ := hrel
    by_cases hlt : k < l.length
    · obtain ⟨b, off, rfl, hbl, hcell⟩ := HC.out (by omega)
      obtain ⟨b', off', rfl, hbl', hcell'⟩ := HC'.out (by omega)
      have hc1 : wr.cell? ⟨b, off + k * 2, none⟩ = some (.int .i64 l[k].1) := by
        rw [hbel.cell (p := ⟨b, off + k * 2, none⟩) hbl, hcell (k * 2) (by omega), dirs_even l k hlt]
      have hc2 : wr.cell? ⟨b, off + k * 2 + 1, none⟩ = some (.string l[k].2) := by
        rw [hbel.cell (p := ⟨b, off + k * 2 + 1, none⟩) hbl, Nat.add_assoc, hcell (k * 2 + 1) (by omega), dirs_odd l k hlt]
      have hc3 : wr.cell? ⟨b', off' + k * 2, none⟩ = some (.int .i64 l[k].1) := by
        rw [hbel.cell (p := ⟨b', off' + k * 2, none⟩) hbl', hcell' (k * 2) (by omega), dirs_even l k hlt]
      have hc4 : wr.cell? ⟨b', off' + k * 2 + 1, none⟩ = some (.string l[k].2) := by
        rw [hbel.cell (p := ⟨b', off' + k * 2 + 1, none⟩) hbl', Nat.add_assoc, hcell' (k * 2 + 1) (by omega), dirs_odd l k hlt]
      have hbs := hbel.size
      have HBEL := Lib.hid hbel
      clear hcell hcell' hbel
      have e0 : (k : Int) < (l.length : Int) := by omega
      have e1 : (0 : Int) ≤ (k : Int) := by omega
      go_wp2_with fail
      go_still_tail 8, (by kernel_rfl)
      change wpList _ _ _ _ _ wr.drew
      go_wp2_with fail
      refine (eqDirty_any _ _ _).mono ?_
      rintro e w2 ⟨rfl, hb2⟩
      have HB2 := Lib.hid (HBEL.out.drew.trans (hb2.mono hbs))
      clear hb2
      go_wp2_with fail
      go_roundw
      case rel => exact ⟨k + 1, by omega, by go_num, HB2.out⟩
      case measure => simp [intOf]; omega
    · obtain rfl : k = l.length := by omega
      have HBEL := Lib.hid hbel
      clear hbel
      go_wp2_with fail
      go_ret
      exact ⟨rfl, HBEL.out⟩

/-- The mark of cell j: a number where j is even, a text where it is odd. -/
def markCell (k j : Nat) : Value := if j % 2 = 0 then .int .i64 ((k + j : Nat) : Int) else .string (markS (k + j))
def marksD (k n : Nat) : List Value := (List.range (n * 2)).map (markCell k)
def markedD (k i : Nat) (xs : List Value) : List Value := (List.range xs.length).map fun j => if j < i then markCell k j else xs.getD j undef
theorem markedD_length (k i : Nat) (xs : List Value) : (markedD k i xs).length = xs.length := by simp [markedD]
theorem markedD_zero (k : Nat) (xs : List Value) : markedD k 0 xs = xs := by
  apply List.ext_getElem
  · simp [markedD]
  · intro j h1 h2; simp [markedD, h2]
theorem markedD_all (k n : Nat) (xs : List Value) (h : xs.length = n * 2) : markedD k (n * 2) xs = marksD k n := by
  apply List.ext_getElem
  · simp [markedD, marksD, h]
  · intro j h1 h2; simp [markedD, h] at h1; simp [markedD, marksD, h1]
theorem markedD_set (k i : Nat) (xs : List Value) : (markedD k i xs).set i (markCell k i) = markedD k (i + 1) xs := by
  apply List.ext_getElem
  · simp [markedD]
  · intro j h1 h2
    rw [List.getElem_set]
    by_cases hj : i = j
    · subst hj; simp [markedD]
    · rw [if_neg hj]; simp only [markedD, List.getElem_map, List.getElem_range]
      by_cases hji : j < i
      · rw [if_pos hji, if_pos (by omega)]
      · rw [if_neg hji, if_neg (by omega)]
theorem markCell_even (k j : Nat) : markCell k (j * 2) = .int .i64 ((k + j * 2 : Nat) : Int) := by unfold markCell; rw [if_pos (by omega)]
theorem markCell_odd (k j : Nat) : markCell k (j * 2 + 1) = .string (markS (k + j * 2 + 1)) := by unfold markCell; rw [if_neg (by omega)]; rfl
theorem marksD_at (k n j : Nat) (h : j < n * 2) : (marksD k n)[j]? = some (markCell k j) := by simp [marksD, h]

def MarkDRel (lo : Nat) (v : Value) (k n : Nat) (xs : List Value) (w : World) (q i : Value) (wr : World) : Prop :=
  ∃ j : Nat, j ≤ n ∧ q = .int .i64 ((k + j * 2 : Nat) : Int) ∧ i = .int .i64 j ∧ Own wr lo v n 2 (markedD k (j * 2) xs) ∧ w.grownBy wr (blk v n)
theorem Own.cellEx {w : World} {lo n sz c b off : Nat} {xs : List Value} (h : Own w lo (.slice (some ⟨b, off, none⟩) n c) n sz xs) (j : Nat) (hj : j < n * sz) : (∃ v, w.cell? ⟨b, off + j, none⟩ = some v) ∧ w.frozen? ⟨b, off + j, none⟩ = false := by
  have hn : 0 < n := by
    rcases Nat.eq_zero_or_pos n with h0 | h0
    · subst h0; simp at hj
    · exact h0
  obtain ⟨b', off', e, _, _, hc, hf⟩ := h.get hn
  simp only [Option.some.injEq, Addr.mk.injEq, and_true] at e
  obtain ⟨rfl, rfl⟩ := e
  refine ⟨⟨xs[j]'(by rw [h.1]; exact hj), ?_⟩, hf j hj⟩
  rw [hc j hj, List.getElem?_eq_getElem (by rw [h.1]; exact hj)]

set_option maxRecDepth 100000 in
set_option maxHeartbeats 1000000 in
theorem markDirs_any (lo : Nat) (v : Value) (n k : Nat) (xs : List Value) (w : World) (h : Own w lo v n 2 xs) (hn : n ≤ 1048576) (h0 : 1 ≤ k) (h1 : k ≤ 1000000000) :
    Calls Try.prog 47 #[v, .int .i64 k] w (Marked lo v n 2 (marksD k n) ((k + n * 2 : Nat) : Int) w) := by
  have hlx : xs.length = n * 2 := h.1
  obtain ⟨a, c, rfl, _⟩ := h.2
  have HO := Lib.hid h
  have HX := Lib.hid hlx
  clear h hlx
  go_enter Try.func47, Try.ntmps47
  go_wp2_with fail
  go_loopw [1, 5] (fun q i wr => MarkDRel lo (.slice a n c) k n xs w q i wr) (fun _ i _ => n - (intOf i).toNat)
  case atStart => exact ⟨0, by omega, rfl, rfl, by rw [Nat.zero_mul, markedD_zero]; exact HO.out, World.grownBy.refl w _⟩
  case round =>
    clear HO
    obtain ⟨j, hj, rfl, rfl, hown, hg⟩ := hrel
    by_cases hlt : j < n
    · obtain ⟨b, off, rfl, hlo, hbl, q1, q2⟩ := hown.get (by omega)
      clear q1 q2
      obtain ⟨⟨u1, hc1⟩, hf1⟩ := hown.cellEx (j * 2) (by omega)
      have hown1 := hown.set (j * 2) (markCell k (j * 2)) (by omega) ⟨u1, hc1⟩
      rw [blk_pos (by omega)] at hg
      have hg1 := grown_set (b := b) (i := off + j * 2) (x := markCell k (j * 2)) hg
      have hbl1 : b < (wr.setCell ⟨b, off + j * 2, none⟩ (markCell k (j * 2))).heap.size := by simpa using hbl
      rw [markCell_even] at hown1 hg1 hbl1
      have HO1 := Lib.hid hown1
      have HG1 := Lib.hid hg1
      clear hown hg hown1 hg1
      clear hbl1
      go_wp2_with fail
      refine (markText_any (k + j * 2 + 1) _ (by omega) (by omega)).mono ?_
      rintro e w1 ⟨rfl, hb1⟩
      have hown2 := HO1.out.below hb1 (Nat.le_refl _)
      obtain ⟨⟨u2, hc2⟩, hf2⟩ := hown2.cellEx (j * 2 + 1) (by omega)
      have HO2 := Lib.hid (hown2.set (j * 2 + 1) (.string (markS (k + j * 2 + 1))) (by omega) ⟨u2, hc2⟩)
      have HG2 := Lib.hid (grown_set (HG1.out.andThen (below_grown hb1) (fun _ e => by cases e)) (b := b) (i := off + (j * 2 + 1)) (x := .string (markS (k + j * 2 + 1))))
      rw [← Nat.add_assoc] at hc2 hf2 HO2 HG2
      clear hb1 hown2 hc1 hf1
      go_wp2_with fail
      go_roundw
      case rel =>
        refine ⟨j + 1, by omega, by go_num, by go_num, ?_, by rw [blk_pos (by omega)]; exact HG2.out⟩
        have := HO2.out
        rw [show (.int .i64 ((k + j * 2 : Nat) : Int) : Value) = markCell k (j * 2) from (markCell_even k j).symm, show (.string (markS (k + j * 2 + 1)) : Value) = markCell k (j * 2 + 1) from (markCell_odd k j).symm] at this
        rw [markedD_set, markedD_set] at this
        rw [show (j + 1) * 2 = j * 2 + 1 + 1 by omega]
        rw [show (.string (markS (k + j * 2 + 1)) : Value) = markCell k (j * 2 + 1) from (markCell_odd k j).symm]
        exact this
      case measure => simp [intOf]; omega
    · obtain rfl : j = n := by omega
      have HOWN := Lib.hid hown
      have HG := Lib.hid hg
      clear hown hg
      go_wp2_with fail
      go_ret
      refine ⟨rfl, ?_, HG.out⟩
      have := HOWN.out
      rw [markedD_all k j xs HX.out] at this
      exact this

def HeldDRel (k n : Nat) (w : World) (q i : Value) (wr : World) : Prop :=
  ∃ j : Nat, j ≤ n ∧ q = .int .i64 ((k + j * 2 : Nat) : Int) ∧ i = .int .i64 j ∧ Below w.heap.size w wr
set_option maxRecDepth 100000 in
set_option maxHeartbeats 1000000 in
theorem heldDirs_any (v : Value) (n k : Nat) (w : World) (h : Rd w v n 2 (marksD k n)) (hn : n ≤ 1048576) (h0 : 1 ≤ k) (h1 : k ≤ 1000000000) :
    Calls Try.prog 67 #[v, .int .i64 k] w (Held ((k + n * 2 : Nat) : Int) w) := by
  obtain ⟨_, a, c, rfl, hc⟩ := h
  have HC := Lib.hid hc
  clear hc
  go_enter Try.func67, Try.ntmps67
  go_wp2_with fail
  go_loopw [1, 5] (fun q i wr => HeldDRel k n w q i wr) (fun _ i _ => n - (intOf i).toNat)
  case atStart => exact ⟨0, by omega, rfl, rfl, Below.refl _ _⟩
  case round =>
    obtain ⟨j, hj, rfl, rfl, hbel⟩ := hrel
    by_cases hlt : j < n
    · obtain ⟨b, off, rfl, hbl, hcell⟩ := HC.out (by omega)
      have hc1 : wr.cell? ⟨b, off + j * 2, none⟩ = some (.int .i64 ((k + j * 2 : Nat) : Int)) := by
        rw [hbel.cell (p := ⟨b, off + j * 2, none⟩) hbl, hcell (j * 2) (by omega), marksD_at k n _ (by omega), markCell_even]
      have hc2 : wr.cell? ⟨b, off + j * 2 + 1, none⟩ = some (.string (markS (k + j * 2 + 1))) := by
        rw [hbel.cell (p := ⟨b, off + j * 2 + 1, none⟩) hbl, Nat.add_assoc, hcell (j * 2 + 1) (by omega), marksD_at k n _ (by omega), markCell_odd]
      have hblr : b < wr.heap.size := Nat.lt_of_lt_of_le hbl hbel.size
      have hsz := hbel.size
      have HBEL := Lib.hid hbel
      clear hcell hbel
      have e0 : (j : Int) < (n : Int) := by omega
      have e1 : (0 : Int) ≤ (j : Int) := by omega
      have e2 : (((k + j * 2 : Nat) : Int) != ((k + j * 2 : Nat) : Int)) = false := by simp
      have e3 : ((k + j * 2 : Nat) : Int) + 1 = ((k + j * 2 + 1 : Nat) : Int) := by omega
      go_wp2_with fail
      go_region_held3 (fun w' => w'.cell? ⟨b, off + j * 2 + 1, none⟩ = some (.string (markS (k + j * 2 + 1)))) (first | go_keep | (rw [hb1.cell (p := ⟨b, off + j * 2 + 1, none⟩) hblr]; exact hc2)) ((go_at_call 48; refine (markText_any (k + j * 2 + 1) _ (by omega) (by omega)).mono ?_; rintro e w1 ⟨rfl, hb1⟩))
      have HB1 := Lib.hid (HBEL.out.drew.trans (hb1.mono hsz))
      clear hb1
      go_wp2_with fail
      go_roundw
      case rel => exact ⟨j + 1, by omega, by go_num, by go_num, HB1.out⟩
      case measure => simp [intOf]; omega
    · obtain rfl : j = n := by omega
      have HBEL := Lib.hid hbel
      clear hbel
      go_wp2_with fail
      go_ret
      exact ⟨rfl, HBEL.out⟩
end Go.Proofs.Ytocjjkjjojdpdaa
