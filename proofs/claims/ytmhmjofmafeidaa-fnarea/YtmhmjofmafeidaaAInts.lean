/- Slices of numbers in the laws: copied, compared, marked. -/
import Derived.Test.YtmhmjofmafeidaaInts
import Derived.Test.YtmhmjofmafeidaaLStr
namespace Go.Proofs.Ytmhmjofmafeidaa
open Go.RowKit

theorem Try.info2 : (Try.prog.info? 2).map (fun i => (i.zero, i.size, i.bytes)) = some (some (.int .i64 0), 1, 8) := by kernel_rfl
def CopyIRel (w : World) (l : List Int) (i : Value) (wr : World) : Prop :=
  ∃ k : Nat, k ≤ l.length ∧ i = .int .i64 k ∧ CellsAt wr w.heap.size 2 l.length (fun j => .int .i64 (if j < k then l.getD j 0 else 0)) ∧ Below w.heap.size w wr
theorem made_ints {w1 : World} {g n : Nat} (h : w1.heap[g]? = some (.cells (List.replicate n (Value.int .i64 0)).toArray 2 (0, 0))) : CellsAt w1 g 2 n (fun _ => .int .i64 0) :=
  cellsAt_list h n _ (by simp) (fun j hj => by simp [hj])

set_option maxRecDepth 100000 in
set_option maxHeartbeats 1000000 in
theorem toInts_any (v : Value) (l : List Int) (w : World) (h : Rd w v l.length 1 (ints l)) (hn : l.length ≤ 1048576) :
    Calls Try.prog 32 #[v] w (MadeRow w l.length 1 (ints l)) := by
  obtain ⟨i0, hi, hz0, hz1, hz2⟩ := info_parts Try.info2
  obtain ⟨_, a, c, rfl, hc⟩ := h
  have HC := Lib.hid hc
  clear hc
  go_enter Try.func32, Try.ntmps32
  go_wp2_with (at_make; refine wpList_make_full _ rfl _ _ 23 rfl w.heap.size 2 i0 (.int .i64 0) 1 Try.underlying23 hi hz0 hz1 .i64 .i64 _ _ l.length rfl rfl (by omega) (by omega) (by rw [hz2]; omega) (by unfold maxLen; omega) (Nat.le_refl _) ?_)
  intro w1 hown1 hgrow1
  have hb1 : Below w.heap.size w w1 := (Below.refl _ w).grown hgrow1 (Nat.le_refl _) (by simp)
  have hg1 := own_block hown1
  rw [toList_madeCells_one] at hg1
  have HG1 := Lib.hid (made_ints hg1)
  have HB1 := Lib.hid hb1
  clear hown1 hgrow1 hg1 hb1 hi hz0 hz1 hz2
  go_wp2_with fail
  go_loopw [4] (fun i wr => CopyIRel w l i wr) (fun i _ => l.length - (intOf i).toNat)
  case atStart => exact ⟨0, by omega, rfl, HG1.out, HB1.out⟩
  case round =>
    clear HG1 HB1
    obtain ⟨k, hk, rfl, hcs, hbel⟩ := hrel
    by_cases hlt : k < l.length
    · obtain ⟨b, off, rfl, hbl, hcell⟩ := HC.out (by omega)
      have hc1 : wr.cell? ⟨b, off + k, none⟩ = some (.int .i64 l[k]) := by
        rw [hbel.cell (p := ⟨b, off + k, none⟩) hbl, hcell k (by omega), ints_at l k hlt]
      have hc2 := hcs.cell k hlt
      have hf2 := hcs.frozen k
      have hne : ¬ b = w.heap.size := by omega
      have HCS := Lib.hid hcs
      have HBEL := Lib.hid hbel
      clear hcs hbel hcell
      go_wp2_with fail
      go_roundw
      case rel =>
        refine ⟨k + 1, by omega, by go_num, ?_, HBEL.out.setCell (p := ⟨w.heap.size, k, none⟩) (Nat.le_refl _) _⟩
        refine HCS.out.set k _ ?_ ?_
        · show Value.int .i64 (if k < k + 1 then l.getD k 0 else 0) = _
          rw [if_pos (by omega), List.getD_eq_getElem?_getD, List.getElem?_eq_getElem hlt]; rfl
        · intro i hi
          show Value.int .i64 (if i < k + 1 then l.getD i 0 else 0) = .int .i64 (if i < k then l.getD i 0 else 0)
          by_cases h1 : i < k
          · rw [if_pos h1, if_pos (by omega)]
          · rw [if_neg h1, if_neg (by omega)]
      case measure => simp [intOf]; omega
    · obtain rfl : k = l.length := by omega
      have HCS := Lib.hid hcs
      have HBEL := Lib.hid hbel
      clear hcs hbel
      go_wp2_with fail
      go_ret
      refine ⟨_, rfl, ?_, HBEL.out⟩
      refine own_of_cells HCS.out (Nat.le_refl _) (by omega) (by rw [ints_length]; omega) (fun j hj => ?_)
      rw [ints_at l j (by omega), if_pos (by omega), List.getD_eq_getElem?_getD, List.getElem?_eq_getElem (by omega)]; rfl

set_option maxRecDepth 100000 in
set_option maxHeartbeats 1000000 in
theorem eqInts_any (v u : Value) (l : List Int) (w : World) (h : Rd w v l.length 1 (ints l)) (k : Rd w u l.length 1 (ints l)) (hn : l.length ≤ maxLen) :
    Calls Try.prog 33 #[v, u] w fun e w' => e = .returned (.bool true) ∧ Still w w' := by
  unfold maxLen at hn
  obtain ⟨_, a, c, rfl, hc⟩ := h
  obtain ⟨_, a', c', rfl, hc'⟩ := k
  have HC := Lib.hid hc
  have HC' := Lib.hid hc'
  clear hc hc'
  have d0 : ((l.length : Int) != (l.length : Int)) = false := by simp
  go_enter Try.func33, Try.ntmps33
  go_wp2_with fail
  go_loopw [5] (fun i wr => EqRel w l.length i wr) (fun i _ => l.length - (intOf i).toNat)
  case atStart => exact ⟨0, by omega, rfl, Still.refl w⟩
  case round =>
    obtain ⟨k, hk, rfl, hst⟩ := hrel
    by_cases hlt : k < l.length
    · obtain ⟨b, off, rfl, hbl, hcell⟩ := HC.out (by omega)
      obtain ⟨b', off', rfl, hbl', hcell'⟩ := HC'.out (by omega)
      have hc1 : wr.cell? ⟨b, off + k, none⟩ = some (.int .i64 l[k]) := by
        rw [(hst.below w.heap.size).cell (p := ⟨b, off + k, none⟩) hbl, hcell k (by omega), ints_at l k hlt]
      have hc2 : wr.cell? ⟨b', off' + k, none⟩ = some (.int .i64 l[k]) := by
        rw [(hst.below w.heap.size).cell (p := ⟨b', off' + k, none⟩) hbl', hcell' k (by omega), ints_at l k hlt]
      have HST := Lib.hid hst
      clear hcell hcell' hst
      have e0 : (k : Int) < (l.length : Int) := by omega
      have e1 : (0 : Int) ≤ (k : Int) := by omega
      have d1 : (l[k] != l[k]) = false := by simp
      go_wp2_with fail
      go_quiet (fail)
      go_wp2_with fail
      go_roundw
      case rel => exact ⟨k + 1, by omega, by go_num, HST.out.trans ⟨_, rfl⟩⟩
      case measure => simp [intOf]; omega
    · obtain rfl : k = l.length := by omega
      go_wp2_with fail
      go_ret
      exact ⟨rfl, hst⟩

/-- A slice's cells turn, and nothing else that was there. -/
def TurnedRow (lo : Nat) (v : Value) (n sz : Nat) (r : Int) (w : World) (e : Ending) (w' : World) : Prop :=
  e = .returned (.int .i64 r) ∧ (∃ xs, Own w' lo v n sz xs) ∧ w.grownBy w' (blk v n)
def TurnRel (lo : Nat) (v : Value) (k n : Nat) (w : World) (q i : Value) (wr : World) : Prop :=
  ∃ j : Nat, j ≤ n ∧ q = .int .i64 ((k + j : Nat) : Int) ∧ i = .int .i64 j ∧ (∃ xs, Own wr lo v n 1 xs) ∧ w.grownBy wr (blk v n)
set_option maxRecDepth 100000 in
set_option maxHeartbeats 1000000 in
theorem markInts_any (lo : Nat) (v : Value) (n k : Nat) (xs : List Value) (w : World) (h : Own w lo v n 1 xs) (hn : n ≤ 1048576) (h0 : 1 ≤ k) (h1 : k ≤ 1000000000) :
    Calls Try.prog 35 #[v, .int .i64 k] w (TurnedRow lo v n 1 ((k + n : Nat) : Int) w) := by
  obtain ⟨a, c, rfl, _⟩ := h.2
  have HO := Lib.hid h
  clear h
  go_enter Try.func35, Try.ntmps35
  go_wp2_with fail
  go_loopw [1, 5] (fun q i wr => TurnRel lo (.slice a n c) k n w q i wr) (fun _ i _ => n - (intOf i).toNat)
  case atStart => exact ⟨0, by omega, rfl, rfl, ⟨_, HO.out⟩, World.grownBy.refl w _⟩
  case round =>
    clear HO
    obtain ⟨j, hj, rfl, rfl, ⟨ys, hown⟩, hg⟩ := hrel
    by_cases hlt : j < n
    · obtain ⟨b, off, rfl, hlo, hbl, hc, hf⟩ := hown.get (by omega)
      rw [blk_pos (by omega)] at hg
      have hly : ys.length = n := by simpa using hown.1
      have hc1 := hc j (by omega)
      have hf1 := hf j (by omega)
      rw [List.getElem?_eq_getElem (by omega)] at hc1
      generalize ys[j]'(by omega) = v0 at hc1
      have HO1 := Lib.hid (hown.set j (.int .i64 ((k + j : Nat) : Int)) (by omega) ⟨v0, hc1⟩)
      have HG1 := Lib.hid (grown_set hg (b := b) (i := off + j) (x := .int .i64 ((k + j : Nat) : Int)))
      clear hown hg hc hf
      go_wp2_with fail
      go_roundw
      case rel => exact ⟨j + 1, by omega, by go_num, by go_num, ⟨_, HO1.out⟩, by rw [blk_pos (by omega)]; exact HG1.out⟩
      case measure => simp [intOf]; omega
    · obtain rfl : j = n := by omega
      have HOWN := Lib.hid hown
      have HG := Lib.hid hg
      clear hown hg
      go_wp2_with fail
      go_ret
      exact ⟨rfl, ⟨_, HOWN.out⟩, HG.out⟩
end Go.Proofs.Ytmhmjofmafeidaa
