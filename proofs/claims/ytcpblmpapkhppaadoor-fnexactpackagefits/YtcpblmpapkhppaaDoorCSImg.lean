/- The specification's ImageRight, Xored and their kin. -/
import Derived.Test.YtcpblmpapkhppaaDoorM1
namespace Go.Proofs.YtcpblmpapkhppaaDoor
open Go.RowKit

def ImgRel (l : List ByteArray) (i : Value) : Prop := ∃ k : Nat, k ≤ l.length ∧ i = .int .i64 k ∧ ∀ j (h : j < l.length), j < k → l[j].size = 8
set_option maxRecDepth 100000 in
set_option maxHeartbeats 1000000 in
theorem specImg (v : Value) (l : List ByteArray) (w : World) (h : Rd w v l.length 1 (strs l)) (hn : l.length ≤ 1048576) :
    Calls Tryd.prog 62 #[v] w fun e w' => e = .returned (.bool (imgB l)) ∧ w = w' := by
  obtain ⟨_, a, c, rfl, hc⟩ := h
  have HC := Lib.hid hc
  clear hc
  obtain ⟨R, hR⟩ : ∃ R, R = imgB l := ⟨_, rfl⟩
  rw [← hR]
  have HR := Lib.hid hR
  clear hR
  by_cases h1 : (l.length : Int) < 1
  · have hr : R = false := by rw [HR.out]; exact imgB_no (fun h => by have := h.1; omega)
    subst hr
    clear HR
    have d0 : decide ((l.length : Int) < 1) = true := decide_eq_true h1
    go_enter Tryd.func62, Tryd.ntmps62
    go_wp2_with fail
    go_ret
    exact ⟨rfl, rfl⟩
  have d1 : decide ((l.length : Int) < 1) = false := decide_eq_false h1
  by_cases h8 : (8 : Int) < (l.length : Int)
  · have hr : R = false := by rw [HR.out]; exact imgB_no (fun h => by have := h.1; omega)
    subst hr
    clear HR
    have d2 : decide ((8 : Int) < (l.length : Int)) = true := decide_eq_true h8
    go_enter Tryd.func62, Tryd.ntmps62
    go_wp2_with fail
    go_ret
    exact ⟨rfl, rfl⟩
  have d2 : decide ((8 : Int) < (l.length : Int)) = false := decide_eq_false h8
  go_enter Tryd.func62, Tryd.ntmps62
  go_wp2_with fail
  go_loop [3] (fun i => ImgRel l i) (fun i => l.length - (intOf i).toNat)
  case atStart => exact ⟨0, by omega, rfl, fun j _ hj => absurd hj (by omega)⟩
  case round =>
    obtain ⟨k, hk, rfl, hsz⟩ := hrel
    have HSZ := Lib.hid hsz
    clear hsz
    by_cases hlt : k < l.length
    · obtain ⟨b, off, rfl, hbl, hcell⟩ := HC.out (by omega)
      have hc1 : w.cell? ⟨b, off + k, none⟩ = some (.string l[k]) := by rw [hcell k (by omega), strs_at l k hlt]
      clear hcell
      by_cases hs : l[k].size = 8
      · have ds : ((l[k].size : Int) != 8) = false := by simp [hs]
        have HS := Lib.hid hs
        clear hs
        go_wp2_with fail
        go_round
        case rel =>
          refine ⟨k + 1, by omega, by go_num, fun j h hj => ?_⟩
          by_cases hjk : j = k
          · subst hjk; exact HS.out
          · exact HSZ.out j h (by omega)
        case measure => simp [intOf]; omega
      · have hr : R = false := by rw [HR.out]; exact imgB_no (fun h => hs (h.2 _ (List.getElem_mem hlt)))
        subst hr
        have ds : ((l[k].size : Int) != 8) = true := by simp; omega
        clear HR hs
        go_wp2_with fail
        go_ret
        exact ⟨rfl, rfl⟩
    · obtain rfl : k = l.length := by omega
      have hr : R = true := by
        rw [HR.out]; refine imgB_yes ⟨by omega, fun s hs => ?_⟩
        obtain ⟨j, hj, rfl⟩ := List.getElem_of_mem hs
        exact HSZ.out j hj hj
      subst hr
      clear HR
      go_wp2_with fail
      go_ret
      exact ⟨rfl, rfl⟩

theorem made_bytes {w1 : World} {g n : Nat} (h : w1.heap[g]? = some (.cells (List.replicate n (Value.int IntKind.u8 0)).toArray 5 (0, 0))) : CellsAt w1 g 5 n (fun _ => B 0) :=
  cellsAt_list h n _ (by simp) (fun j hj => by simp [hj, B])
theorem zero_conv (w1 : World) (g c : Nat) (f : Nat → UInt8) (h : CellsAt w1 g 5 8 (fun j => B (f j))) :
    (convert 53 9 (.slice (some ⟨g, 0, none⟩) 8 c)).run Tryd.prog w1 = .ok (.string (ofB f)) w1 := by
  have := conv_block (c := c) (w := w1) (g := g) (e := 5) (xs := (List.range 8).map fun j => B (f j)) (h := by
    unfold CellsAt at h; rw [h]; rfl) ((List.range 8).map f) 8 (by simp) (by simp)
  exact this

set_option maxRecDepth 100000 in
set_option maxHeartbeats 1000000 in
theorem specZero (w : World) :
    Calls Tryd.prog 141 #[] w fun e w' => e = .returned (.string zero8) ∧ Below w.heap.size w w' := by
  obtain ⟨i0, hi, hz0, hz1, hz2⟩ := info_parts Tryd.info5
  rw [zero8_ofB]
  go_enter Tryd.func141, Tryd.ntmps141
  go_wp2_with (at_make; refine wpList_make_full _ rfl _ _ 53 rfl w.heap.size 5 i0 (.int .u8 0) 1 Tryd.underlying53 hi hz0 hz1 .i64 .i64 _ _ 8 rfl rfl (by omega) (by omega) (by rw [hz2]; omega) (by unfold maxLen; omega) (Nat.le_refl _) ?_)
  intro w1 hown1 hgrow1
  have hb1 : Below w.heap.size w w1 := (Below.refl _ w).grown hgrow1 (Nat.le_refl _) (by simp)
  have hg1 := own_block hown1
  rw [toList_madeCells_one] at hg1
  have hcs : CellsAt w1 w.heap.size 5 8 (fun _ => B 0) := made_bytes hg1
  have conv := zero_conv w1 w.heap.size 8 (fun _ => 0) hcs
  have HB1 := Lib.hid hb1
  clear hown1 hgrow1 hg1 hb1 hi hz0 hz1 hz2 hcs
  go_wp2_with fail
  go_ret
  exact ⟨rfl, HB1.out⟩

def XorRel (a b : ByteArray) (w : World) (i : Value) (wr : World) : Prop :=
  ∃ k : Nat, k ≤ 8 ∧ i = .int .i64 k ∧ CellsAt wr w.heap.size 5 8 (fun j => B (if j < k then bat a j ^^^ bat b j else 0)) ∧ Below w.heap.size w wr
set_option maxRecDepth 100000 in
set_option maxHeartbeats 1000000 in
theorem specXored (a b : ByteArray) (w : World) (ha : a.size ≤ maxLen) (hb : b.size ≤ maxLen) :
    Calls Tryd.prog 143 #[.string a, .string b] w fun e w' => e = .returned (.string (xorS a b)) ∧ Below w.heap.size w w' := by
  obtain ⟨R, hR⟩ : ∃ R, R = xorS a b := ⟨_, rfl⟩
  rw [← hR]
  have HR := Lib.hid hR
  clear hR
  unfold maxLen at ha hb
  by_cases ha8 : a.size = 8
  rotate_left
  · have hr : R = ⟨#[]⟩ := by rw [HR.out]; unfold xorS; rw [if_neg (fun h => ha8 h.1)]
    subst hr
    clear HR
    have da : ((a.size : Int) != 8) = true := by simp; omega
    go_enter Tryd.func143, Tryd.ntmps143
    go_wp2_with fail
    go_ret
    exact ⟨rfl, Below.refl _ _⟩
  have da : ((a.size : Int) != 8) = false := by simp [ha8]
  by_cases hb8 : b.size = 8
  rotate_left
  · have hr : R = ⟨#[]⟩ := by rw [HR.out]; unfold xorS; rw [if_neg (fun h => hb8 h.2)]
    subst hr
    clear HR
    have db : ((b.size : Int) != 8) = true := by simp; omega
    clear ha8
    go_enter Tryd.func143, Tryd.ntmps143
    go_wp2_with fail
    go_ret
    exact ⟨rfl, Below.refl _ _⟩
  have db : ((b.size : Int) != 8) = false := by simp [hb8]
  have hr : R = ofB (fun i => bat a i ^^^ bat b i) := by rw [HR.out]; unfold xorS; rw [if_pos ⟨ha8, hb8⟩]; rfl
  subst hr
  have HA8 := Lib.hid ha8
  have HB8 := Lib.hid hb8
  clear HR ha8 hb8
  obtain ⟨i0, hi, hz0, hz1, hz2⟩ := info_parts Tryd.info5
  go_enter Tryd.func143, Tryd.ntmps143
  go_wp2_with (at_make; refine wpList_make_full _ rfl _ _ 53 rfl w.heap.size 5 i0 (.int .u8 0) 1 Tryd.underlying53 hi hz0 hz1 .i64 .i64 _ _ 8 rfl rfl (by omega) (by omega) (by rw [hz2]; omega) (by unfold maxLen; omega) (Nat.le_refl _) ?_)
  intro w1 hown1 hgrow1
  have hb1 : Below w.heap.size w w1 := (Below.refl _ w).grown hgrow1 (Nat.le_refl _) (by simp)
  have hg1 := own_block hown1
  rw [toList_madeCells_one] at hg1
  have HC := Lib.hid (show CellsAt w1 w.heap.size 5 8 (fun _ => B 0) from made_bytes hg1)
  have HB1 := Lib.hid hb1
  clear hown1 hgrow1 hg1 hb1 hi hz0 hz1 hz2
  go_wp2_with fail
  go_loopw [6] (fun i wr => XorRel a b w i wr) (fun i _ => 8 - (intOf i).toNat)
  case atStart => exact ⟨0, by omega, rfl, HC.out, HB1.out⟩
  case round =>
    clear HC HB1
    obtain ⟨k, hk, rfl, hcs, hbel⟩ := hrel
    by_cases hlt : k < 8
    · have sa := HA8.out
      have sb := HB8.out
      have hc2 := hcs.cell k hlt
      have hf2 := hcs.frozen k
      have ga : k < a.size := by omega
      have gb : k < b.size := by omega
      have ea := bat_int a k ga
      have eb := bat_int b k gb
      have ex := u8_xor (bat a k) (bat b k)
      have HCS := Lib.hid hcs
      have HBEL := Lib.hid hbel
      clear hcs hbel sa sb
      go_wp2_with fail
      go_region
      go_wp2_with fail
      go_roundw
      case rel =>
        refine ⟨k + 1, by omega, by go_num, CellsAt.drew (HCS.out.set k _ ?_ ?_), (HBEL.out.setCell (p := ⟨w.heap.size, k, none⟩) (Nat.le_refl _) _).drew⟩
        · show B (if k < k + 1 then _ else _) = _
          rw [if_pos (by omega)]
          unfold B
          rw [UInt8.toNat_xor]
        · intro i hi
          show B (if i < k + 1 then _ else _) = B (if i < k then _ else _)
          by_cases h1 : i < k
          · rw [if_pos h1, if_pos (by omega)]
          · rw [if_neg h1, if_neg (by omega)]
      case measure => simp [intOf]; omega
    · obtain rfl : k = 8 := by omega
      have conv := zero_conv wr w.heap.size 8 (fun i => bat a i ^^^ bat b i) (hcs.congr fun j hj => by rw [if_pos hj])
      have HBEL := Lib.hid hbel
      clear hcs hbel
      go_wp2_with fail
      go_ret
      exact ⟨rfl, HBEL.out⟩
end Go.Proofs.YtcpblmpapkhppaaDoor
