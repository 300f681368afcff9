/- The program's ImageRight, Xored, and what makes a block: the closure over the original image. -/
import Derived.Test.YtcpblmpapkhppaaDoorCIAll
import Derived.Test.YtcpblmpapkhppaaDoorM1
namespace Go.Proofs.YtcpblmpapkhppaaDoor
open Go.RowKit

set_option maxRecDepth 100000 in
theorem wrongLen (s : ByteArray) (w : World) :
    Calls Tryd.prog 126 #[.string s] w fun e w' => e = .returned (.bool ((s.size : Int) != 8)) ∧ w = w' := by
  obtain ⟨q, hq⟩ : ∃ q, q = ((s.size : Int) != 8) := ⟨_, rfl⟩
  rw [← hq]
  have hq' := hq.symm
  clear hq
  go_enter Tryd.func126, Tryd.ntmps126
  go_wp2_with fail
  go_ret
  exact ⟨rfl, rfl⟩
def IsRel (l : List ByteArray) (i : Value) : Prop := ∃ k : Nat, k ≤ l.length ∧ i = .int .i64 k ∧ ∀ j (h : j < l.length), j < k → l[j].size = 8
def IsFound (l : List ByteArray) (w : World) (e : Ending) (w' : World) : Prop := ∃ r : Int, e = .returned (.int .i64 r) ∧ (0 ≤ r ↔ ¬ ∀ s ∈ l, s.size = 8) ∧ -1 ≤ r ∧ r ≤ 1048576 ∧ w = w'
set_option maxHeartbeats 2000000 in
set_option maxRecDepth 100000 in
theorem indexStr (vl : Value) (l : List ByteArray) (w : World) (hl : Rd w vl l.length 1 (strs l)) (hn : l.length ≤ 1048576) :
    Calls Tryd.prog 157 #[vl, .func (.func 126) #[] #[]] w (IsFound l w) := by
  obtain ⟨al, cl, rfl, -⟩ := id hl.2
  have HV := Lib.hid hl
  clear hl
  go_enter Tryd.func157, Tryd.ntmps157
  go_wp2_with fail
  go_loop [8] (fun i => IsRel l i) (fun i => l.length - (intOf i).toNat)
  case atStart => exact ⟨0, by omega, rfl, fun j _ hj => absurd hj (by omega)⟩
  case round =>
    obtain ⟨k, hk, rfl, hseen⟩ := hrel
    have HSEEN := Lib.hid hseen
    clear hseen
    by_cases hlk : k < l.length
    · obtain ⟨b, off, rfl, hbl, hcell⟩ := HV.out.get (by omega)
      have r0 : w.cell? ⟨b, off + k, none⟩ = some (.string l[k]) := by rw [hcell k (by omega), strs_at l k hlk]
      have e0 : (k : Int) < (l.length : Int) := by omega
      have e1 : (0 : Int) ≤ (k : Int) := by omega
      clear hcell
      go_wp2_with fail
      refine (wrongLen l[k] w).mono ?_
      rintro e w2 ⟨rfl, rfl⟩
      by_cases hs : l[k].size = 8
      · have ds : ((l[k].size : Int) != 8) = false := by simp [hs]
        have HQ := Lib.hid hs
        clear hs
        go_wp2_with fail
        go_round
        case rel =>
          refine ⟨k + 1, by omega, by go_num, fun j h hj => ?_⟩
          by_cases hjk : j = k
          · subst hjk; exact HQ.out
          · exact HSEEN.out j h (by omega)
        case measure => simp [intOf]; omega
      · have ds : ((l[k].size : Int) != 8) = true := by simp; omega
        have HQ := Lib.hid hs
        clear hs
        go_wp2_with fail
        go_ret
        exact ⟨k, rfl, ⟨fun _ h => HQ.out (h _ (List.getElem_mem hlk)), fun _ => by omega⟩, by omega, by omega, rfl⟩
    · obtain rfl : k = l.length := by omega
      have d1 : decide ((l.length : Int) < (l.length : Int)) = false := decide_eq_false (by omega)
      go_wp2_with fail
      go_ret
      refine ⟨-1, rfl, ⟨fun h => by omega, fun h => absurd (fun s hs => ?_) h⟩, by omega, by omega, rfl⟩
      obtain ⟨j, hj, rfl⟩ := List.getElem_of_mem hs
      exact HSEEN.out j hj hj
set_option maxHeartbeats 1000000 in
set_option maxRecDepth 100000 in
theorem containsStr (vl : Value) (l : List ByteArray) (w : World) (hl : Rd w vl l.length 1 (strs l)) (hn : l.length ≤ 1048576) :
    Calls Tryd.prog 127 #[vl, .func (.func 126) #[] #[]] w fun e w' => ∃ b : Bool, e = .returned (.bool b) ∧ (b = true ↔ ¬ ∀ s ∈ l, s.size = 8) ∧ w = w' := by
  obtain ⟨al, cl, rfl, -⟩ := id hl.2
  have HV := Lib.hid hl
  clear hl
  go_enter Tryd.func127, Tryd.ntmps127
  go_wp2_with fail
  refine (indexStr _ l w HV.out hn).mono ?_
  rintro e w1 ⟨r, rfl, hiff, h0, h1, rfl⟩
  have HI := Lib.hid hiff
  clear hiff
  by_cases hr : 0 ≤ r
  · have d0 : decide ((0 : Int) ≤ r) = true := decide_eq_true hr
    go_wp2_with fail
    go_ret
    exact ⟨true, rfl, ⟨fun _ => HI.out.1 hr, fun _ => rfl⟩, rfl⟩
  · have d0 : decide ((0 : Int) ≤ r) = false := decide_eq_false hr
    go_wp2_with fail
    go_ret
    exact ⟨false, rfl, ⟨fun h => absurd h (by simp), fun h => absurd (HI.out.2 h) (by omega)⟩, rfl⟩
set_option maxHeartbeats 1000000 in
set_option maxRecDepth 100000 in
theorem implImg (v : Value) (l : List ByteArray) (w : World) (h : Rd w v l.length 1 (strs l)) (hn : l.length ≤ 1048576) :
    Calls Tryd.prog 76 #[v] w fun e w' => e = .returned (.bool (imgB l)) ∧ w = w' := by
  obtain ⟨a, c, rfl, -⟩ := id h.2
  have HV := Lib.hid h
  clear h
  obtain ⟨R, hR⟩ : ∃ R, R = imgB l := ⟨_, rfl⟩
  rw [← hR]
  have HR := Lib.hid hR
  clear hR
  by_cases hc : 1 ≤ (l.length : Int) ∧ (l.length : Int) ≤ 8
  · obtain ⟨n0, n1⟩ := hc
    go_enter Tryd.func76, Tryd.ntmps76
    go_wp2_with fail
    refine (isCount_yes _ _ n0 n1).mono ?_
    rintro e w1 ⟨rfl, rfl⟩
    go_wp2_with fail
    refine (containsStr _ l w1 HV.out hn).mono ?_
    rintro e w2 ⟨b, rfl, hb, rfl⟩
    have hr : R = !b := by
      rw [HR.out]
      cases b with
      | true => exact imgB_no (fun h => (hb.1 rfl) h.2)
      | false => exact imgB_yes ⟨by omega, Classical.byContradiction fun h => by have := hb.2 h; cases this⟩
    subst hr
    clear HR hb
    go_wp2_with fail
    go_ret
    exact ⟨rfl, rfl⟩
  · have hr : R = false := by rw [HR.out]; exact imgB_no (fun h => hc (by have := h.1; omega))
    subst hr
    clear HR
    have HC := Lib.hid hc
    clear hc
    go_enter Tryd.func76, Tryd.ntmps76
    go_wp2_with fail
    refine (isCount_no _ _ HC.out).mono ?_
    rintro e w1 ⟨rfl, rfl⟩
    go_wp2_with fail
    go_ret
    exact ⟨rfl, rfl⟩
/-- What makerOver gives: a function that keeps the blocks. -/
structure Maker (w : World) (lo : Nat) (l : List ByteArray) (g : Nat) (v : Value) : Prop where
  cell : w.cell? ⟨g, 0, none⟩ = some v
  low : lo ≤ g
  lt : g < w.heap.size
  rd : Rd w v l.length 8 (blkCs l)
theorem Maker.below {w w' : World} {lo g B : Nat} {l : List ByteArray} {v : Value} (h : Maker w lo l g v) (hb : Below B w w') (hB : w.heap.size ≤ B) : Maker w' lo l g v :=
  ⟨(hb.cell (p := ⟨g, 0, none⟩) (Nat.lt_of_lt_of_le h.lt hB)).trans h.cell, h.low, Nat.lt_of_lt_of_le h.lt hb.size, h.rd.below hb hB⟩
set_option maxHeartbeats 1000000 in
set_option maxRecDepth 100000 in
theorem implOver (v : Value) (l : List ByteArray) (w : World) (h : Rd w v l.length 1 (strs l)) (hi8 : ImgOk l) :
    Calls Tryd.prog 128 #[v] w fun e w' => ∃ g u, e = .returned (.func (.func 158) #[] #[.pointer (some ⟨g, 0, none⟩)]) ∧ Maker w' w.heap.size l g u ∧ Below w.heap.size w w' := by
  obtain ⟨a, c, rfl, -⟩ := id h.2
  have HV := Lib.hid h
  clear h
  go_enter Tryd.func128, Tryd.ntmps128
  go_wp2_with fail
  refine (implAll _ l w HV.out hi8).mono ?_
  rintro e w1 ⟨v1, rfl, ho, hb⟩
  obtain ⟨a1, c1, rfl, -⟩ := id ho.2
  have HO := Lib.hid ho
  have B1 := Lib.hid hb
  have hsz := hb.size
  clear ho hb
  go_wp2_with fail
  go_ret
  exact ⟨_, _, rfl, ⟨by simp, hsz, by simp, HO.out.rd.below (below_more (below_alloc1 w1 _) (by first | exact (Below.refl _ _).setCell (p := ⟨w1.heap.size, 0, none⟩) (by simp) _ | exact Below.refl _ _)) (Nat.le_refl _)⟩, B1.out.trans ((below_alloc1 w1 _).mono hsz)⟩
end Go.Proofs.YtcpblmpapkhppaaDoor
