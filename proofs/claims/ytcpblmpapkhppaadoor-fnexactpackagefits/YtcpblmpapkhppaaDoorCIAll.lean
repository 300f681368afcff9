/- The program's slices of blocks: distance, equality, allContents. -/
import Derived.Test.YtcpblmpapkhppaaDoorCIBlk
import Derived.Stop.BytesEq
namespace Go.Proofs.YtcpblmpapkhppaaDoor
open Go.RowKit

theorem und_u8 : Tryd.prog.underlying 5 = some (.int .u8) := Tryd.underlying5
theorem size_u8 (w : World) : (sizeOf 5).run Tryd.prog w = .ok 1 w := by kernel_rfl
/-- Two blocks compared as arrays. -/
theorem blk_eq (a b : ByteArray) (ha : a.size = 8) (hb : b.size = 8) (w : World) : (Op.equalIn 10000 141 (.agg (blkA a)) (.agg (blkA b))).run Tryd.prog w = .ok (decide (a = b)) w := by
  have h := run_equalIn_bytes (P := Tryd.prog) w 9998 141 5 8 Tryd.underlying141 und_u8 size_u8 a.data.toList b.data.toList (by rw [Array.length_toList]; exact ha) (by rw [Array.length_toList]; exact hb)
  have ea : ((a.data.toList).map Extern.Stop.cell).toArray = blkA a := by rw [bytes_block ha]; rfl
  have eb : ((b.data.toList).map Extern.Stop.cell).toArray = blkA b := by rw [bytes_block hb]; rfl
  have hd : (a.data.toList == b.data.toList) = decide (a = b) := by
    by_cases e : a = b
    · subst e; simp
    · rw [decide_eq_false e, beq_eq_false_iff_ne]
      exact fun h => e (ByteArray.ext (Array.toList_inj.1 h))
  rw [ea, eb, hd] at h
  exact h

def DsRel (a b : ByteArray) (w : World) (x i : Value) (wr : World) : Prop :=
  ∃ k : Nat, k ≤ 8 ∧ i = .int .i64 k ∧ x = .int .i64 (diffT a b k) ∧ Bx wr w.heap.size 141 (blkA a) ∧ Bx wr (w.heap.size + 1) 141 (blkA b) ∧ Below w.heap.size w wr
set_option maxRecDepth 100000 in
set_option maxHeartbeats 2000000 in
theorem implDist (a b : ByteArray) (w : World) :
    Calls Tryd.prog 148 #[.agg (blkA a), .agg (blkA b)] w fun e w' => e = .returned (.int .i64 (diffN a b)) ∧ Below w.heap.size w w' := by
  obtain ⟨R, hR⟩ : ∃ R, R = diffN a b := ⟨_, rfl⟩
  rw [← hR]
  have HR := Lib.hid hR
  clear hR
  have b0 := below_alloc1 w (.cells (blkA a) 141)
  have b1 := b0.trans ((below_alloc1 (w.alloc (.cells (blkA a) 141)) (.cells (blkA b) 141)).mono b0.size)
  have X0 := Lib.hid ((bx_new w 141 (blkA a)).next (below_alloc1 _ (.cells (blkA b) 141)))
  have X1 := Lib.hid (bx_new (w.alloc (.cells (blkA a) 141)) 141 (blkA b))
  rw [size_alloc1] at X1
  have B1 := Lib.hid b1
  clear b0 b1
  have HW := Lib.hid (show (w.alloc (.cells (blkA a) 141)).alloc (.cells (blkA b) 141) = (w.alloc (.cells #[.int .u8 (bat a 0).toNat, .int .u8 (bat a 1).toNat, .int .u8 (bat a 2).toNat, .int .u8 (bat a 3).toNat, .int .u8 (bat a 4).toNat, .int .u8 (bat a 5).toNat, .int .u8 (bat a 6).toNat, .int .u8 (bat a 7).toNat] 141)).alloc (.cells #[.int .u8 (bat b 0).toNat, .int .u8 (bat b 1).toNat, .int .u8 (bat b 2).toNat, .int .u8 (bat b 3).toNat, .int .u8 (bat b 4).toNat, .int .u8 (bat b 5).toNat, .int .u8 (bat b 6).toNat, .int .u8 (bat b 7).toNat] 141) from rfl)
  show Calls Tryd.prog 148 #[.agg #[.int .u8 (bat a 0).toNat, .int .u8 (bat a 1).toNat, .int .u8 (bat a 2).toNat, .int .u8 (bat a 3).toNat, .int .u8 (bat a 4).toNat, .int .u8 (bat a 5).toNat, .int .u8 (bat a 6).toNat, .int .u8 (bat a 7).toNat], .agg #[.int .u8 (bat b 0).toNat, .int .u8 (bat b 1).toNat, .int .u8 (bat b 2).toNat, .int .u8 (bat b 3).toNat, .int .u8 (bat b 4).toNat, .int .u8 (bat b 5).toNat, .int .u8 (bat b 6).toNat, .int .u8 (bat b 7).toNat]] w _
  go_enter Tryd.func148, Tryd.ntmps148
  go_wp2_with fail
  rw [← HW.out]
  clear HW
  generalize (w.alloc (.cells (blkA a) 141)).alloc (.cells (blkA b) 141) = W at *
  go_loopw [5, 7] (fun x i wr => DsRel a b w x i wr) (fun _ i _ => 8 - (intOf i).toNat)
  case atStart => exact ⟨0, by omega, rfl, rfl, X0.out, X1.out, B1.out⟩
  case round =>
    clear X0 X1 B1
    obtain ⟨k, hk, rfl, rfl, hx0, hx1, hbel⟩ := hrel
    have HX0 := Lib.hid hx0
    have HX1 := Lib.hid hx1
    have HB := Lib.hid hbel
    have hle := diffT_le a b k
    by_cases hlt : k < 8
    · have c0 : wr.cell? ⟨w.heap.size, k, none⟩ = some (B (bat a k)) := (hx0.cell k).trans (blkA_at a k hlt)
      have c1 : wr.cell? ⟨w.heap.size + 1, k, none⟩ = some (B (bat b k)) := (hx1.cell k).trans (blkA_at b k hlt)
      unfold B at c0 c1
      clear hx0 hx1 hbel
      by_cases he : bat a k = bat b k
      · have HX := Lib.hid (diffT_yes he)
        have dx : (((bat a k).toNat : Int) != ((bat b k).toNat : Int)) = false := by rw [B_ne]; simpa using he
        clear he
        go_wp2_with fail
        go_quiet (fail)
        go_wp2_with fail
        go_roundw
        case rel =>
          have fin : DsRel a b w (.int .i64 (diffT a b k)) (.int .i64 ((k : Int) + 1)) (wr.drewN nq) := ⟨k + 1, by omega, by go_num, by rw [HX.out], HX0.out.next (below_drewN (Below.refl _ _) _), HX1.out.next (below_drewN (Below.refl _ _) _), below_drewN HB.out _⟩
          first | exact fin | ((repeat apply Exists.intro); exact ⟨fin, rfl⟩)
        case measure => simp [intOf]; omega
      · have HX := Lib.hid (diffT_no he)
        have dx : (((bat a k).toNat : Int) != ((bat b k).toNat : Int)) = true := by rw [B_ne]; simpa using he
        clear he
        go_wp2_with fail
        go_quiet (fail)
        go_wp2_with fail
        go_roundw
        case rel =>
          have fin : DsRel a b w (.int .i64 ((diffT a b k : Int) + 1)) (.int .i64 ((k : Int) + 1)) (wr.drewN nq) := ⟨k + 1, by omega, by go_num, by rw [HX.out]; go_num, HX0.out.next (below_drewN (Below.refl _ _) _), HX1.out.next (below_drewN (Below.refl _ _) _), below_drewN HB.out _⟩
          first | exact fin | ((repeat apply Exists.intro); exact ⟨fin, rfl⟩)
        case measure => simp [intOf]; omega
    · obtain rfl : k = 8 := by omega
      have hr : diffT a b 8 = R := by rw [HR.out]; exact diffT_all a b
      rw [hr]
      clear hle hr hx0 hx1 hbel
      go_wp2_with fail
      go_ret
      exact ⟨rfl, HB.out⟩

/-- Byte m of block i among the first k; the others are 0. -/
def partB (l : List ByteArray) (k j : Nat) : Value := B (if j / 8 < k then bat (l.getD (j / 8) ⟨#[]⟩) (j % 8) else 0)
def blkCs (l : List ByteArray) : List Value := (List.range (l.length * 8)).map (partB l l.length)
theorem blkCs_length (l : List ByteArray) : (blkCs l).length = l.length * 8 := by simp [blkCs]
theorem blkCs_at (l : List ByteArray) (k m : Nat) (hk : k < l.length) (hm : m < 8) : (blkCs l)[k * 8 + m]? = some (B (bat l[k] m)) := by
  have e1 : (k * 8 + m) / 8 = k := by omega
  have e2 : (k * 8 + m) % 8 = m := by omega
  have h : k * 8 + m < l.length * 8 := by omega
  unfold blkCs
  rw [List.getElem?_map, List.getElem?_range h]
  simp only [Option.map_some, partB, e1, e2, if_pos hk, List.getD_eq_getElem?_getD, List.getElem?_eq_getElem hk, Option.getD_some]
theorem partB_all (l : List ByteArray) (j : Nat) (h : j < l.length * 8) : (blkCs l)[j]? = some (partB l l.length j) := by
  unfold blkCs
  rw [List.getElem?_map, List.getElem?_range h]; rfl
/-- Eight cells stored. -/
theorem cells8 {w : World} {g n k : Nat} {T : TypeId} {v : Nat → Value} (h : CellsAt w g T n v) (x0 x1 x2 x3 x4 x5 x6 x7 : Value) (v' : Nat → Value) (e0 : v' (k * 8) = x0) (e1 : v' (k * 8 + 1) = x1) (e2 : v' (k * 8 + 2) = x2) (e3 : v' (k * 8 + 3) = x3) (e4 : v' (k * 8 + 4) = x4) (e5 : v' (k * 8 + 5) = x5) (e6 : v' (k * 8 + 6) = x6) (e7 : v' (k * 8 + 7) = x7) (ho : ∀ j, j / 8 ≠ k → v' j = v j) :
    CellsAt ((((((((w.setCell ⟨g, k * 8, none⟩ x0).setCell ⟨g, k * 8 + 1, none⟩ x1).setCell ⟨g, k * 8 + 2, none⟩ x2).setCell ⟨g, k * 8 + 3, none⟩ x3).setCell ⟨g, k * 8 + 4, none⟩ x4).setCell ⟨g, k * 8 + 5, none⟩ x5).setCell ⟨g, k * 8 + 6, none⟩ x6).setCell ⟨g, k * 8 + 7, none⟩ x7) g T n v' := by
  have step : ∀ (m : Nat) (W : World), CellsAt W g T n (fun j => if k * 8 ≤ j ∧ j < k * 8 + m then v' j else v j) → CellsAt (W.setCell ⟨g, k * 8 + m, none⟩ (v' (k * 8 + m))) g T n (fun j => if k * 8 ≤ j ∧ j < k * 8 + (m + 1) then v' j else v j) := fun m W hW =>
    hW.set _ _ (if_pos ⟨by omega, by omega⟩) (fun i hi => by
      by_cases c : k * 8 ≤ i ∧ i < k * 8 + m
      · rw [if_pos c, if_pos ⟨c.1, by omega⟩]
      · rw [if_neg c, if_neg (by omega)])
  have s0 : CellsAt w g T n (fun j => if k * 8 ≤ j ∧ j < k * 8 + 0 then v' j else v j) := h.congr fun j _ => by rw [if_neg (by omega)]
  have s8 := step 7 _ (step 6 _ (step 5 _ (step 4 _ (step 3 _ (step 2 _ (step 1 _ (step 0 _ s0)))))))
  rw [Nat.add_zero, e0, e1, e2, e3, e4, e5, e6, e7] at s8
  refine s8.congr fun j _ => ?_
  by_cases c : k * 8 ≤ j ∧ j < k * 8 + (7 + 1)
  · rw [if_pos c]
  · rw [if_neg c]; exact ho j (by omega)
theorem Tryd.infoblk : (Tryd.prog.info? 141).map (fun i => (i.zero, i.size, i.bytes)) = some (some (.agg #[.int .u8 0, .int .u8 0, .int .u8 0, .int .u8 0, .int .u8 0, .int .u8 0, .int .u8 0, .int .u8 0]), 8, 8) := by kernel_rfl
theorem made_blk {w1 : World} {g n : Nat} {l : List ByteArray} (h : w1.heap[g]? = some (.cells (madeCells #[Value.int .u8 0, Value.int .u8 0, Value.int .u8 0, Value.int .u8 0, Value.int .u8 0, Value.int .u8 0, Value.int .u8 0, Value.int .u8 0] (n * 8)).toList.toArray 141 (0, 0))) : CellsAt w1 g 141 (n * 8) (partB l 0) := by
  refine cellsAt_list h (n * 8) _ (by simp [madeCells]) (fun j hj => ?_)
  have h2 : j % 8 = 0 ∨ j % 8 = 1 ∨ j % 8 = 2 ∨ j % 8 = 3 ∨ j % 8 = 4 ∨ j % 8 = 5 ∨ j % 8 = 6 ∨ j % 8 = 7 := by omega
  rcases h2 with h2 | h2 | h2 | h2 | h2 | h2 | h2 | h2 <;> simp [madeCells, hj, partB, h2, B]
def AcRel (w : World) (l : List ByteArray) (i : Value) (wr : World) : Prop :=
  ∃ k : Nat, k ≤ l.length ∧ i = .int .i64 k ∧ CellsAt wr w.heap.size 141 (l.length * 8) (partB l k) ∧ Below w.heap.size w wr
set_option maxRecDepth 100000 in
set_option maxHeartbeats 2000000 in
theorem implAll (v : Value) (l : List ByteArray) (w : World) (h : Rd w v l.length 1 (strs l)) (hi8 : ImgOk l) :
    Calls Tryd.prog 117 #[v] w (MadeRow w l.length 8 (blkCs l)) := by
  obtain ⟨⟨n0, n1⟩, hs⟩ := hi8
  have HS := Lib.hid hs
  clear hs
  obtain ⟨i0, hi, hz0, hz1, hz2⟩ := info_parts Tryd.infoblk
  obtain ⟨_, a, c, rfl, hc⟩ := h
  have HC := Lib.hid hc
  clear hc
  go_enter Tryd.func117, Tryd.ntmps117
  go_wp2_with (at_make; refine wpList_make_full _ rfl _ _ 138 rfl w.heap.size 141 i0 (.agg #[.int .u8 0, .int .u8 0, .int .u8 0, .int .u8 0, .int .u8 0, .int .u8 0, .int .u8 0, .int .u8 0]) 8 Tryd.underlying138 hi hz0 hz1 .i64 .i64 _ _ l.length rfl rfl (by omega) (by omega) (by rw [hz2]; omega) (by unfold maxLen; omega) (Nat.le_refl _) ?_)
  intro w1 hown1 hgrow1
  have hb1 : Below w.heap.size w w1 := (Below.refl _ w).grown hgrow1 (Nat.le_refl _) (by simp)
  have hg1 := own_block' hown1
  have HG1 := Lib.hid (made_blk (l := l) hg1)
  have HB1 := Lib.hid hb1
  clear hown1 hgrow1 hg1 hb1 hi hz0 hz1 hz2
  go_wp2_with fail
  go_loopw [11] (fun i wr => AcRel w l i wr) (fun i _ => l.length - (intOf i).toNat)
  case atStart => exact ⟨0, by omega, rfl, HG1.out, HB1.out⟩
  case round =>
    clear HG1 HB1
    obtain ⟨k, hk, rfl, hcs, hbel⟩ := hrel
    by_cases hlt : k < l.length
    · obtain ⟨b, off, rfl, hbl, hcell⟩ := HC.out (by omega)
      have hc0 : wr.cell? ⟨b, off + k, none⟩ = some (.string l[k]) := by
        rw [hbel.cell (p := ⟨b, off + k, none⟩) hbl, hcell k (by omega), strs_at l k hlt]
      have HCS := Lib.hid hcs
      have HBEL := Lib.hid hbel
      have hsz := hbel.size
      have hlw : w.heap.size < wr.heap.size := hcs.lt
      have hs8 := HS.out _ (List.getElem_mem hlt)
      have HX := Lib.hid (show l.getD k ⟨#[]⟩ = l[k] by rw [List.getD_eq_getElem?_getD, List.getElem?_eq_getElem hlt]; rfl)
      clear hcs hbel hcell
      generalize l[k] = s at *
      go_wp2_with fail
      refine (implOf s wr hs8).mono ?_
      rintro e w2 ⟨rfl, hb2⟩
      have hcs2 := HCS.out.below hb2 hlw
      have HCS2 := Lib.hid hcs2
      have HBEL2 := Lib.hid (HBEL.out.trans (hb2.mono hsz))
      have p0 := hcs2.cell (k * 8) (by omega)
      have p1 := hcs2.cell (k * 8 + 1) (by omega)
      have p2 := hcs2.cell (k * 8 + 2) (by omega)
      have p3 := hcs2.cell (k * 8 + 3) (by omega)
      have p4 := hcs2.cell (k * 8 + 4) (by omega)
      have p5 := hcs2.cell (k * 8 + 5) (by omega)
      have p6 := hcs2.cell (k * 8 + 6) (by omega)
      have p7 := hcs2.cell (k * 8 + 7) (by omega)
      have z0 := hcs2.frozen (k * 8)
      have z1 := hcs2.frozen (k * 8 + 1)
      have z2 := hcs2.frozen (k * 8 + 2)
      have z3 := hcs2.frozen (k * 8 + 3)
      have z4 := hcs2.frozen (k * 8 + 4)
      have z5 := hcs2.frozen (k * 8 + 5)
      have z6 := hcs2.frozen (k * 8 + 6)
      have z7 := hcs2.frozen (k * 8 + 7)
      clear hcs2 hb2 hc0
      unfold blkA B
      go_wp2_with fail
      go_roundw
      case rel =>
        refine ⟨k + 1, by omega, by go_num, ?_, ?_⟩
        · refine cells8 (k := k) HCS2.out _ _ _ _ _ _ _ _ _ ?_ ?_ ?_ ?_ ?_ ?_ ?_ ?_ ?_
          all_goals first
            | (intro j hj; unfold partB; by_cases h1 : j / 8 < k
               · rw [if_pos h1, if_pos (by omega)]
               · rw [if_neg h1, if_neg (by omega)])
            | (unfold partB; rw [if_pos (by omega)]; first | rw [show k * 8 / 8 = k by omega, show k * 8 % 8 = 0 by omega, HX.out]; rfl | rw [show (k * 8 + 1) / 8 = k by omega, show (k * 8 + 1) % 8 = 1 by omega, HX.out]; rfl | rw [show (k * 8 + 2) / 8 = k by omega, show (k * 8 + 2) % 8 = 2 by omega, HX.out]; rfl | rw [show (k * 8 + 3) / 8 = k by omega, show (k * 8 + 3) % 8 = 3 by omega, HX.out]; rfl | rw [show (k * 8 + 4) / 8 = k by omega, show (k * 8 + 4) % 8 = 4 by omega, HX.out]; rfl | rw [show (k * 8 + 5) / 8 = k by omega, show (k * 8 + 5) % 8 = 5 by omega, HX.out]; rfl | rw [show (k * 8 + 6) / 8 = k by omega, show (k * 8 + 6) % 8 = 6 by omega, HX.out]; rfl | rw [show (k * 8 + 7) / 8 = k by omega, show (k * 8 + 7) % 8 = 7 by omega, HX.out]; rfl)
        · exact (((((((HBEL2.out.setCell (p := ⟨w.heap.size, _, none⟩) (Nat.le_refl _) _).setCell (p := ⟨w.heap.size, _, none⟩) (Nat.le_refl _) _).setCell (p := ⟨w.heap.size, _, none⟩) (Nat.le_refl _) _).setCell (p := ⟨w.heap.size, _, none⟩) (Nat.le_refl _) _).setCell (p := ⟨w.heap.size, _, none⟩) (Nat.le_refl _) _).setCell (p := ⟨w.heap.size, _, none⟩) (Nat.le_refl _) _).setCell (p := ⟨w.heap.size, _, none⟩) (Nat.le_refl _) _).setCell (p := ⟨w.heap.size, _, none⟩) (Nat.le_refl _) _
      case measure => simp [intOf]; omega
    · obtain rfl : k = l.length := by omega
      have HCS := Lib.hid hcs
      have HBEL := Lib.hid hbel
      clear hcs hbel
      go_wp2_with fail
      go_ret
      refine ⟨_, rfl, ?_, HBEL.out⟩
      exact own_of_cells HCS.out (Nat.le_refl _) (Nat.le_refl _) (blkCs_length l) (fun j hj => partB_all l j hj)
end Go.Proofs.YtcpblmpapkhppaaDoor
