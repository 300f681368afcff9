/- The program's blocks as arrays: contentsOf, text, xored, distance. -/
import Derived.Test.YtcpblmpapkhppaaDoorCSMk
import Derived.Lib.ConvBytes
import Derived.Test.YtcpblmpapkhppaaDoorRowM
namespace Go.Proofs.YtcpblmpapkhppaaDoor
open Go.RowKit

theorem Bx.blk0 {w : World} {g : Nat} {T : TypeId} {s : ByteArray} (h : Bx w g T (blkA s)) : w.cell? ⟨g, 0, none⟩ = some (B (bat s 0)) := h.cell 0
theorem Bx.blk1 {w : World} {g : Nat} {T : TypeId} {s : ByteArray} (h : Bx w g T (blkA s)) : w.cell? ⟨g, 1, none⟩ = some (B (bat s 1)) := h.cell 1
theorem Bx.blk2 {w : World} {g : Nat} {T : TypeId} {s : ByteArray} (h : Bx w g T (blkA s)) : w.cell? ⟨g, 2, none⟩ = some (B (bat s 2)) := h.cell 2
theorem Bx.blk3 {w : World} {g : Nat} {T : TypeId} {s : ByteArray} (h : Bx w g T (blkA s)) : w.cell? ⟨g, 3, none⟩ = some (B (bat s 3)) := h.cell 3
theorem Bx.blk4 {w : World} {g : Nat} {T : TypeId} {s : ByteArray} (h : Bx w g T (blkA s)) : w.cell? ⟨g, 4, none⟩ = some (B (bat s 4)) := h.cell 4
theorem Bx.blk5 {w : World} {g : Nat} {T : TypeId} {s : ByteArray} (h : Bx w g T (blkA s)) : w.cell? ⟨g, 5, none⟩ = some (B (bat s 5)) := h.cell 5
theorem Bx.blk6 {w : World} {g : Nat} {T : TypeId} {s : ByteArray} (h : Bx w g T (blkA s)) : w.cell? ⟨g, 6, none⟩ = some (B (bat s 6)) := h.cell 6
theorem Bx.blk7 {w : World} {g : Nat} {T : TypeId} {s : ByteArray} (h : Bx w g T (blkA s)) : w.cell? ⟨g, 7, none⟩ = some (B (bat s 7)) := h.cell 7
theorem conv_cell (W : World) (s : ByteArray) (h : s.size = 8) (j : Nat) (hj : j < 8) : (Lib.bytesWorld W 5 s).cell? ⟨W.heap.size, j, none⟩ = some (B (bat s j)) := by
  rw [Lib.bytesWorld_cell W 5 s j (by omega)]
  unfold B bat
  rw [List.getD_eq_getElem?_getD, Array.getD_eq_getD_getElem?, Array.getElem?_toList]
theorem eight_set {w w' : World} {B g : Nat} (h : Below B w w') (hB : B ≤ g) (a b c d e f i k : Value) : Below B w ((((((((w'.setCell ⟨g, 0, none⟩ a).setCell ⟨g, 1, none⟩ b).setCell ⟨g, 2, none⟩ c).setCell ⟨g, 3, none⟩ d).setCell ⟨g, 4, none⟩ e).setCell ⟨g, 5, none⟩ f).setCell ⟨g, 6, none⟩ i).setCell ⟨g, 7, none⟩ k) :=
  (((((((h.setCell (p := ⟨g, 0, none⟩) hB a).setCell (p := ⟨g, 1, none⟩) hB b).setCell (p := ⟨g, 2, none⟩) hB c).setCell (p := ⟨g, 3, none⟩) hB d).setCell (p := ⟨g, 4, none⟩) hB e).setCell (p := ⟨g, 5, none⟩) hB f).setCell (p := ⟨g, 6, none⟩) hB i).setCell (p := ⟨g, 7, none⟩) hB k

theorem arr_at (p : Addr) (c : Nat) (w : World) : (Instr.arrayAt 141 (.slice (some p) 8 c)).run Tryd.prog w = .ok (.pointer (some p)) w := by kernel_rfl
set_option maxRecDepth 100000 in
set_option maxHeartbeats 1000000 in
theorem implOf (s : ByteArray) (w : World) (h : s.size = 8) :
    Calls Tryd.prog 145 #[.string s] w fun e w' => e = .returned (.agg (blkA s)) ∧ Below w.heap.size w w' := by
  have g0 := below_alloc1 w (.cells #[.int .u8 0, .int .u8 0, .int .u8 0, .int .u8 0, .int .u8 0, .int .u8 0, .int .u8 0, .int .u8 0] 141)
  have X0 := bx_new w 141 #[.int .u8 0, .int .u8 0, .int .u8 0, .int .u8 0, .int .u8 0, .int .u8 0, .int .u8 0, .int .u8 0]
  have hz := size_alloc1 w (.cells #[.int .u8 0, .int .u8 0, .int .u8 0, .int .u8 0, .int .u8 0, .int .u8 0, .int .u8 0, .int .u8 0] 141)
  obtain ⟨W0, hW0⟩ : ∃ W0, W0 = w.alloc (.cells #[.int .u8 0, .int .u8 0, .int .u8 0, .int .u8 0, .int .u8 0, .int .u8 0, .int .u8 0, .int .u8 0] 141) := ⟨_, rfl⟩
  rw [← hW0] at g0 X0 hz
  have hcv := Lib.run_convert_string_bytes (P := Tryd.prog) W0 9 53 5 s Tryd.underlying9 Tryd.underlying53 Tryd.underlying5
  have hb := conv_below W0 5 s
  rw [h] at hcv
  have q0 := conv_cell W0 s h 0 (by decide)
  have q1 := conv_cell W0 s h 1 (by decide)
  have q2 := conv_cell W0 s h 2 (by decide)
  have q3 := conv_cell W0 s h 3 (by decide)
  have q4 := conv_cell W0 s h 4 (by decide)
  have q5 := conv_cell W0 s h 5 (by decide)
  have q6 := conv_cell W0 s h 6 (by decide)
  have q7 := conv_cell W0 s h 7 (by decide)
  rw [hz] at hcv q0 q1 q2 q3 q4 q5 q6 q7
  rw [hW0] at hcv
  obtain ⟨W1, hW1⟩ : ∃ W1, W1 = Lib.bytesWorld W0 5 s := ⟨_, rfl⟩
  rw [← hW1] at hb q0 q1 q2 q3 q4 q5 q6 q7
  rw [hW0] at hW1
  rw [← hW1] at hcv
  have hat := fun c => arr_at ⟨w.heap.size + 1, 0, none⟩ c W1
  have hx := X0.next hb
  have c0 := hx.cell 0
  have c1 := hx.cell 1
  have c2 := hx.cell 2
  have c3 := hx.cell 3
  have c4 := hx.cell 4
  have c5 := hx.cell 5
  have c6 := hx.cell 6
  have c7 := hx.cell 7
  simp at c0 c1 c2 c3 c4 c5 c6 c7
  have z0 := hx.frozen 0
  have z1 := hx.frozen 1
  have z2 := hx.frozen 2
  have z3 := hx.frozen 3
  have z4 := hx.frozen 4
  have z5 := hx.frozen 5
  have z6 := hx.frozen 6
  have z7 := hx.frozen 7
  have HB := Lib.hid (g0.trans (hb.mono (by omega)))
  clear g0 X0 hb hx h hW0 hW1 hz
  unfold B at *
  go_enter Tryd.func145, Tryd.ntmps145
  go_wp2_with fail
  refine bodyPost_ret (v := .agg (blkA s)) (by simp [blkA, B, results, Tryd.results145, go_sem, c0, c1, c2, c3, c4, c5, c6, c7]) rfl ⟨rfl, ?_⟩
  exact eight_set HB.out (Nat.le_refl _) _ _ _ _ _ _ _ _

set_option maxRecDepth 100000 in
set_option maxHeartbeats 1000000 in
theorem implText8 (s : ByteArray) (w : World) (h : s.size = 8) :
    Calls Tryd.prog 130 #[.agg (blkA s)] w fun e w' => e = .returned (.string s) ∧ Below w.heap.size w w' := by
  have HB := Lib.hid (below_alloc1 w (.cells (blkA s) 141))
  have hcv := conv_block (c := 8) (w := w.alloc (.cells (blkA s) 141)) (g := w.heap.size) (e := 141) (xs := (blkA s).toList) (h := heap_alloc_new w _) [bat s 0, bat s 1, bat s 2, bat s 3, bat s 4, bat s 5, bat s 6, bat s 7] 8 rfl rfl
  rw [block_bytes h] at hcv
  unfold blkA B at *
  go_enter Tryd.func130, Tryd.ntmps130
  go_wp2_with fail
  go_ret
  exact ⟨rfl, HB.out⟩

/-- The first k bytes put together, the others as they were. -/
def mixB (a b : ByteArray) (k i : Nat) : UInt8 := if i < k then bat a i ^^^ bat b i else bat a i
def XdRel (a b : ByteArray) (w : World) (i : Value) (wr : World) : Prop :=
  ∃ k : Nat, k ≤ 8 ∧ i = .int .i64 k ∧ CellsAt wr w.heap.size 141 8 (fun j => B (mixB a b k j)) ∧ Bx wr (w.heap.size + 1) 141 (blkA b) ∧ Bx wr (w.heap.size + 2) 141 (blkA zero8) ∧ Below w.heap.size w wr
theorem blkA_cells (s : ByteArray) : blkA s = cellsV 8 fun j => B (bat s j) := rfl
theorem blkA_ofB (f : Nat → UInt8) : blkA (ofB f) = #[B (f 0), B (f 1), B (f 2), B (f 3), B (f 4), B (f 5), B (f 6), B (f 7)] := rfl

set_option maxRecDepth 100000 in
set_option maxHeartbeats 2000000 in
theorem implXd (a b : ByteArray) (w : World) :
    Calls Tryd.prog 150 #[.agg (blkA a), .agg (blkA b)] w fun e w' => e = .returned (.agg (blkA (xor8 a b))) ∧ Below w.heap.size w w' := by
  have b0 := below_alloc1 w (.cells (blkA a) 141)
  have b1 := b0.trans ((below_alloc1 (w.alloc (.cells (blkA a) 141)) (.cells (blkA b) 141)).mono b0.size)
  have b2 := b1.trans ((below_alloc1 ((w.alloc (.cells (blkA a) 141)).alloc (.cells (blkA b) 141)) (.cells (blkA zero8) 141)).mono b1.size)
  have X0 := Lib.hid (((bx_new w 141 (blkA a)).next (below_alloc1 _ (.cells (blkA b) 141))).next (below_alloc1 _ (.cells (blkA zero8) 141)))
  have X1 := Lib.hid ((bx_new (w.alloc (.cells (blkA a) 141)) 141 (blkA b)).next (below_alloc1 _ (.cells (blkA zero8) 141)))
  have X2 := Lib.hid (bx_new ((w.alloc (.cells (blkA a) 141)).alloc (.cells (blkA b) 141)) 141 (blkA zero8))
  rw [size_alloc1] at X1
  rw [size_alloc1, size_alloc1] at X2
  have B2 := Lib.hid b2
  clear b0 b1 b2
  obtain ⟨W, hW⟩ : ∃ W, W = ((w.alloc (.cells (blkA a) 141)).alloc (.cells (blkA b) 141)).alloc (.cells (blkA zero8) 141) := ⟨_, rfl⟩
  have hW2 := hW
  rw [← hW] at X0 X1 X2 B2
  unfold blkA B at hW2
  simp only [show bat zero8 0 = 0 from rfl, show bat zero8 1 = 0 from rfl, show bat zero8 2 = 0 from rfl, show bat zero8 3 = 0 from rfl, show bat zero8 4 = 0 from rfl, show bat zero8 5 = 0 from rfl, show bat zero8 6 = 0 from rfl, show bat zero8 7 = 0 from rfl] at hW2
  have hW3 : W = ((w.alloc (.cells #[.int .u8 (bat a 0).toNat, .int .u8 (bat a 1).toNat, .int .u8 (bat a 2).toNat, .int .u8 (bat a 3).toNat, .int .u8 (bat a 4).toNat, .int .u8 (bat a 5).toNat, .int .u8 (bat a 6).toNat, .int .u8 (bat a 7).toNat] 141)).alloc (.cells #[.int .u8 (bat b 0).toNat, .int .u8 (bat b 1).toNat, .int .u8 (bat b 2).toNat, .int .u8 (bat b 3).toNat, .int .u8 (bat b 4).toNat, .int .u8 (bat b 5).toNat, .int .u8 (bat b 6).toNat, .int .u8 (bat b 7).toNat] 141)).alloc (.cells #[.int .u8 0, .int .u8 0, .int .u8 0, .int .u8 0, .int .u8 0, .int .u8 0, .int .u8 0, .int .u8 0] 141) := hW2
  clear hW hW2
  show Calls Tryd.prog 150 #[.agg #[.int .u8 (bat a 0).toNat, .int .u8 (bat a 1).toNat, .int .u8 (bat a 2).toNat, .int .u8 (bat a 3).toNat, .int .u8 (bat a 4).toNat, .int .u8 (bat a 5).toNat, .int .u8 (bat a 6).toNat, .int .u8 (bat a 7).toNat], .agg #[.int .u8 (bat b 0).toNat, .int .u8 (bat b 1).toNat, .int .u8 (bat b 2).toNat, .int .u8 (bat b 3).toNat, .int .u8 (bat b 4).toNat, .int .u8 (bat b 5).toNat, .int .u8 (bat b 6).toNat, .int .u8 (bat b 7).toNat]] w _
  have HW3 := Lib.hid hW3
  clear hW3
  go_enter Tryd.func150, Tryd.ntmps150
  go_wp2_with fail
  rw [← HW3.out]
  clear HW3
  go_loopw [6] (fun i wr => XdRel a b w i wr) (fun i _ => 8 - (intOf i).toNat)
  case atStart =>
    exact ⟨0, by omega, rfl, X0.out, X1.out, X2.out, B2.out⟩
  case round =>
    clear X0 X1 X2 B2
    obtain ⟨k, hk, rfl, hcs, hx1, hx2, hbel⟩ := hrel
    have HCS := Lib.hid hcs
    have HX1 := Lib.hid hx1
    have HX2 := Lib.hid hx2
    have HB := Lib.hid hbel
    by_cases hlt : k < 8
    · have c0 := hcs.cell k hlt
      have f0 := hcs.frozen k
      have c1 : wr.cell? ⟨w.heap.size + 1, k, none⟩ = some (B (bat b k)) := (hx1.cell k).trans (blkA_at b k hlt)
      rw [show mixB a b k k = bat a k from if_neg (by omega)] at c0
      unfold B at c0 c1
      have ex := u8_xor (bat a k) (bat b k)
      clear hcs hx1 hx2 hbel
      go_wp2_with fail
      go_region
      go_wp2_with fail
      go_roundw
      case rel =>
        have fin : XdRel a b w (.int .i64 ((k : Int) + 1)) ((wr.setCell ⟨w.heap.size, k, none⟩ (.int .u8 (((bat a k).toNat ^^^ (bat b k).toNat : Nat) : Int))).drew) := by
          refine ⟨k + 1, by omega, by go_num, CellsAt.drew (HCS.out.set k _ ?_ ?_), (HX1.out.other ⟨w.heap.size, k, none⟩ _ (show w.heap.size + 1 ≠ w.heap.size by omega)).next (Below.refl _ _).drew, (HX2.out.other ⟨w.heap.size, k, none⟩ _ (show w.heap.size + 2 ≠ w.heap.size by omega)).next (Below.refl _ _).drew, (HB.out.setCell (p := ⟨w.heap.size, k, none⟩) (Nat.le_refl _) _).drew⟩
          · show B (if k < k + 1 then _ else _) = _
            rw [if_pos (by omega)]
            unfold B
            rw [UInt8.toNat_xor]
          · intro i hi
            show B (if i < k + 1 then _ else _) = B (if i < k then _ else _)
            by_cases h1 : i < k
            · rw [if_pos h1, if_pos (by omega)]
            · rw [if_neg h1, if_neg (by omega)]
        first | exact fin | ((repeat apply Exists.intro); exact ⟨fin, rfl⟩)
      case measure => simp [intOf]; omega
    · obtain rfl : k = 8 := by omega
      have c0 := hcs.cell 0 (by decide)
      have c1 := hcs.cell 1 (by decide)
      have c2 := hcs.cell 2 (by decide)
      have c3 := hcs.cell 3 (by decide)
      have c4 := hcs.cell 4 (by decide)
      have c5 := hcs.cell 5 (by decide)
      have c6 := hcs.cell 6 (by decide)
      have c7 := hcs.cell 7 (by decide)
      have y0 := hx2.blk0
      have y1 := hx2.blk1
      have y2 := hx2.blk2
      have y3 := hx2.blk3
      have y4 := hx2.blk4
      have y5 := hx2.blk5
      have y6 := hx2.blk6
      have y7 := hx2.blk7
      have z0 := hx2.frozen 0
      have z1 := hx2.frozen 1
      have z2 := hx2.frozen 2
      have z3 := hx2.frozen 3
      have z4 := hx2.frozen 4
      have z5 := hx2.frozen 5
      have z6 := hx2.frozen 6
      have z7 := hx2.frozen 7
      rw [show mixB a b 8 0 = bat (xor8 a b) 0 from rfl] at c0
      rw [show mixB a b 8 1 = bat (xor8 a b) 1 from rfl] at c1
      rw [show mixB a b 8 2 = bat (xor8 a b) 2 from rfl] at c2
      rw [show mixB a b 8 3 = bat (xor8 a b) 3 from rfl] at c3
      rw [show mixB a b 8 4 = bat (xor8 a b) 4 from rfl] at c4
      rw [show mixB a b 8 5 = bat (xor8 a b) 5 from rfl] at c5
      rw [show mixB a b 8 6 = bat (xor8 a b) 6 from rfl] at c6
      rw [show mixB a b 8 7 = bat (xor8 a b) 7 from rfl] at c7
      unfold B at c0 c1 c2 c3 c4 c5 c6 c7 y0 y1 y2 y3 y4 y5 y6 y7
      clear HCS HX1 HX2 hcs hx1 hx2 hbel
      go_wp2_with fail
      refine bodyPost_ret (v := .agg (blkA (xor8 a b))) (by simp [blkA, B, results, Tryd.results150, go_sem, c0, c1, c2, c3, c4, c5, c6, c7, y0, y1, y2, y3, y4, y5, y6, y7]) rfl ⟨rfl, ?_⟩
      exact eight_set HB.out (by omega) _ _ _ _ _ _ _ _
end Go.Proofs.YtcpblmpapkhppaaDoor
