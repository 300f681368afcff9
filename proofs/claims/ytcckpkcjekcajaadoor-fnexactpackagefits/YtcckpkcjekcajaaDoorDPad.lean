/- The padding: the program's. -/
import Derived.Test.YtcckpkcjekcajaaDoorDBlock
import Derived.Test.YtcckpkcjekcajaaDoorCells
import Derived.Test.YtcckpkcjekcajaaDoorM1
namespace Go.Proofs.YtcckpkcjekcajaaDoor
open Go.RowKit

/-- Byte j when k bytes of the length have been laid from the end. -/
def padK (l : List UInt8) (k j : Nat) : UInt8 :=
  if j < l.length then l.getD j 0 else if j = l.length then 128 else if j < padN l.length - k then 0 else (8 * l.length / 2 ^ (8 * (padN l.length - 1 - j))).toUInt8
theorem padK_8 (l : List UInt8) (j : Nat) : padK l 8 j = padB l j := rfl
theorem padN_gt (n : Nat) : n + 9 ≤ padN n := by unfold padN; omega
theorem padN_le (n : Nat) : padN n ≤ n + 72 := by unfold padN; omega

def PadPost (w : World) (l : List UInt8) (e : Ending) (w' : World) : Prop :=
  e = .returned (.slice (some ⟨w.heap.size, 0, none⟩) (padN l.length) (padN l.length)) ∧ CellsAt w' w.heap.size 5 (padN l.length) (fun j => B (padB l j)) ∧ Below w.heap.size w w'
def PadRel (w : World) (l : List UInt8) (N : Nat) (i : Value) (wr : World) : Prop :=
  ∃ k : Nat, k ≤ 8 ∧ i = .int .i64 k ∧ CellsAt wr w.heap.size 5 N (fun j => B (padK l k j)) ∧ Below w.heap.size w wr

theorem madeCells_zero (n : Nat) : (madeCells #[Value.int IntKind.u8 0] n).toList = List.replicate n (B 0) := by
  rw [toList_madeCells_one]; rfl
theorem len_byte (n k : Nat) : (n : Int) * 8 / 2 ^ (8 * k) % 256 = (((8 * n / 2 ^ (8 * k)).toUInt8).toNat : Int) := by
  have e : ((n : Int) * 8 / 2 ^ (8 * k)) = ((8 * n / 2 ^ (8 * k) : Nat) : Int) := by
    rw [Int.natCast_ediv, Int.natCast_mul, Int.natCast_pow, Int.mul_comm]; rfl
  rw [e]
  generalize 8 * n / 2 ^ (8 * k) = x
  show ((x : Int)) % 256 = ((UInt8.ofNat x).toNat : Int)
  rw [UInt8.toNat_ofNat']; omega
theorem pad_copied {w2 : World} {g N : Nat} {s : ByteArray} (h : w2.heap[g]? = some (.cells (splice (List.replicate N (B 0)) 0 (Lib.byteCells s.data.toList)).toArray 5 (0, 0))) (hN : s.size ≤ N) :
    CellsAt w2 g 5 N (fun j => B (if j < s.size then s.data.toList.getD j 0 else 0)) := by
  have hl : s.data.toList.length = s.size := (Lib.size_eq s).symm
  have hbl : (Lib.byteCells s.data.toList).length = s.size := by rw [Lib.byteCells_length, hl]
  refine cellsAt_list h N _ ?_ ?_
  · rw [length_splice _ _ _ (by rw [hbl, List.length_replicate]; omega), List.length_replicate]
  · intro j hj
    unfold splice
    rw [List.take_zero, List.nil_append, Nat.zero_add, hbl]
    by_cases hs : j < s.size
    · rw [List.getElem?_append_left (by rw [hbl]; exact hs), cells_B, if_pos hs, List.getElem?_map, List.getD_eq_getElem?_getD, List.getElem?_eq_getElem (by omega)]
      rfl
    · rw [List.getElem?_append_right (by omega), if_neg hs, hbl, List.getElem?_drop, List.getElem?_replicate, if_pos (by omega)]

set_option maxHeartbeats 1000000 in
theorem pad_any (s : ByteArray) (w : World) (h : s.size ≤ 8000) :
    Calls Tryd.prog 72 #[.string s] w (PadPost w s.data.toList) := by
  obtain ⟨i0, hi, hz0, hz1, hz2⟩ := info_parts Tryd.info5
  have hg := padN_gt s.size
  have hle := padN_le s.size
  go_enter Tryd.func72, Tryd.ntmps72
  go_wp2_with (at_make; refine wpList_make_full _ rfl _ _ 22 rfl w.heap.size 5 i0 (.int .u8 0) 1 Tryd.underlying22 hi hz0 hz1 .i64 .i64 _ _ (padN s.size) rfl rfl ?m1 ?m2 (by rw [hz2]; omega) (by unfold maxLen; omega) (Nat.le_refl _) ?_)
  case m1 => unfold padN; omega
  case m2 => unfold padN; omega
  intro w1 hown1 hgrow1
  have hb1 : Below w.heap.size w w1 := (Below.refl _ w).grown hgrow1 (Nat.le_refl _) (by simp)
  have hg1 := own_block hown1
  rw [madeCells_zero] at hg1
  have HG1 := Lib.hid hg1
  clear hown1 hgrow1 hg1 hi hz0 hz1 hz2
  generalize hN : padN s.size = N at *
  have HN := Lib.hid hN
  clear hN
  go_wp2_with ((with_reducible show wpList _ _ _ (⟨some 22, _, _, _, _, _⟩ :: _) _ _); refine wpList_copy_str rfl (.tmp 20) (.tmp 21) 22 9 rfl 5 Tryd.underlying22 Tryd.size5 (some ⟨w.heap.size, 0, none⟩) N N s rfl rfl w.heap.size 0 _ 5 HG1.out (by omega) (fun _ => rfl) (by simp; omega) w.heap.size w hb1 (Nat.le_refl _) ?_)
  intro w2 HG2 hb2
  clear hb1
  have hc2 : CellsAt w2 w.heap.size 5 N (fun j => B (if j < s.size then s.data.toList.getD j 0 else 0)) := pad_copied HG2.out (by omega)
  have hc3 := hc2.cell s.size (by omega)
  have hf3 := hc2.frozen s.size
  have HC2 := Lib.hid hc2
  have HB2 := Lib.hid hb2
  clear hc2 hb2 HG2 HG1
  have hl : s.data.toList.length = s.size := (Lib.size_eq s).symm
  have HL := Lib.hid hl
  clear hl
  go_wp2_with fail
  go_loopw [28] (fun i wr => PadRel w s.data.toList N i wr) (fun i _ => 8 - (intOf i).toNat)
  case atStart =>
    refine ⟨0, by omega, rfl, ?_, HB2.out.setCell (p := ⟨w.heap.size, s.size, none⟩) (Nat.le_refl _) _⟩
    refine (HC2.out.set (v' := fun j => if j = s.size then B 128 else B (if j < s.size then s.data.toList.getD j 0 else 0)) s.size _ (if_pos rfl) (fun i hi => if_neg hi)).congr fun j hj => ?_
    unfold padK
    rw [HL.out, HN.out]
    by_cases h1 : j < s.size
    · rw [if_pos h1, if_neg (by omega), if_pos h1]
    · rw [if_neg h1]
      by_cases h2 : j = s.size
      · rw [if_pos h2, if_pos h2]
      · rw [if_neg h2, if_neg h2, if_neg h1, if_pos (by omega)]
  case round =>
    clear hf3 hc3
    obtain ⟨k, hk, rfl, hcs, hbel⟩ := hrel
    by_cases hlt : k < 8
    · have hc := hcs.cell (N - 1 - k) (by omega)
      have hf := hcs.frozen (N - 1 - k)
      have HCS := Lib.hid hcs
      have HBEL := Lib.hid hbel
      clear hcs hbel
      go_wp2
      go_roundw
      case rel =>
        refine ⟨k + 1, by omega, by go_num, ?_, ?_⟩
        · refine (HCS.out.set (v' := fun j => if j = N - 1 - k then Value.int IntKind.u8 ((s.size : Int) * 8 / 2 ^ (8 * k) % 256) else B (padK s.data.toList k j)) (N - 1 - k) _ (if_pos rfl) (fun i hi => if_neg hi)).congr fun j hj => ?_
          unfold padK
          rw [HL.out, HN.out]
          by_cases h1 : j = N - 1 - k
          · rw [if_pos h1, if_neg (by omega), if_neg (by omega), if_neg (by omega), show N - 1 - j = k by omega]
            exact (val_int (len_byte s.size k)).symm
          · rw [if_neg h1]
            by_cases h2 : j < s.size
            · rw [if_pos h2, if_pos h2]
            · rw [if_neg h2, if_neg h2]
              by_cases h3 : j = s.size
              · rw [if_pos h3, if_pos h3]
              · rw [if_neg h3, if_neg h3]
                by_cases h4 : j < N - (k + 1)
                · rw [if_pos h4, if_pos (by omega)]
                · rw [if_neg h4, if_neg (by omega)]
        · exact HBEL.out.setCell (p := ⟨w.heap.size, N - 1 - k, none⟩) (Nat.le_refl _) _
      case measure => simp [intOf]; omega
    · obtain rfl : k = 8 := by omega
      have HCS := Lib.hid hcs
      have HBEL := Lib.hid hbel
      clear hcs hbel hlt hk
      go_wp2
      go_ret
      refine ⟨?_, ?_, HBEL.out⟩
      · rw [HL.out, HN.out]; rfl
      · rw [HL.out, HN.out]; exact HCS.out
end Go.Proofs.YtcckpkcjekcajaaDoor
