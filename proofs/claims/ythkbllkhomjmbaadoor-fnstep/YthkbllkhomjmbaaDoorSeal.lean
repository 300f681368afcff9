/- Seal: the model and the program answer alike. -/
import Derived.Test.YthkbllkhomjmbaaDoorCrc
import Derived.Test.YthkbllkhomjmbaaDoorJoin
namespace Go.Proofs.YthkbllkhomjmbaaDoor
open Go.RowKit

def octet (c : Int) : UInt8 := (c % 256).toNat.toUInt8
def fourL (c : Int) : List UInt8 := [octet c, octet (c / 256), octet (c / 65536), octet (c / 16777216)]
/-- Four bytes, the least first. -/
def fourS (c : Int) : ByteArray := ⟨(fourL c).toArray⟩
theorem octet_val (c : Int) : c % 256 = ((octet c).toNat : Int) := by unfold octet; simp; omega
theorem octet_top (c : Int) (h0 : 0 ≤ c) (h1 : c ≤ 4294967295) : c / 16777216 = ((octet (c / 16777216)).toNat : Int) := by rw [← octet_val]; omega
theorem crcF_bound (c : Int) (s : ByteArray) : 0 ≤ crcF c s ∧ crcF c s ≤ 4294967295 := by
  unfold crcF
  generalize regF s (bits BinOp.xor IntKind.u32 c 4294967295) s.size = r
  have a := bits_lo_u32 BinOp.xor r 4294967295
  have b := bits_hi_u32 BinOp.xor r 4294967295
  generalize bits BinOp.xor IntKind.u32 r 4294967295 = x at *
  rw [IntWalk.wrap64_in x (by omega)]
  exact ⟨a, b⟩

set_option maxHeartbeats 400000 in
theorem four_any (c : Int) (w : World) (h0 : 0 ≤ c) (h1 : c ≤ 4294967295) :
    Calls Tryd.prog 68 #[.int .i64 c] w fun e w' => e = .returned (.string (fourS c)) ∧ Below w.heap.size w w' := by
  have conv := conv_block (c := 4) (w := w.alloc (Obj.cells #[Value.int IntKind.u8 (c % 256), Value.int IntKind.u8 (c / 256 % 256), Value.int IntKind.u8 (c / 65536 % 256), Value.int IntKind.u8 (c / 16777216)] 5)) (g := w.heap.size) (e := 5) (xs := [Value.int IntKind.u8 (c % 256), Value.int IntKind.u8 (c / 256 % 256), Value.int IntKind.u8 (c / 65536 % 256), Value.int IntKind.u8 (c / 16777216)]) (heap_alloc_new w _) (fourL c) 4 rfl (by
    rw [octet_val c, octet_val (c / 256), octet_val (c / 65536), octet_top c h0 h1]; rfl)
  have e : (⟨(fourL c).toArray⟩ : ByteArray) = fourS c := rfl
  rw [e] at conv
  clear e
  go_enter Tryd.func68, Tryd.ntmps68
  go_wp2_with fail
  go_ret
  exact ⟨rfl, (Below.refl _ _).alloc (Nat.le_refl _) _⟩

def SumRel (w : World) (c : Int) (i : Value) (wr : World) : Prop :=
  ∃ (k : Nat) (xs : List Value), k ≤ 4 ∧ i = .int .i64 k ∧ wr.ownsRow w.heap.size 140 1 (.slice (some ⟨w.heap.size, 0, none⟩) 4 4) 4 xs ∧ xs.take k = ((fourL c).take k).map B ∧ Below w.heap.size w wr
theorem set_take (xs : List Value) (k : Nat) (c : Int) (v : Value) (u : UInt8) (h : k < xs.length) (hk : (fourL c)[k]? = some u) (hx : xs.take k = ((fourL c).take k).map B) (hv : v = B u) :
    (xs.set k v).take (k + 1) = ((fourL c).take (k + 1)).map B := by
  subst hv
  obtain ⟨hk', rfl⟩ := List.getElem?_eq_some_iff.1 hk
  rw [List.take_succ_eq_append_getElem (by simpa using h), List.take_set_of_le (Nat.le_refl _), hx, List.take_succ_eq_append_getElem hk', List.map_append]
  simp

theorem sum_step {w wr : World} {c : Int} {k : Nat} {xs : List Value} (v : Value) (u : UInt8) (hk : k < 4) (hu : (fourL c)[k]? = some u) (hv : v = B u)
    (hown : wr.ownsRow w.heap.size 140 1 (.slice (some ⟨w.heap.size, 0, none⟩) 4 4) 4 xs) (hxs : xs.take k = ((fourL c).take k).map B) (hbel : Below w.heap.size w wr) :
    SumRel w c (.int .i64 ((k + 1 : Nat) : Int)) (wr.setCell ⟨w.heap.size, k, none⟩ v) :=
  ⟨k + 1, _, by omega, rfl, (hown.stored k v).1, set_take xs k c v u (by rw [hown.1]; omega) hu hxs hv, hbel.setCell (p := ⟨w.heap.size, k, none⟩) (Nat.le_refl _) v⟩

set_option maxHeartbeats 400000 in
theorem sum_any (s : ByteArray) (w : World) (hs : s.size ≤ 8000) :
    Calls Tryd.prog 67 #[.string s] w fun e w' => e = .returned (.string (fourS (crcF 0 s))) ∧ Below w.heap.size w w' := by
  obtain ⟨h0, h1⟩ := crcF_bound 0 s
  have hcall := implCrc1_any s w hs
  generalize crcF 0 s = c at *
  have HC := Lib.hid hcall
  clear hcall
  go_enter Tryd.func67, Tryd.ntmps67
  go_wp2_with fail
  refine HC.out.mono ?_
  rintro e w' ⟨rfl, rfl⟩
  clear HC
  go_wp2_with fail
  go_loopw [8] (fun i wr => SumRel w c i wr) (fun i _ => 4 - (intOf i).toNat)
  case atStart => exact ⟨0, _, by omega, rfl, World.ownsRow_lit w _ 4 (Nat.le_refl _) (by decide) rfl, rfl, (Below.refl _ _).alloc (Nat.le_refl _) _⟩
  case round =>
    obtain ⟨k, xs, hk, rfl, hown, hxs, hbel⟩ := hrel
    by_cases hlt : k < 4
    · have hc := hown.cellAt k (by omega)
      have hf := hown.frozenAt k
      have hxl : xs.length = 4 := hown.1
      rw [List.getElem?_eq_getElem (by omega)] at hc
      generalize xs[k] = v0 at hc
      have HXS := Lib.hid hxs
      have HO := Lib.hid hown
      have HBL := Lib.hid hbel
      clear hxs hxl hown hbel
      have hk4 : k = 0 ∨ k = 1 ∨ k = 2 ∨ k = 3 := by omega
      rcases hk4 with rfl | rfl | rfl | rfl
      · go_wp2
        go_roundw
        case rel => exact sum_step (k := 0) _ _ (by omega) rfl (val_int (octet_val c)) HO.out HXS.out HBL.out
        case measure => simp [intOf]
      · go_wp2
        go_roundw
        case rel => exact sum_step (k := 1) _ _ (by omega) rfl (val_int (octet_val _)) HO.out HXS.out HBL.out
        case measure => simp [intOf]
      · go_wp2
        go_roundw
        case rel => exact sum_step (k := 2) _ _ (by omega) rfl (val_int (octet_val _)) HO.out HXS.out HBL.out
        case measure => simp [intOf]
      · go_wp2
        go_roundw
        case rel => exact sum_step (k := 3) _ _ (by omega) rfl (val_int (octet_top c h0 h1)) HO.out HXS.out HBL.out
        case measure => simp [intOf]
    · obtain rfl : k = 4 := by omega
      have conv := conv_row (c := 4) hown (fourL c) 4 rfl (by omega) (by rw [hxs]; rfl)
      have e : (⟨(fourL c).toArray⟩ : ByteArray) = fourS c := rfl
      rw [e] at conv
      clear e hown hxs
      go_wp2
      go_ret
      exact ⟨rfl, hbel⟩

theorem fourS_size (c : Int) : (fourS c).size = 4 := rfl

set_option maxHeartbeats 400000 in
theorem specSeal_any (t : ByteArray) (w : World) (ht : t.size ≤ 7996) :
    Calls Tryd.prog 21 #[.string t] w fun e w' => e = .returned (.string (t ++ fourS (crcF 0 t))) ∧ Below w.heap.size w w' := by
  have hp : (fourS (crcF 0 t)).size ≤ 4 := by rw [fourS_size]; omega
  obtain ⟨h0, h1⟩ := crcF_bound 0 t
  have hm : t.size ≤ maxLen := by unfold maxLen; omega
  go_enter Tryd.func21, Tryd.ntmps21
  go_wp2_with fail
  refine (specCrc_any 0 t _ hm (by omega) (by omega)).mono ?_
  rintro e w1 ⟨rfl, rfl⟩
  go_wp2_with fail
  refine (four_any (crcF 0 t) _ h0 h1).mono ?_
  rintro e w1 ⟨rfl, hb1⟩
  go_wp2_with fail
  go_ret
  exact ⟨rfl, hb1⟩

set_option maxHeartbeats 400000 in
theorem implSeal_any (t : ByteArray) (w : World) (ht : t.size ≤ 7996) :
    Calls Tryd.prog 20 #[.string t] w fun e w' => e = .returned (.string (t ++ fourS (crcF 0 t))) ∧ Below w.heap.size w w' := by
  have hp : (fourS (crcF 0 t)).size ≤ 4 := by rw [fourS_size]; omega
  go_enter Tryd.func20, Tryd.ntmps20
  go_wp2_with fail
  refine (sum_any t _ (by omega)).mono ?_
  rintro e w1 ⟨rfl, hb1⟩
  go_wp2_with fail
  refine (joined_two t (fourS (crcF 0 t)) _ (by omega)).mono ?_
  rintro e w2 ⟨rfl, hb2⟩
  have hb := hb1.trans (hb2.mono hb1.size)
  clear hb1 hb2
  go_wp2_with fail
  go_ret
  exact ⟨rfl, hb⟩

set_option maxHeartbeats 400000 in
theorem specSeal_long (t : ByteArray) (w : World) (hs : t.size ≤ maxLen) (ht : 7996 < t.size) :
    Calls Tryd.prog 21 #[.string t] w fun e w' => e = .returned (.string ⟨#[]⟩) ∧ w = w' := by
  unfold maxLen at hs
  go_enter Tryd.func21, Tryd.ntmps21
  go_wp2_with fail
  go_ret
  exact ⟨rfl, rfl⟩
set_option maxHeartbeats 400000 in
theorem implSeal_long (t : ByteArray) (w : World) (hs : t.size ≤ maxLen) (ht : 7996 < t.size) :
    Calls Tryd.prog 20 #[.string t] w fun e w' => e = .returned (.string ⟨#[]⟩) ∧ w = w' := by
  unfold maxLen at hs
  go_enter Tryd.func20, Tryd.ntmps20
  go_wp2_with fail
  go_ret
  exact ⟨rfl, rfl⟩

end Go.Proofs.YthkbllkhomjmbaaDoor
