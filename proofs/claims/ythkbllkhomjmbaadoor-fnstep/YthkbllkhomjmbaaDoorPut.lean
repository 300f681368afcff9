/- PutNum: the model and the program encode alike. -/
import Derived.Test.YthkbllkhomjmbaaDoorBase
import Derived.Test.YthkbllkhomjmbaaDoorVar
namespace Go.Proofs.YthkbllkhomjmbaaDoor
open Go.RowKit

set_option maxHeartbeats 400000 in
set_option maxRecDepth 100000 in
theorem fold_any (n : Int) (w : World) (h0 : -9223372036854775808 ≤ n) (h1 : n ≤ 9223372036854775807) :
    Calls Tryd.prog 60 #[.int .i64 n] w fun e w' => e = .returned (.int .u64 (Lib.zigzag n)) ∧ w = w' := by
  by_cases h : 0 ≤ n
  · have H := Lib.hid (zz_fold n h)
    go_enter Tryd.func60, Tryd.ntmps60
    go_wp2
    go_ret
    exact ⟨ret_int H.out, rfl⟩
  · have H := Lib.hid (zz_foldn n (by omega))
    go_enter Tryd.func60, Tryd.ntmps60
    go_wp2
    go_ret
    exact ⟨ret_int H.out, rfl⟩

def SpecRel (w : World) (x0 : Nat) (u v : Value) (wr : World) : Prop :=
  ∃ (x : Nat) (l : List UInt8), x < lim64 ∧ u = .int .u64 x ∧ wr.ownsRow w.heap.size 5 1 v l.length (l.map B) ∧ Below w.heap.size w wr ∧ l ++ Lib.uvarint x = Lib.uvarint x0

set_option maxHeartbeats 400000 in
set_option maxRecDepth 100000 in
theorem specPut_any (n : Int) (w : World) (h0 : -9223372036854775808 ≤ n) (h1 : n ≤ 9223372036854775807) :
    Calls Tryd.prog 13 #[.int .i64 n] w fun e w' => e = .returned (.string ⟨(Lib.uvarint (Lib.zigzag n)).toArray⟩) ∧ Below w.heap.size w w' := by
  obtain ⟨i0, hi, hz0, hz1, hz2⟩ := info_parts Tryd.info5
  have hx0 : Lib.zigzag n < lim64 := zz_lt n h0 h1
  obtain ⟨str, hstr⟩ : ∃ str : ByteArray, str = ⟨(Lib.uvarint (Lib.zigzag n)).toArray⟩ := ⟨_, rfl⟩
  rw [← hstr]
  have HSTR := Lib.hid hstr
  clear hstr
  go_enter Tryd.func13, Tryd.ntmps13
  go_wp2_with fail
  refine (fold_any n _ h0 h1).mono ?_
  rintro e w' ⟨rfl, rfl⟩
  clear h0 h1
  generalize Lib.zigzag n = x0 at *
  go_wp2_with fail
  go_loopw [3, 4] (fun u v wr => SpecRel w x0 u v wr) (fun u _ _ => (intOf u).toNat)
  case atStart => exact ⟨x0, [], hx0, rfl, World.ownsRow_lit w #[] 0 (Nat.le_refl _) (by decide) rfl, (Below.refl _ _).alloc (Nat.le_refl _) _, rfl⟩
  case round =>
    obtain ⟨x, l, hx, rfl, hown, hbel, hl⟩ := hrel
    have hlen := var_len l x x0 hx0 hl
    have hsz := hbel.size
    have HL := Lib.hid hl
    have HX := Lib.hid hx
    have HX0 := Lib.hid hx0
    clear hl hx hx0
    by_cases h128 : 128 ≤ x
    · go_wp2_with (at_builtin; refine wpList_append_own _ rfl _ _ 22 rfl w.heap.size 5 i0 (.int .u8 0) 1 1 Tryd.underlying22 hi hz0 hz1 hz2 rfl (by decide) _ _ _ rfl (hown.alloc _) ⟨wr.heap.size, 0, none⟩ 1 1 [B (moreB x)] rfl rfl ?c1 ?c2 ?c3 ?c4 ?c5 ?_)
      case c1 => exact one_cell _ _ _ (val_int (byte_more x))
      case c2 => intro u hu; simp at hu; subst hu; rfl
      case c3 => unfold maxLen; omega
      case c4 => omega
      case c5 => simp; omega
      intro v' w1 hown' hgrow _
      have hb1 := (hbel.alloc hsz _).grown hgrow (by simp; omega) (owned_below hown)
      have HO := Lib.hid hown'
      clear hown' hgrow hown hbel
      go_wp2
      go_roundw
      case rel => exact ⟨x / 128, l ++ [moreB x], div_lt x HX.out, val_int (wrap_div x HX.out), by simpa using HO.out, hb1, by rw [var_more l x h128]; exact HL.out⟩
      case measure => rw [wrap_div x HX.out]; simp [intOf]; omega
    · go_wp2_with (at_builtin; refine wpList_append_own _ rfl _ _ 22 rfl w.heap.size 5 i0 (.int .u8 0) 1 1 Tryd.underlying22 hi hz0 hz1 hz2 rfl (by decide) _ _ _ rfl (hown.alloc _) ⟨wr.heap.size, 0, none⟩ 1 1 [B (lastB x)] rfl rfl ?d1 ?d2 ?d3 ?d4 ?d5 ?_)
      case d1 => exact one_cell _ _ _ (val_int (byte_last x (by omega)))
      case d2 => intro u hu; simp at hu; subst hu; rfl
      case d3 => unfold maxLen; omega
      case d4 => omega
      case d5 => simp; omega
      intro v' w1 hown' hgrow _
      have hb1 := (hbel.alloc hsz _).grown hgrow (by simp; omega) (owned_below hown)
      obtain ⟨g, cap, rfl⟩ := owned_shape hown' (by omega)
      have conv := conv_row (c := cap) hown' (l ++ [lastB x]) (l.length + 1) (by simp) (Nat.le_refl _) (by rw [List.take_of_length_le (by simp)]; simp)
      rw [var_last l x (by omega), HL.out, ← HSTR.out] at conv
      clear hown' hgrow hown hbel
      go_wp2
      go_ret
      exact ⟨rfl, hb1⟩

def ImplRel (w : World) (x0 : Nat) (u c : Value) (wr : World) : Prop :=
  ∃ (x : Nat) (l : List UInt8) (xs : List Value), x < lim64 ∧ u = .int .u64 x ∧ c = .int .i64 l.length ∧ wr.ownsRow w.heap.size 78 1 (.slice (some ⟨w.heap.size, 0, none⟩) 10 10) 10 xs ∧ xs.take l.length = l.map B ∧ Below w.heap.size w wr ∧ l ++ Lib.uvarint x = Lib.uvarint x0

theorem Tryd.und37 : Tryd.prog.underlying 78 = some (.array (Tryd.prog.arrayLen 78) (Tryd.prog.elem 78)) := by kernel_rfl
theorem Tryd.len37 : Tryd.prog.arrayLen 78 = 10 := by kernel_rfl
theorem Tryd.size37 (w : World) : (sizeOf (Tryd.prog.elem 78)).run Tryd.prog w = .ok 1 w := by kernel_rfl
theorem sl37 (w : World) (a : Addr) (k : Nat) (h : k ≤ 9) : (Instr.sliceAt 78 (.pointer (some a)) none (some (.int .i64 ((k : Int) + 1))) none).run Tryd.prog w = .ok (.slice (some a) (k + 1) 10) w := by
  rw [run_sliceAt_array_h w 78 a Tryd.und37 .i64 ((k : Int) + 1) (by omega) (by rw [Tryd.len37]; omega), Tryd.size37, Tryd.len37]
  have e : ((k : Int) + 1).toNat = k + 1 := by omega
  simp [Result.andThen, slicedAt, e, Addr.add]

theorem take_set_more (xs : List Value) (l : List UInt8) (b : UInt8) (v : Value) (h : l.length < xs.length) (hx : xs.take l.length = l.map B) (hv : v = B b) :
    (xs.set l.length v).take (l ++ [b]).length = (l ++ [b]).map B := by
  subst hv
  rw [List.length_append, List.length_singleton, List.take_succ_eq_append_getElem (by simpa using h), List.take_set_of_le (Nat.le_refl _), hx]
  simp

set_option maxHeartbeats 400000 in
set_option maxRecDepth 100000 in
theorem implPut_pos (n : Int) (w : World) (h0 : 0 ≤ n) (h1 : n ≤ 9223372036854775807) :
    Calls Tryd.prog 12 #[.int .i64 n] w fun e w' => e = .returned (.string ⟨(Lib.uvarint (Lib.zigzag n)).toArray⟩) ∧ Below w.heap.size w w' := by
  have hx0 : Lib.zigzag n < lim64 := zz_lt n (by omega) (by omega)
  have HZ := Lib.hid (zz_pos n h0 h1)
  obtain ⟨str, hstr⟩ : ∃ str : ByteArray, str = ⟨(Lib.uvarint (Lib.zigzag n)).toArray⟩ := ⟨_, rfl⟩
  rw [← hstr]
  have HSTR := Lib.hid hstr
  clear hstr
  generalize Lib.zigzag n = x0 at *
  go_enter Tryd.func12, Tryd.ntmps12
  go_wp2_with fail
  go_loopw [3, 5] (fun u c wr => ImplRel w x0 u c wr) (fun u _ _ => (intOf u).toNat)
  case atStart => exact ⟨x0, [], _, hx0, val_int HZ.out, rfl, World.ownsRow_lit w _ 10 (Nat.le_refl _) (by decide) rfl, rfl, (Below.refl _ _).alloc (Nat.le_refl _) _, rfl⟩
  case round =>
    clear HZ
    obtain ⟨x, l, xs, hx, rfl, rfl, hown, hxs, hbel, hl⟩ := hrel
    have hlen := var_len l x x0 hx0 hl
    have hc := hown.cellAt l.length (by omega)
    have hf := hown.frozenAt l.length
    have hxl : xs.length = 10 := hown.1
    rw [List.getElem?_eq_getElem (by omega)] at hc
    generalize xs[l.length] = v0 at hc
    have HL := Lib.hid hl
    have HX := Lib.hid hx
    have HX0 := Lib.hid hx0
    have HXS := Lib.hid hxs
    have HXL := Lib.hid hxl
    clear hl hx hxs hxl hx0
    by_cases h128 : 128 ≤ x
    · have HO := Lib.hid (hown.stored l.length (.int .u8 (bits BinOp.or IntKind.u8 ((x : Int) % 256) 128))).1
      have HB := Lib.hid (hbel.setCell (p := ⟨w.heap.size, l.length, none⟩) (Nat.le_refl _) (.int .u8 (bits BinOp.or IntKind.u8 ((x : Int) % 256) 128)))
      clear hown hbel
      go_wp2
      go_roundw
      case rel => exact ⟨x / 128, l ++ [moreB x], _, div_lt x HX.out, by go_num, by simp, HO.out, take_set_more xs l _ _ (by rw [HXL.out]; omega) HXS.out (val_int (byte_more2 x)), HB.out, by rw [var_more l x h128]; exact HL.out⟩
      case measure => simp [intOf]; omega
    · have HO := (hown.stored l.length (.int .u8 (x : Int))).1
      have HB := Lib.hid (hbel.setCell (p := ⟨w.heap.size, l.length, none⟩) (Nat.le_refl _) (.int .u8 (x : Int)))
      have conv := conv_row (c := 10) HO (l ++ [lastB x]) (l.length + 1) (by simp) (by omega) (by
        have := take_set_more xs l (lastB x) (.int .u8 (x : Int)) (by rw [HXL.out]; omega) HXS.out (val_int (byte_last x (by omega)))
        simpa using this)
      rw [var_last l x (by omega), HL.out, ← HSTR.out] at conv
      have hsl := fun wx => sl37 wx ⟨w.heap.size, 0, none⟩ l.length (by omega)
      clear HO hown hbel
      go_wp2
      go_ret
      exact ⟨rfl, HB.out⟩

set_option maxHeartbeats 400000 in
set_option maxRecDepth 100000 in
theorem implPut_neg (n : Int) (w : World) (h0 : n < 0) (h1 : -9223372036854775808 ≤ n) :
    Calls Tryd.prog 12 #[.int .i64 n] w fun e w' => e = .returned (.string ⟨(Lib.uvarint (Lib.zigzag n)).toArray⟩) ∧ Below w.heap.size w w' := by
  have hx0 : Lib.zigzag n < lim64 := zz_lt n (by omega) (by omega)
  have HZ := Lib.hid (zz_neg n h0 h1)
  obtain ⟨str, hstr⟩ : ∃ str : ByteArray, str = ⟨(Lib.uvarint (Lib.zigzag n)).toArray⟩ := ⟨_, rfl⟩
  rw [← hstr]
  have HSTR := Lib.hid hstr
  clear hstr
  generalize Lib.zigzag n = x0 at *
  go_enter Tryd.func12, Tryd.ntmps12
  go_wp2_with fail
  go_loopw [3, 5] (fun u c wr => ImplRel w x0 u c wr) (fun u _ _ => (intOf u).toNat)
  case atStart => exact ⟨x0, [], _, hx0, val_int HZ.out, rfl, World.ownsRow_lit w _ 10 (Nat.le_refl _) (by decide) rfl, rfl, (Below.refl _ _).alloc (Nat.le_refl _) _, rfl⟩
  case round =>
    clear HZ
    obtain ⟨x, l, xs, hx, rfl, rfl, hown, hxs, hbel, hl⟩ := hrel
    have hlen := var_len l x x0 hx0 hl
    have hc := hown.cellAt l.length (by omega)
    have hf := hown.frozenAt l.length
    have hxl : xs.length = 10 := hown.1
    rw [List.getElem?_eq_getElem (by omega)] at hc
    generalize xs[l.length] = v0 at hc
    have HL := Lib.hid hl
    have HX := Lib.hid hx
    have HX0 := Lib.hid hx0
    have HXS := Lib.hid hxs
    have HXL := Lib.hid hxl
    clear hl hx hxs hxl hx0
    by_cases h128 : 128 ≤ x
    · have HO := Lib.hid (hown.stored l.length (.int .u8 (bits BinOp.or IntKind.u8 ((x : Int) % 256) 128))).1
      have HB := Lib.hid (hbel.setCell (p := ⟨w.heap.size, l.length, none⟩) (Nat.le_refl _) (.int .u8 (bits BinOp.or IntKind.u8 ((x : Int) % 256) 128)))
      clear hown hbel
      go_wp2
      go_roundw
      case rel => exact ⟨x / 128, l ++ [moreB x], _, div_lt x HX.out, by go_num, by simp, HO.out, take_set_more xs l _ _ (by rw [HXL.out]; omega) HXS.out (val_int (byte_more2 x)), HB.out, by rw [var_more l x h128]; exact HL.out⟩
      case measure => simp [intOf]; omega
    · have HO := (hown.stored l.length (.int .u8 (x : Int))).1
      have HB := Lib.hid (hbel.setCell (p := ⟨w.heap.size, l.length, none⟩) (Nat.le_refl _) (.int .u8 (x : Int)))
      have conv := conv_row (c := 10) HO (l ++ [lastB x]) (l.length + 1) (by simp) (by omega) (by
        have := take_set_more xs l (lastB x) (.int .u8 (x : Int)) (by rw [HXL.out]; omega) HXS.out (val_int (byte_last x (by omega)))
        simpa using this)
      rw [var_last l x (by omega), HL.out, ← HSTR.out] at conv
      have hsl := fun wx => sl37 wx ⟨w.heap.size, 0, none⟩ l.length (by omega)
      clear HO hown hbel
      go_wp2
      go_ret
      exact ⟨rfl, HB.out⟩

theorem implPut_any (n : Int) (w : World) (h0 : -9223372036854775808 ≤ n) (h1 : n ≤ 9223372036854775807) :
    Calls Tryd.prog 12 #[.int .i64 n] w fun e w' => e = .returned (.string ⟨(Lib.uvarint (Lib.zigzag n)).toArray⟩) ∧ Below w.heap.size w w' := by
  by_cases h : 0 ≤ n
  · exact implPut_pos n w h h1
  · exact implPut_neg n w (by omega) h0

/-- The bytes of an integer, behind a name. -/
def putS (n : Int) : ByteArray := ⟨(Lib.uvarint (Lib.zigzag n)).toArray⟩
theorem putS_size (n : Int) (h0 : -9223372036854775808 ≤ n) (h1 : n ≤ 9223372036854775807) : (putS n).size ≤ 10 := by
  have := Lib.uvarint_length64 (Lib.zigzag_lt h0 h1)
  simpa [putS, ByteArray.size] using this
theorem specPut (n : Int) (w : World) (h0 : -9223372036854775808 ≤ n) (h1 : n ≤ 9223372036854775807) :
    Calls Tryd.prog 13 #[.int .i64 n] w fun e w' => e = .returned (.string (putS n)) ∧ Below w.heap.size w w' := by
  unfold putS; exact specPut_any n w h0 h1
theorem implPut (n : Int) (w : World) (h0 : -9223372036854775808 ≤ n) (h1 : n ≤ 9223372036854775807) :
    Calls Tryd.prog 12 #[.int .i64 n] w fun e w' => e = .returned (.string (putS n)) ∧ Below w.heap.size w w' := by
  unfold putS; exact implPut_any n w h0 h1

end Go.Proofs.YthkbllkhomjmbaaDoor
