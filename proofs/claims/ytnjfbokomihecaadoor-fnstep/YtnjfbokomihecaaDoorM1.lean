/- The ground texts of this claim, in one. -/
import Derived.Test.YtnjfbokomihecaaDoorRows
import Derived.WalkKit
import Derived.WalkSpells
import Derived.WalkLawsBesides
import Derived.Lib.Hide
import Derived.Lib.Zigzag
import Derived.Lib.BufferWrite
import Derived.Laws.CopyOwn
import Derived.Below
import Derived.Laws.Rows
import Derived.Maps.Range
import Derived.Deep.QuietTactic
import Derived.BigQuiet
import Derived.BigRegion
import Derived.Deep.RegionHeld3
import Derived.StillTailTactics
import Derived.Deep.DrawnRows
import Derived.Laws.Bits64b
import Derived.ScopeJumps
import Derived.WalkMore
import Derived.LaidEql
import Derived.Stop.Asserts
import Derived.RowKitTokens
namespace Go.Proofs.YtnjfbokomihecaaDoor
open Go.RowKit

theorem ret_bool {a b : Bool} (h : a = b) : Ending.returned (.bool a) = .returned (.bool b) := by rw [h]
def bt (s : ByteArray) (j : Nat) : Int := (s.data.getD j 0).toNat
theorem bt_at (s : ByteArray) (k : Nat) (h : k < s.size) : (s[k].toNat : Int) = bt s k := by
  unfold bt
  have : s.data.getD k 0 = s[k] := by
    have h' : k < s.data.size := h
    simp [Array.getD, h]; rfl
  rw [this]

theorem ret_int {k : IntKind} {a b : Int} (h : a = b) : Ending.returned (.int k a) = .returned (.int k b) := by rw [h]
theorem val_int {k : IntKind} {a b : Int} (h : a = b) : Value.int k a = .int k b := by rw [h]

theorem Tryd.info5 : (Tryd.prog.info? 5).map (fun i => (i.zero, i.size, i.bytes)) = some (some (.int .u8 0), 1, 1) := by kernel_rfl
def B (u : UInt8) : Value := .int .u8 (u.toNat : Int)


theorem conv_row {w : World} {base e g n cap c : Nat} {xs : List Value} (h : w.ownsRow base e 1 (.slice (some ⟨g, 0, none⟩) n cap) n xs) (l : List UInt8) (m : Nat) (hm : m = l.length) (hn : m ≤ n) (hx : xs.take m = l.map B) :
    (convert 22 9 (.slice (some ⟨g, 0, none⟩) m c)).run Tryd.prog w = .ok (.string ⟨l.toArray⟩) w := by
  subst hm
  refine run_convert_bytes_back w 22 9 5 ⟨g, 0, none⟩ c l Tryd.underlying22 Tryd.underlying5 Tryd.underlying9 fun j hj => ?_
  have e1 : ((⟨g, 0, none⟩ : Addr).add j) = ⟨g, j, none⟩ := by simp [Addr.add]; omega
  rw [e1, h.cellAt j (by omega)]
  have e2 : (xs.take l.length)[j]? = xs[j]? := by rw [List.getElem?_take, if_pos hj]
  rw [← e2, hx, List.getElem?_map, List.getElem?_eq_getElem hj]
  rfl

theorem one_cell (wr : World) (a b : Value) (h : a = b) : ∀ j u, [b][j]? = some u → (wr.alloc (.cells #[a] 5)).cell? ((⟨wr.heap.size, 0, none⟩ : Addr).add j) = some u := by
  intro j u hj
  match j, hj with
  | 0, hj => simp at hj; subst hj; subst h; simp [Addr.add]
theorem owned_below {w wr : World} {v : Value} {n : Nat} {xs : List Value} (h : wr.ownsRow w.heap.size 5 1 v n xs) : ∀ k, v.ownBlock = some k → w.heap.size ≤ k := fun k hk => (h.lt k hk).1
theorem owned_shape {w wr : World} {e : TypeId} {v : Value} {n : Nat} {xs : List Value} (h : wr.ownsRow w.heap.size e 1 v n xs) (hn : 0 < n) : ∃ g cap, v = .slice (some ⟨g, 0, none⟩) n cap := by
  rcases h.2 with ⟨_, h0⟩ | ⟨g, cap, cur, h', _⟩
  · omega
  · exact ⟨g, cap, h'⟩

theorem own_block {w : World} {base e g n : Nat} {xs : List Value} (h : w.ownsRow base e 1 (.slice (some ⟨g, 0, none⟩) n n) n xs) : w.heap[g]? = some (.cells xs.toArray e (0, 0)) := by
  rcases h.2 with ⟨h', _⟩ | ⟨g', cap', cur, h', _, hg, _, _, hs, htake⟩
  · simp at h'
  · simp only [Value.slice.injEq, Option.some.injEq, Addr.mk.injEq, and_true, true_and] at h'
    obtain ⟨rfl, rfl⟩ := h'
    rw [hg, ← htake, List.take_of_length_le (by simp [hs])]

theorem conv_block {w : World} {e g c : Nat} {xs : List Value} (h : w.heap[g]? = some (.cells xs.toArray e (0, 0))) (l : List UInt8) (m : Nat) (hm : m = l.length) (hx : xs = l.map B) :
    (convert 22 9 (.slice (some ⟨g, 0, none⟩) m c)).run Tryd.prog w = .ok (.string ⟨l.toArray⟩) w := by
  subst hm
  refine run_convert_bytes_back w 22 9 5 ⟨g, 0, none⟩ c l Tryd.underlying22 Tryd.underlying5 Tryd.underlying9 fun j hj => ?_
  have e1 : ((⟨g, 0, none⟩ : Addr).add j) = ⟨g, j, none⟩ := by simp [Addr.add]; omega
  rw [e1, cell_of_row w g j _ e (0, 0) h, hx]
  simp [hj, B]
theorem res_cells {K : Nat} {w w' : World} {a b c : Value} {T : TypeId} (hb : Below K (w.alloc (.cells #[a, b, c] T)).drew w') (hK : w.heap.size < K) :
    w'.cell? ⟨w.heap.size, 0, none⟩ = some a ∧ w'.cell? ⟨w.heap.size, 1, none⟩ = some b ∧ w'.cell? ⟨w.heap.size, 2, none⟩ = some c ∧
    w'.frozen? ⟨w.heap.size, 0, none⟩ = false ∧ w'.frozen? ⟨w.heap.size, 1, none⟩ = false ∧ w'.frozen? ⟨w.heap.size, 2, none⟩ = false := by
  have hc : ∀ j, w'.cell? ⟨w.heap.size, j, none⟩ = (#[a, b, c] : Array Value)[j]? := fun j =>
    (hb.cell (p := ⟨w.heap.size, j, none⟩) hK).trans (World.cell?_alloc_new (w := w) #[a, b, c] T j)
  have hf : ∀ j, w'.frozen? ⟨w.heap.size, j, none⟩ = false := fun j =>
    (hb.frozen (p := ⟨w.heap.size, j, none⟩) hK).trans (World.frozen?_alloc_at #[a, b, c] T w.heap.size j rfl)
  exact ⟨hc 0, hc 1, hc 2, hf 0, hf 1, hf 2⟩

theorem laid_cells {K : Nat} {w w' : World} {a b c : Value} {T : TypeId} (hb : Below K (w.alloc (.cells #[a, b, c] T)) w') (hK : w.heap.size < K) :
    w'.cell? ⟨w.heap.size, 0, none⟩ = some a ∧ w'.cell? ⟨w.heap.size, 1, none⟩ = some b ∧ w'.cell? ⟨w.heap.size, 2, none⟩ = some c := by
  have hc : ∀ j, w'.cell? ⟨w.heap.size, j, none⟩ = (#[a, b, c] : Array Value)[j]? := fun j =>
    (hb.cell (p := ⟨w.heap.size, j, none⟩) hK).trans (World.cell?_alloc_new (w := w) #[a, b, c] T j)
  exact ⟨hc 0, hc 1, hc 2⟩
theorem laid_size (w : World) (o : Obj) : w.heap.size < (w.alloc o).heap.size := by
  show _ < (w.heap.push _).size; simp
theorem res_below {K : Nat} {w w' : World} {o : Obj} (hb : Below K (w.alloc o).drew w') (hK : w.heap.size < K) (a b c : Value) :
    Below w.heap.size w (((w'.setCell ⟨w.heap.size, 0, none⟩ a).setCell ⟨w.heap.size, 1, none⟩ b).setCell ⟨w.heap.size, 2, none⟩ c) :=
  (((((Below.refl _ w).alloc (Nat.le_refl _) o).drew.trans (hb.mono (Nat.le_of_lt hK))).setCell (p := ⟨w.heap.size, 0, none⟩) (Nat.le_refl _) a).setCell (p := ⟨w.heap.size, 1, none⟩) (Nat.le_refl _) b).setCell (p := ⟨w.heap.size, 2, none⟩) (Nat.le_refl _) c
theorem res_size (w : World) (o : Obj) : w.heap.size < (w.alloc o).drew.heap.size := by
  show _ < (w.heap.push _).size; simp
theorem res_below0 (w : World) (o : Obj) (a b c : Value) :
    Below w.heap.size w ((((w.alloc o).setCell ⟨w.heap.size, 0, none⟩ a).setCell ⟨w.heap.size, 1, none⟩ b).setCell ⟨w.heap.size, 2, none⟩ c) :=
  ((((Below.refl _ w).alloc (Nat.le_refl _) o).setCell (p := ⟨w.heap.size, 0, none⟩) (Nat.le_refl _) a).setCell (p := ⟨w.heap.size, 1, none⟩) (Nat.le_refl _) b).setCell (p := ⟨w.heap.size, 2, none⟩) (Nat.le_refl _) c

/-- A decoded string as the model and the program lay it. -/
def textV (s : ByteArray) (at' code : Int) : Value := .agg #[.string s, .int .i64 at', .int .i64 code]

end Go.Proofs.YtnjfbokomihecaaDoor

namespace Go.Proofs.YtnjfbokomihecaaDoor
open Go

theorem xor_comm64 (a b : Int) : bits BinOp.xor IntKind.u64 a b = bits BinOp.xor IntKind.u64 b a := by
  simp only [bits, BitVec.xor_comm]

theorem zz_pos (n : Int) (h0 : 0 ≤ n) (h1 : n ≤ 9223372036854775807) : bits BinOp.xor IntKind.u64 (n * 2) (n / 9223372036854775808) = (Lib.zigzag n : Int) := by
  have e : n / 9223372036854775808 = ((0 : Nat) : Int) := by omega
  have e2 : n * 2 = (((n * 2).toNat : Nat) : Int) := by omega
  rw [e, e2, bits_xor_u64_nat _ _ (by omega) (by omega), Nat.xor_zero, Lib.zigzag_nonneg h0]
  omega

theorem zz_neg (n : Int) (h0 : n < 0) (h1 : -9223372036854775808 ≤ n) :
    bits BinOp.xor IntKind.u64 (IntKind.u64.wrap (IntKind.u64.wrap n * 2)) (IntKind.u64.wrap (n / 9223372036854775808)) = (Lib.zigzag n : Int) := by
  have e : n / 9223372036854775808 = -1 := by omega
  rw [e, xor_comm64, show IntKind.u64.wrap (-1) = IntKind.u64.max by decide, Lib.zigzag_neg h1 h0]

theorem zz_fold (n : Int) (h0 : 0 ≤ n) : 2 * n = (Lib.zigzag n : Int) := by rw [Lib.zigzag_nonneg h0]; omega
theorem zz_foldn (n : Int) (h0 : n < 0) : 2 * -(n + 1) + 1 = (Lib.zigzag n : Int) := by
  unfold Lib.zigzag; rw [if_neg (by omega)]; omega

/-- 2 ^ 64, behind a name. -/
def lim64 : Nat := 18446744073709551616

def moreB (x : Nat) : UInt8 := (x % 128 + 128).toUInt8
def lastB (x : Nat) : UInt8 := x.toUInt8
theorem var_more (l : List UInt8) (x : Nat) (h : 128 ≤ x) : (l ++ [moreB x]) ++ Lib.uvarint (x / 128) = l ++ Lib.uvarint x := by
  rw [Lib.uvarint_big h]; simp [moreB]
theorem var_last (l : List UInt8) (x : Nat) (h : x < 128) : l ++ [lastB x] = l ++ Lib.uvarint x := by
  rw [Lib.uvarint_small h]; rfl
theorem var_len (l : List UInt8) (x x0 : Nat) (h0 : x0 < lim64) (h : l ++ Lib.uvarint x = Lib.uvarint x0) : l.length + 1 ≤ 10 := by
  have a := Lib.uvarint_length64 (x := x0) h0
  have b := Lib.uvarint_pos x
  have c := congrArg List.length h
  simp at c; omega
theorem zz_lt (n : Int) (h0 : -9223372036854775808 ≤ n) (h1 : n ≤ 9223372036854775807) : Lib.zigzag n < lim64 := Lib.zigzag_lt h0 h1
theorem div_lt (x : Nat) (h : x < lim64) : x / 128 < lim64 := Nat.lt_of_le_of_lt (Nat.div_le_self _ _) h
theorem byte_more (x : Nat) : (x : Int) % 128 + 128 = ((moreB x).toNat : Int) := by
  unfold moreB; simp; omega
theorem byte_more2 (x : Nat) : bits BinOp.or IntKind.u8 ((x : Int) % 256) 128 = ((moreB x).toNat : Int) := by
  rw [Lib.u8_or128_any _ (by omega) (by omega), ← byte_more]; omega
theorem byte_last (x : Nat) (h : x < 128) : (x : Int) = ((lastB x).toNat : Int) := by
  unfold lastB; simp; omega
theorem wrap_div (x : Nat) (h : x < lim64) : IntKind.u64.wrap ((x : Int) / 128) = ((x / 128 : Nat) : Int) := by
  unfold lim64 at h; rw [IntKind.wrap_u64]; omega
end Go.Proofs.YtnjfbokomihecaaDoor

namespace Go.Proofs.YtnjfbokomihecaaDoor
open Go.RowKit

set_option maxHeartbeats 400000 in
set_option maxRecDepth 100000 in
theorem fold_any (n : Int) (w : World) (h0 : -9223372036854775808 ≤ n) (h1 : n ≤ 9223372036854775807) :
    Calls Tryd.prog 55 #[.int .i64 n] w fun e w' => e = .returned (.int .u64 (Lib.zigzag n)) ∧ w = w' := by
  by_cases h : 0 ≤ n
  · have H := Lib.hid (zz_fold n h)
    go_enter Tryd.func55, Tryd.ntmps55
    go_wp2
    go_ret
    exact ⟨ret_int H.out, rfl⟩
  · have H := Lib.hid (zz_foldn n (by omega))
    go_enter Tryd.func55, Tryd.ntmps55
    go_wp2
    go_ret
    exact ⟨ret_int H.out, rfl⟩

def SpecRel (w : World) (x0 : Nat) (u v : Value) (wr : World) : Prop :=
  ∃ (x : Nat) (l : List UInt8), x < lim64 ∧ u = .int .u64 x ∧ wr.ownsRow w.heap.size 5 1 v l.length (l.map B) ∧ Below w.heap.size w wr ∧ l ++ Lib.uvarint x = Lib.uvarint x0

set_option maxHeartbeats 400000 in
set_option maxRecDepth 100000 in
theorem specPut_any (n : Int) (w : World) (h0 : -9223372036854775808 ≤ n) (h1 : n ≤ 9223372036854775807) :
    Calls Tryd.prog 46 #[.int .i64 n] w fun e w' => e = .returned (.string ⟨(Lib.uvarint (Lib.zigzag n)).toArray⟩) ∧ Below w.heap.size w w' := by
  obtain ⟨i0, hi, hz0, hz1, hz2⟩ := info_parts Tryd.info5
  have hx0 : Lib.zigzag n < lim64 := zz_lt n h0 h1
  obtain ⟨str, hstr⟩ : ∃ str : ByteArray, str = ⟨(Lib.uvarint (Lib.zigzag n)).toArray⟩ := ⟨_, rfl⟩
  rw [← hstr]
  have HSTR := Lib.hid hstr
  clear hstr
  go_enter Tryd.func46, Tryd.ntmps46
  go_wp2_with fail
  refine (fold_any n _ h0 h1).mono ?_
  rintro e w' ⟨rfl, rfl⟩
  clear h0 h1
  generalize Lib.zigzag n = x0 at *
  go_wp2_with fail
  go_loopw [3, 4] (fun u v wr => SpecRel w x0 u v wr) (fun u _ _ => (intOf u).toNat)
  case atStart => exact ⟨x0, [], hx0, rfl, World.ownsRow_lit w #[] 0 (Nat.le_refl _) (by decide) rfl, (Below.refl _ _).alloc (Nat.le_refl _) _, rfl⟩
  case round =>
    obtain ⟨x, l, hx, rfl, hown, hbel, hl⟩ := hrel
    have hlen := var_len l x x0 hx0 hl
    have hsz := hbel.size
    have HL := Lib.hid hl
    have HX := Lib.hid hx
    have HX0 := Lib.hid hx0
    clear hl hx hx0
    by_cases h128 : 128 ≤ x
    · go_wp2_with (at_builtin; refine wpList_append_own _ rfl _ _ 22 rfl w.heap.size 5 i0 (.int .u8 0) 1 1 Tryd.underlying22 hi hz0 hz1 hz2 rfl (by decide) _ _ _ rfl (hown.alloc _) ⟨wr.heap.size, 0, none⟩ 1 1 [B (moreB x)] rfl rfl ?c1 ?c2 ?c3 ?c4 ?c5 ?_)
      case c1 => exact one_cell _ _ _ (val_int (byte_more x))
      case c2 => intro u hu; simp at hu; subst hu; rfl
      case c3 => unfold maxLen; omega
      case c4 => omega
      case c5 => simp; omega
      intro v' w1 hown' hgrow _
      have hb1 := (hbel.alloc hsz _).grown hgrow (by simp; omega) (owned_below hown)
      have HO := Lib.hid hown'
      clear hown' hgrow hown hbel
      go_wp2
      go_roundw
      case rel => exact ⟨x / 128, l ++ [moreB x], div_lt x HX.out, val_int (wrap_div x HX.out), by simpa using HO.out, hb1, by rw [var_more l x h128]; exact HL.out⟩
      case measure => rw [wrap_div x HX.out]; simp [intOf]; omega
    · go_wp2_with (at_builtin; refine wpList_append_own _ rfl _ _ 22 rfl w.heap.size 5 i0 (.int .u8 0) 1 1 Tryd.underlying22 hi hz0 hz1 hz2 rfl (by decide) _ _ _ rfl (hown.alloc _) ⟨wr.heap.size, 0, none⟩ 1 1 [B (lastB x)] rfl rfl ?d1 ?d2 ?d3 ?d4 ?d5 ?_)
      case d1 => exact one_cell _ _ _ (val_int (byte_last x (by omega)))
      case d2 => intro u hu; simp at hu; subst hu; rfl
      case d3 => unfold maxLen; omega
      case d4 => omega
      case d5 => simp; omega
      intro v' w1 hown' hgrow _
      have hb1 := (hbel.alloc hsz _).grown hgrow (by simp; omega) (owned_below hown)
      obtain ⟨g, cap, rfl⟩ := owned_shape hown' (by omega)
      have conv := conv_row (c := cap) hown' (l ++ [lastB x]) (l.length + 1) (by simp) (Nat.le_refl _) (by rw [List.take_of_length_le (by simp)]; simp)
      rw [var_last l x (by omega), HL.out, ← HSTR.out] at conv
      clear hown' hgrow hown hbel
      go_wp2
      go_ret
      exact ⟨rfl, hb1⟩

def ImplRel (w : World) (x0 : Nat) (u c : Value) (wr : World) : Prop :=
  ∃ (x : Nat) (l : List UInt8) (xs : List Value), x < lim64 ∧ u = .int .u64 x ∧ c = .int .i64 l.length ∧ wr.ownsRow w.heap.size 74 1 (.slice (some ⟨w.heap.size, 0, none⟩) 10 10) 10 xs ∧ xs.take l.length = l.map B ∧ Below w.heap.size w wr ∧ l ++ Lib.uvarint x = Lib.uvarint x0

theorem Tryd.und37 : Tryd.prog.underlying 74 = some (.array (Tryd.prog.arrayLen 74) (Tryd.prog.elem 74)) := by kernel_rfl
theorem Tryd.len37 : Tryd.prog.arrayLen 74 = 10 := by kernel_rfl
theorem Tryd.size37 (w : World) : (sizeOf (Tryd.prog.elem 74)).run Tryd.prog w = .ok 1 w := by kernel_rfl
theorem sl37 (w : World) (a : Addr) (k : Nat) (h : k ≤ 9) : (Instr.sliceAt 74 (.pointer (some a)) none (some (.int .i64 ((k : Int) + 1))) none).run Tryd.prog w = .ok (.slice (some a) (k + 1) 10) w := by
  rw [run_sliceAt_array_h w 74 a Tryd.und37 .i64 ((k : Int) + 1) (by omega) (by rw [Tryd.len37]; omega), Tryd.size37, Tryd.len37]
  have e : ((k : Int) + 1).toNat = k + 1 := by omega
  simp [Result.andThen, slicedAt, e, Addr.add]

theorem take_set_more (xs : List Value) (l : List UInt8) (b : UInt8) (v : Value) (h : l.length < xs.length) (hx : xs.take l.length = l.map B) (hv : v = B b) :
    (xs.set l.length v).take (l ++ [b]).length = (l ++ [b]).map B := by
  subst hv
  rw [List.length_append, List.length_singleton, List.take_succ_eq_append_getElem (by simpa using h), List.take_set_of_le (Nat.le_refl _), hx]
  simp

set_option maxHeartbeats 400000 in
set_option maxRecDepth 100000 in
theorem implPut_pos (n : Int) (w : World) (h0 : 0 ≤ n) (h1 : n ≤ 9223372036854775807) :
    Calls Tryd.prog 22 #[.int .i64 n] w fun e w' => e = .returned (.string ⟨(Lib.uvarint (Lib.zigzag n)).toArray⟩) ∧ Below w.heap.size w w' := by
  have hx0 : Lib.zigzag n < lim64 := zz_lt n (by omega) (by omega)
  have HZ := Lib.hid (zz_pos n h0 h1)
  obtain ⟨str, hstr⟩ : ∃ str : ByteArray, str = ⟨(Lib.uvarint (Lib.zigzag n)).toArray⟩ := ⟨_, rfl⟩
  rw [← hstr]
  have HSTR := Lib.hid hstr
  clear hstr
  generalize Lib.zigzag n = x0 at *
  go_enter Tryd.func22, Tryd.ntmps22
  go_wp2_with fail
  go_loopw [3, 5] (fun u c wr => ImplRel w x0 u c wr) (fun u _ _ => (intOf u).toNat)
  case atStart => exact ⟨x0, [], _, hx0, val_int HZ.out, rfl, World.ownsRow_lit w _ 10 (Nat.le_refl _) (by decide) rfl, rfl, (Below.refl _ _).alloc (Nat.le_refl _) _, rfl⟩
  case round =>
    clear HZ
    obtain ⟨x, l, xs, hx, rfl, rfl, hown, hxs, hbel, hl⟩ := hrel
    have hlen := var_len l x x0 hx0 hl
    have hc := hown.cellAt l.length (by omega)
    have hf := hown.frozenAt l.length
    have hxl : xs.length = 10 := hown.1
    rw [List.getElem?_eq_getElem (by omega)] at hc
    generalize xs[l.length] = v0 at hc
    have HL := Lib.hid hl
    have HX := Lib.hid hx
    have HX0 := Lib.hid hx0
    have HXS := Lib.hid hxs
    have HXL := Lib.hid hxl
    clear hl hx hxs hxl hx0
    by_cases h128 : 128 ≤ x
    · have HO := Lib.hid (hown.stored l.length (.int .u8 (bits BinOp.or IntKind.u8 ((x : Int) % 256) 128))).1
      have HB := Lib.hid (hbel.setCell (p := ⟨w.heap.size, l.length, none⟩) (Nat.le_refl _) (.int .u8 (bits BinOp.or IntKind.u8 ((x : Int) % 256) 128)))
      clear hown hbel
      go_wp2
      go_roundw
      case rel => exact ⟨x / 128, l ++ [moreB x], _, div_lt x HX.out, by go_num, by simp, HO.out, take_set_more xs l _ _ (by rw [HXL.out]; omega) HXS.out (val_int (byte_more2 x)), HB.out, by rw [var_more l x h128]; exact HL.out⟩
      case measure => simp [intOf]; omega
    · have HO := (hown.stored l.length (.int .u8 (x : Int))).1
      have HB := Lib.hid (hbel.setCell (p := ⟨w.heap.size, l.length, none⟩) (Nat.le_refl _) (.int .u8 (x : Int)))
      have conv := conv_row (c := 10) HO (l ++ [lastB x]) (l.length + 1) (by simp) (by omega) (by
        have := take_set_more xs l (lastB x) (.int .u8 (x : Int)) (by rw [HXL.out]; omega) HXS.out (val_int (byte_last x (by omega)))
        simpa using this)
      rw [var_last l x (by omega), HL.out, ← HSTR.out] at conv
      have hsl := fun wx => sl37 wx ⟨w.heap.size, 0, none⟩ l.length (by omega)
      clear HO hown hbel
      go_wp2
      go_ret
      exact ⟨rfl, HB.out⟩

set_option maxHeartbeats 400000 in
set_option maxRecDepth 100000 in
theorem implPut_neg (n : Int) (w : World) (h0 : n < 0) (h1 : -9223372036854775808 ≤ n) :
    Calls Tryd.prog 22 #[.int .i64 n] w fun e w' => e = .returned (.string ⟨(Lib.uvarint (Lib.zigzag n)).toArray⟩) ∧ Below w.heap.size w w' := by
  have hx0 : Lib.zigzag n < lim64 := zz_lt n (by omega) (by omega)
  have HZ := Lib.hid (zz_neg n h0 h1)
  obtain ⟨str, hstr⟩ : ∃ str : ByteArray, str = ⟨(Lib.uvarint (Lib.zigzag n)).toArray⟩ := ⟨_, rfl⟩
  rw [← hstr]
  have HSTR := Lib.hid hstr
  clear hstr
  generalize Lib.zigzag n = x0 at *
  go_enter Tryd.func22, Tryd.ntmps22
  go_wp2_with fail
  go_loopw [3, 5] (fun u c wr => ImplRel w x0 u c wr) (fun u _ _ => (intOf u).toNat)
  case atStart => exact ⟨x0, [], _, hx0, val_int HZ.out, rfl, World.ownsRow_lit w _ 10 (Nat.le_refl _) (by decide) rfl, rfl, (Below.refl _ _).alloc (Nat.le_refl _) _, rfl⟩
  case round =>
    clear HZ
    obtain ⟨x, l, xs, hx, rfl, rfl, hown, hxs, hbel, hl⟩ := hrel
    have hlen := var_len l x x0 hx0 hl
    have hc := hown.cellAt l.length (by omega)
    have hf := hown.frozenAt l.length
    have hxl : xs.length = 10 := hown.1
    rw [List.getElem?_eq_getElem (by omega)] at hc
    generalize xs[l.length] = v0 at hc
    have HL := Lib.hid hl
    have HX := Lib.hid hx
    have HX0 := Lib.hid hx0
    have HXS := Lib.hid hxs
    have HXL := Lib.hid hxl
    clear hl hx hxs hxl hx0
    by_cases h128 : 128 ≤ x
    · have HO := Lib.hid (hown.stored l.length (.int .u8 (bits BinOp.or IntKind.u8 ((x : Int) % 256) 128))).1
      have HB := Lib.hid (hbel.setCell (p := ⟨w.heap.size, l.length, none⟩) (Nat.le_refl _) (.int .u8 (bits BinOp.or IntKind.u8 ((x : Int) % 256) 128)))
      clear hown hbel
      go_wp2
      go_roundw
      case rel => exact ⟨x / 128, l ++ [moreB x], _, div_lt x HX.out, by go_num, by simp, HO.out, take_set_more xs l _ _ (by rw [HXL.out]; omega) HXS.out (val_int (byte_more2 x)), HB.out, by rw [var_more l x h128]; exact HL.out⟩
      case measure => simp [intOf]; omega
    · have HO := (hown.stored l.length (.int .u8 (x : Int))).1
      have HB := Lib.hid (hbel.setCell (p := ⟨w.heap.size, l.length, none⟩) (Nat.le_refl _) (.int .u8 (x : Int)))
      have conv := conv_row (c := 10) HO (l ++ [lastB x]) (l.length + 1) (by simp) (by omega) (by
        have := take_set_more xs l (lastB x) (.int .u8 (x : Int)) (by rw [HXL.out]; omega) HXS.out (val_int (byte_last x (by omega)))
        simpa using this)
      rw [var_last l x (by omega), HL.out, ← HSTR.out] at conv
      have hsl := fun wx => sl37 wx ⟨w.heap.size, 0, none⟩ l.length (by omega)
      clear HO hown hbel
      go_wp2
      go_ret
      exact ⟨rfl, HB.out⟩

theorem implPut_any (n : Int) (w : World) (h0 : -9223372036854775808 ≤ n) (h1 : n ≤ 9223372036854775807) :
    Calls Tryd.prog 22 #[.int .i64 n] w fun e w' => e = .returned (.string ⟨(Lib.uvarint (Lib.zigzag n)).toArray⟩) ∧ Below w.heap.size w w' := by
  by_cases h : 0 ≤ n
  · exact implPut_pos n w h h1
  · exact implPut_neg n w (by omega) h0

/-- The bytes of an integer, behind a name. -/
def putS (n : Int) : ByteArray := ⟨(Lib.uvarint (Lib.zigzag n)).toArray⟩
theorem putS_size (n : Int) (h0 : -9223372036854775808 ≤ n) (h1 : n ≤ 9223372036854775807) : (putS n).size ≤ 10 := by
  have := Lib.uvarint_length64 (Lib.zigzag_lt h0 h1)
  simpa [putS, ByteArray.size] using this
theorem specPut (n : Int) (w : World) (h0 : -9223372036854775808 ≤ n) (h1 : n ≤ 9223372036854775807) :
    Calls Tryd.prog 46 #[.int .i64 n] w fun e w' => e = .returned (.string (putS n)) ∧ Below w.heap.size w w' := by
  unfold putS; exact specPut_any n w h0 h1
theorem implPut (n : Int) (w : World) (h0 : -9223372036854775808 ≤ n) (h1 : n ≤ 9223372036854775807) :
    Calls Tryd.prog 22 #[.int .i64 n] w fun e w' => e = .returned (.string (putS n)) ∧ Below w.heap.size w w' := by
  unfold putS; exact implPut_any n w h0 h1

end Go.Proofs.YtnjfbokomihecaaDoor

namespace Go.Proofs.YtnjfbokomihecaaDoor
open Go.RowKit

/-- copy of a string into a row that the call owns; the place is given by the prover. -/
theorem wpList_copy_str {P : Program} {w : World} {ops : Array Oper} {rest : List Oper} {o : Oper} {a : Act} {Q : Exit → Act → World → Prop} (hgd : o.guard = none) (d s : Operand) (dT sT : TypeId)
    (ho : o.op = .call { callee := .builtin .copy, args := #[d, s], argTypes := #[dT, sT] }) (elem : TypeId) (hu : P.underlying dT = some (.slice elem)) (hsz : (P.info? elem).map (·.size) = some 1)
    (dp : Option Addr) (dLen dCap : Nat) (str : ByteArray) (hd : a.eval d = .slice dp dLen dCap) (hs : a.eval s = .string str)
    (g off : Nat) (cur : List Value) (t : TypeId) (hg : w.heap[g]? = some (.cells cur.toArray t (0, 0))) (hle : str.size ≤ dLen)
    (hpos : 0 < str.size → dp = some ⟨g, off, none⟩) (hfit : off + str.size ≤ cur.length) (B : Nat) (w0 : World) (hb : Below B w0 w) (hBg : B ≤ g)
    (h : ∀ w', Hid (w'.heap[g]? = some (.cells (splice cur off (Lib.byteCells str.data.toList)).toArray t (0, 0))) → Below B w0 w' → wpList P ops Q rest (a.put o.dst (goInt str.size)) w') :
    wpList P ops Q (o :: rest) a w := by
  have hlen : (Lib.byteCells str.data.toList).length = str.size := by rw [Lib.byteCells_length, ← Lib.size_eq]
  refine wpList_plain hgd fun K hK => ?_
  by_cases h0 : str.size = 0
  · have hrun := Lib.run_copy_empty_string (P := P) w dT sT o.type elem dp dLen dCap str hu (by simp [hsz]) h0
    have hnil : Lib.byteCells str.data.toList = [] := List.eq_nil_of_length_eq_zero (by rw [hlen, h0])
    unfold Oper.wp
    simp [execOp, ho, resolve, invoke, builtin, hd, hs, hrun, Result.andThen]
    refine hK _ _ ?_
    have := h w (show _ = _ by rw [hnil]; simpa [splice] using hg) hb
    rw [h0] at this
    exact this
  · obtain rfl := hpos (by omega)
    have hrun := Lib.run_copy_row_string (P := P) w dT sT o.type elem g off dLen dCap str cur.toArray t hu hsz hg hle (by simpa using hfit)
    unfold Oper.wp
    simp [execOp, ho, resolve, invoke, builtin, hd, hs, hrun, Result.andThen]
    refine hK _ _ (h _ (show _ = _ by simpa [splice, hlen] using setRow_heap w g _ _ t _ hg) (below_setRow hb hBg _))

theorem Tryd.size5 : (Tryd.prog.info? 5).map (·.size) = some 1 := by kernel_rfl

theorem cells_B (s : ByteArray) : Lib.byteCells s.data.toList = s.data.toList.map B := rfl
theorem str_app (a b : ByteArray) : (⟨(a.data.toList ++ b.data.toList).toArray⟩ : ByteArray) = a ++ b := by
  apply ByteArray.ext; simp
theorem splice_two (Z X Y : List Value) (hZ : Z.length = X.length + Y.length) : splice (splice Z 0 X) X.length Y = X ++ Y := by
  unfold splice; simp; omega

set_option maxHeartbeats 400000 in
theorem joined_pos (a b : ByteArray) (w : World) (h : a.size + b.size ≤ 10000) (h0 : 0 < b.size) :
    Calls Tryd.prog 41 #[.string a, .string b] w fun e w' => e = .returned (.string (a ++ b)) ∧ Below w.heap.size w w' := by
  obtain ⟨i0, hi, hz0, hz1, hz2⟩ := info_parts Tryd.info5
  have hne : ¬ b = ByteArray.empty := by rintro rfl; simp at h0
  obtain ⟨str, hstr⟩ : ∃ str, str = a ++ b := ⟨_, rfl⟩
  rw [← hstr]
  have HS := Lib.hid hstr
  clear hstr
  go_enter Tryd.func41, Tryd.ntmps41
  go_wp2_with (at_make; refine wpList_make_full _ rfl _ _ 22 rfl w.heap.size 5 i0 (.int .u8 0) 1 Tryd.underlying22 hi hz0 hz1 .i64 .i64 _ _ (a.size + b.size) rfl rfl (by omega) (by omega) (by rw [hz2]; omega) (by unfold maxLen; omega) (Nat.le_refl _) ?_)
  intro w1 hown1 hgrow1
  have hb1 : Below w.heap.size w w1 := (Below.refl _ w).grown hgrow1 (Nat.le_refl _) (by simp)
  obtain ⟨Z, hg1, hl1⟩ : ∃ Z : List Value, w1.heap[w.heap.size]? = some (.cells Z.toArray 5 (0, 0)) ∧ Z.length = a.size + b.size := ⟨_, own_block hown1, by simpa using hown1.1⟩
  have HG1 := Lib.hid hg1
  have HL1 := Lib.hid hl1
  clear hown1 hgrow1 hg1 hl1 hi hz0 hz1 hz2
  go_wp2_with ((with_reducible show wpList _ _ _ (⟨some 15, _, _, _, _, _⟩ :: _) _ _); refine wpList_copy_str rfl (.tmp 13) (.tmp 14) 22 9 rfl 5 Tryd.underlying22 Tryd.size5 (some ⟨w.heap.size, 0, none⟩) (a.size + b.size) (a.size + b.size) a rfl rfl w.heap.size 0 Z 5 HG1.out (by omega) (fun _ => rfl) (by have := HL1.out; omega) w.heap.size w hb1 (Nat.le_refl _) ?_)
  intro w2 HG2 hb2
  clear hb1
  have HL2 := Lib.hid (length_splice Z 0 (Lib.byteCells a.data.toList) (by rw [HL1.out, Lib.byteCells_length, ← Lib.size_eq]; omega))
  go_wp2_with ((with_reducible show wpList _ _ _ (⟨some 18, _, _, _, _, _⟩ :: _) _ _); refine wpList_copy_str rfl (.tmp 16) (.tmp 17) 22 9 rfl 5 Tryd.underlying22 Tryd.size5 (some ⟨w.heap.size, a.size, none⟩) b.size b.size b rfl rfl w.heap.size a.size _ 5 HG2.out (Nat.le_refl _) (fun _ => rfl) (by rw [HL2.out, HL1.out]; omega) w.heap.size w hb2 (Nat.le_refl _) ?_)
  intro w3 HG3 hb3
  have conv := conv_block (c := a.size + b.size) HG3.out (a.data.toList ++ b.data.toList) (a.size + b.size) (by rw [List.length_append, ← Lib.size_eq, ← Lib.size_eq]) (by
    have e : a.size = (Lib.byteCells a.data.toList).length := by rw [Lib.byteCells_length, ← Lib.size_eq]
    rw [e, splice_two _ _ _ (by rw [HL1.out, Lib.byteCells_length, Lib.byteCells_length, ← Lib.size_eq, ← Lib.size_eq]), cells_B, cells_B, List.map_append])
  rw [str_app, ← HS.out] at conv
  clear HG3 HG2 HG1 hb2 HL1 HL2
  go_wp2
  go_ret
  exact ⟨rfl, hb3⟩

set_option maxHeartbeats 400000 in
theorem joined_nil (a : ByteArray) (w : World) (h : a.size ≤ 10000) :
    Calls Tryd.prog 41 #[.string a, .string ByteArray.empty] w fun e w' => e = .returned (.string a) ∧ Below w.heap.size w w' := by
  obtain ⟨i0, hi, hz0, hz1, hz2⟩ := info_parts Tryd.info5
  go_enter Tryd.func41, Tryd.ntmps41
  go_wp2_with (at_make; refine wpList_make_full _ rfl _ _ 22 rfl w.heap.size 5 i0 (.int .u8 0) 1 Tryd.underlying22 hi hz0 hz1 .i64 .i64 _ _ a.size rfl rfl (by omega) (by omega) (by rw [hz2]; omega) (by unfold maxLen; omega) (Nat.le_refl _) ?_)
  intro w1 hown1 hgrow1
  have hb1 : Below w.heap.size w w1 := (Below.refl _ w).grown hgrow1 (Nat.le_refl _) (by simp)
  obtain ⟨Z, hg1, hl1⟩ : ∃ Z : List Value, w1.heap[w.heap.size]? = some (.cells Z.toArray 5 (0, 0)) ∧ Z.length = a.size := ⟨_, own_block hown1, by simpa using hown1.1⟩
  have HG1 := Lib.hid hg1
  have HL1 := Lib.hid hl1
  clear hown1 hgrow1 hg1 hl1 hi hz0 hz1 hz2
  go_wp2_with ((with_reducible show wpList _ _ _ (⟨some 15, _, _, _, _, _⟩ :: _) _ _); refine wpList_copy_str rfl (.tmp 13) (.tmp 14) 22 9 rfl 5 Tryd.underlying22 Tryd.size5 (some ⟨w.heap.size, 0, none⟩) a.size a.size a rfl rfl w.heap.size 0 Z 5 HG1.out (by omega) (fun _ => rfl) (by have := HL1.out; omega) w.heap.size w hb1 (Nat.le_refl _) ?_)
  intro w2 HG2 hb2
  clear hb1
  have HL2 := Lib.hid (length_splice Z 0 (Lib.byteCells a.data.toList) (by rw [HL1.out, Lib.byteCells_length, ← Lib.size_eq]; omega))
  go_wp2_with ((with_reducible show wpList _ _ _ (⟨some 18, _, _, _, _, _⟩ :: _) _ _); refine wpList_copy_str rfl (.tmp 16) (.tmp 17) 22 9 rfl 5 Tryd.underlying22 Tryd.size5 (some ⟨w.heap.size, 0, none⟩) 0 0 ByteArray.empty rfl rfl w.heap.size 0 _ 5 HG2.out (Nat.le_refl _) (fun h => absurd h (by simp)) (by rw [HL2.out]; simp) w.heap.size w hb2 (Nat.le_refl _) ?_)
  intro w3 HG3 hb3
  have conv := conv_block (c := a.size) HG3.out a.data.toList a.size (Lib.size_eq a) (by
    have e0 : Lib.byteCells [] = [] := rfl
    have e : (Lib.byteCells a.data.toList).length = a.size := by rw [Lib.byteCells_length, ← Lib.size_eq]
    rw [e0, cells_B]; rw [cells_B] at e
    have := HL1.out
    simp [splice] at e ⊢
    omega)
  have e2 : (⟨a.data.toList.toArray⟩ : ByteArray) = a := by apply ByteArray.ext; simp
  rw [e2] at conv
  clear HG3 HG2 HG1 hb2 HL1 HL2 e2
  go_wp2
  go_ret
  exact ⟨rfl, hb3⟩

theorem joined_any (a b : ByteArray) (w : World) (h : a.size + b.size ≤ 10000) :
    Calls Tryd.prog 41 #[.string a, .string b] w fun e w' => e = .returned (.string (a ++ b)) ∧ Below w.heap.size w w' := by
  by_cases h0 : 0 < b.size
  · exact joined_pos a b w h h0
  · obtain rfl : b = ByteArray.empty := by
      apply ByteArray.ext; apply Array.eq_empty_of_size_eq_zero; exact Nat.eq_zero_of_not_pos h0
    rw [show a ++ ByteArray.empty = a by apply ByteArray.ext; simp]
    exact joined_nil a w (by omega)
end Go.Proofs.YtnjfbokomihecaaDoor

namespace Go.Proofs.YtnjfbokomihecaaDoor
open Go.RowKit

set_option maxHeartbeats 400000 in
theorem specText_any (t : ByteArray) (w : World) (ht : t.size ≤ 8000) :
    Calls Tryd.prog 47 #[.string t] w fun e w' => e = .returned (.string (putS t.size ++ t)) ∧ Below w.heap.size w w' := by
  have hp := putS_size t.size (by omega) (by omega)
  go_enter Tryd.func47, Tryd.ntmps47
  go_wp2_with fail
  refine (specPut t.size _ (by omega) (by omega)).mono ?_
  rintro e w1 ⟨rfl, hb1⟩
  go_wp2_with fail
  go_ret
  exact ⟨rfl, hb1⟩

set_option maxHeartbeats 400000 in
theorem implText_any (t : ByteArray) (w : World) (ht : t.size ≤ 8000) :
    Calls Tryd.prog 23 #[.string t] w fun e w' => e = .returned (.string (putS t.size ++ t)) ∧ Below w.heap.size w w' := by
  have hp := putS_size t.size (by omega) (by omega)
  go_enter Tryd.func23, Tryd.ntmps23
  go_wp2_with fail
  refine (implPut t.size _ (by omega) (by omega)).mono ?_
  rintro e w1 ⟨rfl, hb1⟩
  go_wp2_with fail
  refine (joined_any (putS t.size) t _ (by omega)).mono ?_
  rintro e w2 ⟨rfl, hb2⟩
  have hb := hb1.trans (hb2.mono hb1.size)
  clear hb1 hb2
  go_wp2_with fail
  go_ret
  exact ⟨rfl, hb⟩

set_option maxHeartbeats 400000 in
theorem specText_long (t : ByteArray) (w : World) (hs : t.size ≤ maxLen) (ht : 8000 < t.size) :
    Calls Tryd.prog 47 #[.string t] w fun e w' => e = .returned (.string ⟨#[]⟩) ∧ w = w' := by
  unfold maxLen at hs
  go_enter Tryd.func47, Tryd.ntmps47
  go_wp2_with fail
  go_ret
  exact ⟨rfl, rfl⟩
set_option maxHeartbeats 400000 in
theorem implText_long (t : ByteArray) (w : World) (hs : t.size ≤ maxLen) (ht : 8000 < t.size) :
    Calls Tryd.prog 23 #[.string t] w fun e w' => e = .returned (.string ⟨#[]⟩) ∧ w = w' := by
  unfold maxLen at hs
  go_enter Tryd.func23, Tryd.ntmps23
  go_wp2_with fail
  go_ret
  exact ⟨rfl, rfl⟩

end Go.Proofs.YtnjfbokomihecaaDoor

namespace Go.Proofs.YtnjfbokomihecaaDoor
open Go.RowKit

def bitF (n : Int) : Int := if (bits BinOp.and IntKind.u32 n 1 == 1) = true then bits BinOp.xor IntKind.u32 (n / 2) 3988292384 else n / 2
def bitsF : Nat → Int → Int
  | 0, n => n
  | k + 1, n => bitF (bitsF k n)
def byteF (r b : Int) : Int := bitsF 8 (bits BinOp.xor IntKind.u32 r (b % 4294967296))
def regF (s : ByteArray) (r : Int) : Nat → Int
  | 0 => r
  | k + 1 => byteF (regF s r k) (bt s k)
theorem bitsF_yes (k : Nat) (n : Int) (h : (bits BinOp.and IntKind.u32 (bitsF k n) 1 == 1) = true) : bits BinOp.xor IntKind.u32 (bitsF k n / 2) 3988292384 = bitsF (k + 1) n := by
  simp only [bitsF, bitF]; rw [if_pos h]
theorem bitsF_no (k : Nat) (n : Int) (h : (bits BinOp.and IntKind.u32 (bitsF k n) 1 == 1) = false) : bitsF k n / 2 = bitsF (k + 1) n := by
  simp only [bitsF, bitF]; rw [if_neg (by rw [h]; simp)]
theorem xor_comm32 (a b : Int) : bits BinOp.xor IntKind.u32 a b = bits BinOp.xor IntKind.u32 b a := by
  simp only [bits, BitVec.xor_comm]
theorem max32 (a : Int) : bits BinOp.xor IntKind.u32 IntKind.u32.max a = bits BinOp.xor IntKind.u32 a 4294967295 := by
  rw [xor_comm32, show IntKind.u32.max = 4294967295 by decide]
def crcF (c : Int) (s : ByteArray) : Int := wrap64 (bits BinOp.xor IntKind.u32 (regF s (bits BinOp.xor IntKind.u32 c 4294967295) s.size) 4294967295)
theorem regF_succ (s : ByteArray) (r : Int) (k : Nat) (h : k < s.size) : regF s r (k + 1) = bitsF 8 (bits BinOp.xor IntKind.u32 (regF s r k) ((s[k].toNat : Int) % 4294967296)) := by
  rw [bt_at s k h]; rfl
theorem regF_succ' (s : ByteArray) (r : Int) (k : Nat) (h : k < s.size) : byteF (regF s r k) (s[k].toNat : Int) = regF s r (k + 1) := by
  rw [bt_at s k h]; rfl

end Go.Proofs.YtnjfbokomihecaaDoor

namespace Go.Proofs.YtnjfbokomihecaaDoor
open Go.RowKit

def octet (c : Int) : UInt8 := (c % 256).toNat.toUInt8
def fourL (c : Int) : List UInt8 := [octet c, octet (c / 256), octet (c / 65536), octet (c / 16777216)]
/-- Four bytes, the least first. -/
def fourS (c : Int) : ByteArray := ⟨(fourL c).toArray⟩
theorem octet_val (c : Int) : c % 256 = ((octet c).toNat : Int) := by unfold octet; simp; omega
theorem octet_top (c : Int) (h0 : 0 ≤ c) (h1 : c ≤ 4294967295) : c / 16777216 = ((octet (c / 16777216)).toNat : Int) := by rw [← octet_val]; omega
theorem crcF_bound (c : Int) (s : ByteArray) : 0 ≤ crcF c s ∧ crcF c s ≤ 4294967295 := by
  unfold crcF
  generalize regF s (bits BinOp.xor IntKind.u32 c 4294967295) s.size = r
  have a := bits_lo_u32 BinOp.xor r 4294967295
  have b := bits_hi_u32 BinOp.xor r 4294967295
  generalize bits BinOp.xor IntKind.u32 r 4294967295 = x at *
  rw [IntWalk.wrap64_in x (by omega)]
  exact ⟨a, b⟩

theorem set_take (xs : List Value) (k : Nat) (c : Int) (v : Value) (u : UInt8) (h : k < xs.length) (hk : (fourL c)[k]? = some u) (hx : xs.take k = ((fourL c).take k).map B) (hv : v = B u) :
    (xs.set k v).take (k + 1) = ((fourL c).take (k + 1)).map B := by
  subst hv
  obtain ⟨hk', rfl⟩ := List.getElem?_eq_some_iff.1 hk
  rw [List.take_succ_eq_append_getElem (by simpa using h), List.take_set_of_le (Nat.le_refl _), hx, List.take_succ_eq_append_getElem hk', List.map_append]
  simp

theorem fourS_size (c : Int) : (fourS c).size = 4 := rfl

end Go.Proofs.YtnjfbokomihecaaDoor

namespace Go.Proofs.YtnjfbokomihecaaDoor
open Go.RowKit

/-- v 0 .. v (n - 1) as cells. -/
def cellsV (n : Nat) (v : Nat → Value) : Array Value := ((List.range n).map v).toArray
theorem cellsV_size (n : Nat) (v : Nat → Value) : (cellsV n v).size = n := by simp [cellsV]
theorem cellsV_at (n : Nat) (v : Nat → Value) (j : Nat) (h : j < n) : (cellsV n v)[j]? = some (v j) := by simp [cellsV, h]
theorem cellsV_list (n : Nat) (v : Nat → Value) : (cellsV n v).toList = (List.range n).map v := by simp [cellsV]
/-- Block g holds v 0 .. v (n - 1), laid as cells of the type T. -/
def CellsAt (wr : World) (g : Nat) (T : TypeId) (n : Nat) (v : Nat → Value) : Prop := wr.heap[g]? = some (.cells (cellsV n v) T (0, 0))
theorem CellsAt.cell {wr : World} {g n : Nat} {T : TypeId} {v : Nat → Value} (h : CellsAt wr g T n v) (j : Nat) (hj : j < n) : wr.cell? ⟨g, j, none⟩ = some (v j) := by
  rw [cell_of_row wr g j _ T (0, 0) h, cellsV_at n v j hj]
theorem CellsAt.frozen {wr : World} {g n : Nat} {T : TypeId} {v : Nat → Value} (h : CellsAt wr g T n v) (j : Nat) : wr.frozen? ⟨g, j, none⟩ = false := frozen_of_row wr g j _ T h
theorem CellsAt.lt {wr : World} {g n : Nat} {T : TypeId} {v : Nat → Value} (h : CellsAt wr g T n v) : g < wr.heap.size := (Array.getElem?_eq_some_iff.1 h).1
theorem CellsAt.set {wr : World} {g n : Nat} {T : TypeId} {v v' : Nat → Value} (h : CellsAt wr g T n v) (j : Nat) (x : Value) (hx : v' j = x) (hf : ∀ i, i ≠ j → v' i = v i) : CellsAt (wr.setCell ⟨g, j, none⟩ x) g T n v' := by
  unfold CellsAt
  rw [heap_setCell_same wr g j _ T x h]
  congr 2
  apply Array.ext_getElem?
  intro i
  unfold cellsV
  simp only [List.setIfInBounds_toArray, List.getElem?_toArray, List.getElem?_set, List.length_map, List.length_range]
  by_cases hi : j = i
  · subst hi; by_cases hj : j < n <;> simp [hj, hx]
  · rw [if_neg hi]; by_cases hn : i < n
    · simp [hn, hf i (fun e => hi e.symm)]
    · simp [hn]
theorem cellsV_congr {n : Nat} {v v' : Nat → Value} (hf : ∀ i, i < n → v' i = v i) : cellsV n v' = cellsV n v := by
  unfold cellsV; congr 1
  apply List.map_congr_left; intro i hi; rw [hf i (by simpa using hi)]
theorem CellsAt.congr {wr : World} {g n : Nat} {T : TypeId} {v v' : Nat → Value} (h : CellsAt wr g T n v) (hf : ∀ i, i < n → v' i = v i) : CellsAt wr g T n v' := by
  unfold CellsAt at *; rw [h, cellsV_congr hf]
theorem CellsAt.below {wr wr' : World} {g n B : Nat} {T : TypeId} {v : Nat → Value} (h : CellsAt wr g T n v) (hb : Below B wr wr') (hg : g < B) : CellsAt wr' g T n v := (hb.block g hg).trans h
theorem CellsAt.drew {wr : World} {g n : Nat} {T : TypeId} {v : Nat → Value} (h : CellsAt wr g T n v) : CellsAt wr.drew g T n v := h
theorem CellsAt.drewN {wr : World} {g n m : Nat} {T : TypeId} {v : Nat → Value} (h : CellsAt wr g T n v) : CellsAt (wr.drewN m) g T n v := h
theorem cellsAt_new (W : World) (g n : Nat) (T : TypeId) (v : Nat → Value) (hg : W.heap.size = g) {cs : Array Value} (hc : cs = cellsV n v) : CellsAt (W.alloc (.cells cs T)) g T n v := by
  subst hg; subst hc; exact heap_alloc_new W _
/-- A list known whole as such a block. -/
theorem cellsAt_list {wr : World} {g : Nat} {T : TypeId} {xs : List Value} (h : wr.heap[g]? = some (.cells xs.toArray T (0, 0))) (n : Nat) (v : Nat → Value) (hn : xs.length = n) (hv : ∀ j, j < n → xs[j]? = some (v j)) : CellsAt wr g T n v := by
  unfold CellsAt; rw [h]; congr 2
  apply Array.ext_getElem?
  intro j
  by_cases hj : j < n
  · rw [cellsV_at n v j hj]; simpa using hv j hj
  · rw [Array.getElem?_eq_none (by simp; omega), Array.getElem?_eq_none (by rw [cellsV_size]; omega)]
end Go.Proofs.YtnjfbokomihecaaDoor

namespace Go.Proofs.YtnjfbokomihecaaDoor
open Go.RowKit

/-- v is a slice of n elements of sz cells, which read as xs. -/
def Rd (w : World) (v : Value) (n sz : Nat) (xs : List Value) : Prop :=
  xs.length = n * sz ∧ ∃ a c, v = .slice a n c ∧ (0 < n → ∃ b off, a = some ⟨b, off, none⟩ ∧ b < w.heap.size ∧ ∀ j, j < n * sz → w.cell? ⟨b, off + j, none⟩ = xs[j]?)
/-- The same, its block made since the heap had lo blocks, and free to be written. -/
def Own (w : World) (lo : Nat) (v : Value) (n sz : Nat) (xs : List Value) : Prop :=
  xs.length = n * sz ∧ ∃ a c, v = .slice a n c ∧ (0 < n → ∃ b off, a = some ⟨b, off, none⟩ ∧ lo ≤ b ∧ b < w.heap.size ∧ (∀ j, j < n * sz → w.cell? ⟨b, off + j, none⟩ = xs[j]?) ∧ ∀ j, j < n * sz → w.frozen? ⟨b, off + j, none⟩ = false)
theorem Own.rd {w : World} {lo n sz : Nat} {v : Value} {xs : List Value} (h : Own w lo v n sz xs) : Rd w v n sz xs := by
  obtain ⟨h1, a, c, rfl, h2⟩ := h
  exact ⟨h1, a, c, rfl, fun h0 => by obtain ⟨b, off, e, _, hb, hc, _⟩ := h2 h0; exact ⟨b, off, e, hb, hc⟩⟩
/-- w' is w, but for blocks from B on and but for what was drawn. -/
theorem Rd.below {w w' : World} {n sz B : Nat} {v : Value} {xs : List Value} (h : Rd w v n sz xs) (hb : Below B w w') (hB : w.heap.size ≤ B) : Rd w' v n sz xs := by
  obtain ⟨h1, a, c, rfl, h2⟩ := h
  exact ⟨h1, a, c, rfl, fun h0 => by
    obtain ⟨b, off, e, hl, hc⟩ := h2 h0
    exact ⟨b, off, e, Nat.lt_of_lt_of_le hl hb.size, fun j hj => (hb.cell (p := ⟨b, off + j, none⟩) (by simp; omega)).trans (hc j hj)⟩⟩
theorem Own.below {w w' : World} {lo n sz B : Nat} {v : Value} {xs : List Value} (h : Own w lo v n sz xs) (hb : Below B w w') (hB : w.heap.size ≤ B) : Own w' lo v n sz xs := by
  obtain ⟨h1, a, c, rfl, h2⟩ := h
  exact ⟨h1, a, c, rfl, fun h0 => by
    obtain ⟨b, off, e, hlo, hl, hc, hf⟩ := h2 h0
    exact ⟨b, off, e, hlo, Nat.lt_of_lt_of_le hl hb.size, fun j hj => (hb.cell (p := ⟨b, off + j, none⟩) (by simp; omega)).trans (hc j hj), fun j hj => (hb.frozen (p := ⟨b, off + j, none⟩) (by simp; omega)).trans (hf j hj)⟩⟩
theorem Own.lower {w : World} {lo lo' n sz : Nat} {v : Value} {xs : List Value} (h : Own w lo v n sz xs) (hl : lo' ≤ lo) : Own w lo' v n sz xs := by
  obtain ⟨h1, a, c, rfl, h2⟩ := h
  exact ⟨h1, a, c, rfl, fun h0 => by obtain ⟨b, off, e, hlo, r⟩ := h2 h0; exact ⟨b, off, e, Nat.le_trans hl hlo, r⟩⟩
/-- Nothing but one block, and new ones, has turned; the slice lies elsewhere. -/
theorem Rd.grown {w w' : World} {n sz : Nat} {v : Value} {xs : List Value} {row : Option Nat} (h : Rd w v n sz xs) (hg : w.grownBy w' row) (hne : 0 < n → v.ownBlock ≠ row) : Rd w' v n sz xs := by
  obtain ⟨h1, a, c, rfl, h2⟩ := h
  exact ⟨h1, a, c, rfl, fun h0 => by
    obtain ⟨b, off, rfl, hl, hc⟩ := h2 h0
    exact ⟨b, off, rfl, Nat.lt_of_lt_of_le hl hg.size, fun j hj => (World.cell?_of_block (w := w) (a := ⟨b, off + j, none⟩) (hg.block b hl (hne h0))).trans (hc j hj)⟩⟩
theorem Own.grown {w w' : World} {lo n sz : Nat} {v : Value} {xs : List Value} {row : Option Nat} (h : Own w lo v n sz xs) (hg : w.grownBy w' row) (hne : 0 < n → v.ownBlock ≠ row) : Own w' lo v n sz xs := by
  obtain ⟨h1, a, c, rfl, h2⟩ := h
  exact ⟨h1, a, c, rfl, fun h0 => by
    obtain ⟨b, off, rfl, hlo, hl, hc, hf⟩ := h2 h0
    exact ⟨b, off, rfl, hlo, Nat.lt_of_lt_of_le hl hg.size, fun j hj => (World.cell?_of_block (w := w) (a := ⟨b, off + j, none⟩) (hg.block b hl (hne h0))).trans (hc j hj), fun j hj => (World.frozen?_of_block (w := w) (a := ⟨b, off + j, none⟩) (hg.block b hl (hne h0))).trans (hf j hj)⟩⟩
theorem Rd.drewN {w : World} {n sz m : Nat} {v : Value} {xs : List Value} (h : Rd w v n sz xs) : Rd (w.drewN m) v n sz xs := h
theorem Own.drewN {w : World} {lo n sz m : Nat} {v : Value} {xs : List Value} (h : Own w lo v n sz xs) : Own (w.drewN m) lo v n sz xs := h
theorem Rd.get {w : World} {n sz c : Nat} {a : Option Addr} {xs : List Value} (h : Rd w (.slice a n c) n sz xs) (h0 : 0 < n) : ∃ b off, a = some ⟨b, off, none⟩ ∧ b < w.heap.size ∧ ∀ j, j < n * sz → w.cell? ⟨b, off + j, none⟩ = xs[j]? := by
  obtain ⟨_, a', c', e, h2⟩ := h
  simp only [Value.slice.injEq, true_and] at e
  obtain ⟨rfl, rfl⟩ := e
  exact h2 h0
theorem Own.get {w : World} {lo n sz c : Nat} {a : Option Addr} {xs : List Value} (h : Own w lo (.slice a n c) n sz xs) (h0 : 0 < n) : ∃ b off, a = some ⟨b, off, none⟩ ∧ lo ≤ b ∧ b < w.heap.size ∧ (∀ j, j < n * sz → w.cell? ⟨b, off + j, none⟩ = xs[j]?) ∧ ∀ j, j < n * sz → w.frozen? ⟨b, off + j, none⟩ = false := by
  obtain ⟨_, a', c', e, h2⟩ := h
  simp only [Value.slice.injEq, true_and] at e
  obtain ⟨rfl, rfl⟩ := e
  exact h2 h0
/-- One cell of it written. -/
theorem Own.set {w : World} {lo n sz c b off : Nat} {xs : List Value} (h : Own w lo (.slice (some ⟨b, off, none⟩) n c) n sz xs) (j : Nat) (x : Value) (hj : j < n * sz) (hc : ∃ v, w.cell? ⟨b, off + j, none⟩ = some v) :
    Own (w.setCell ⟨b, off + j, none⟩ x) lo (.slice (some ⟨b, off, none⟩) n c) n sz (xs.set j x) := by
  obtain ⟨h1, _⟩ := id h
  refine ⟨by simpa using h1, _, _, rfl, fun h0 => ?_⟩
  obtain ⟨b', off', e, hlo, hl, hcell, hf⟩ := h.get h0
  simp only [Option.some.injEq, Addr.mk.injEq, and_true] at e
  obtain ⟨rfl, rfl⟩ := e
  refine ⟨b, off, rfl, hlo, by simpa using hl, fun i hi => ?_, fun i hi => by rw [World.frozen?_setCell]; exact hf i hi⟩
  by_cases hij : i = j
  · subst hij
    obtain ⟨v, hv⟩ := hc
    rw [World.cell?_setCell_same (w := w) (h := hv), List.getElem?_set_self (by omega)]
  · rw [World.cell?_setCell_other (h := fun e => hij (by have := (Addr.mk.inj e).2.1; omega)), hcell i hi, List.getElem?_set_ne (by omega)]
theorem grown_set {w w1 : World} {b i : Nat} {x : Value} (h : w.grownBy w1 (some b)) : w.grownBy (w1.setCell ⟨b, i, none⟩ x) (some b) :=
  h.andThen (c := w1.setCell ⟨b, i, none⟩ x) (row' := some b) ⟨rfl, rfl, rfl, by simp, fun k _ hk => Below.heap_setCell w1 ⟨b, i, none⟩ x k (fun e => hk (by rw [e]))⟩ (fun _ e => .inr e)
theorem below_grown {w w' : World} (h : Below w.heap.size w w') : w.grownBy w' none := ⟨h.os, h.tape, h.output, h.size, fun k hk _ => h.block k hk⟩
theorem own_of_row {w : World} {base e n sz : Nat} {v : Value} {xs : List Value} (h : w.ownsRow base e sz v n xs) : Own w base v n sz xs := by
  refine ⟨h.1, ?_⟩
  rcases h.2 with ⟨rfl, rfl⟩ | ⟨g, cap, cur, rfl, h1, h2, h3, h4, h5, h6⟩
  · exact ⟨none, 0, rfl, fun h => absurd h (Nat.lt_irrefl 0)⟩
  · refine ⟨_, _, rfl, fun _ => ⟨g, 0, rfl, h1, (Array.getElem?_eq_some_iff.1 h2).1, fun j hj => ?_, fun j _ => ?_⟩⟩
    · rw [Nat.zero_add]; exact h.cellAt j hj
    · rw [Nat.zero_add]; exact frozen_of_row w g j _ e h2
theorem own_of_cells {w : World} {lo g T n sz N cap : Nat} {f : Nat → Value} {xs : List Value} (h : CellsAt w g T N f) (hlo : lo ≤ g) (hN : n * sz ≤ N) (hl : xs.length = n * sz) (hx : ∀ j, j < n * sz → xs[j]? = some (f j)) :
    Own w lo (.slice (some ⟨g, 0, none⟩) n cap) n sz xs :=
  ⟨hl, _, _, rfl, fun _ => ⟨g, 0, rfl, hlo, h.lt, fun j hj => by rw [Nat.zero_add, h.cell j (by omega), hx j hj], fun j _ => by rw [Nat.zero_add]; exact h.frozen j⟩⟩
/-- What a call gives that makes a slice. -/
def MadeRow (w : World) (n sz : Nat) (xs : List Value) (e : Ending) (w' : World) : Prop := ∃ v, e = .returned v ∧ Own w' w.heap.size v n sz xs ∧ Below w.heap.size w w'
/-- Nothing but what was drawn. -/
def Still (w w' : World) : Prop := ∃ m, w' = w.drewN m
theorem Still.refl (w : World) : Still w w := ⟨0, rfl⟩
theorem Still.trans {a b c : World} (h : Still a b) (k : Still b c) : Still a c := by
  obtain ⟨m, rfl⟩ := h; obtain ⟨n, rfl⟩ := k; exact ⟨m + n, by simp⟩
theorem Still.below {w w' : World} (h : Still w w') (B : Nat) : Below B w w' := by obtain ⟨m, rfl⟩ := h; exact below_drewN (Below.refl _ _) m
theorem Still.rd {w w' : World} {n sz : Nat} {v : Value} {xs : List Value} (h : Still w w') (k : Rd w v n sz xs) : Rd w' v n sz xs := by obtain ⟨m, rfl⟩ := h; exact k
theorem Still.own {w w' : World} {lo n sz : Nat} {v : Value} {xs : List Value} (h : Still w w') (k : Own w lo v n sz xs) : Own w' lo v n sz xs := by obtain ⟨m, rfl⟩ := h; exact k
/-- The block of a slice of n elements, if it has one that matters. -/
def blk (v : Value) (n : Nat) : Option Nat := if n = 0 then none else v.ownBlock
theorem blk_pos {b off n c : Nat} (h : 0 < n) : blk (.slice (some ⟨b, off, none⟩) n c) n = some b := by unfold blk; rw [if_neg (by omega)]; rfl
theorem Own.blk {w : World} {lo n sz : Nat} {v : Value} {xs : List Value} (h : Own w lo v n sz xs) : ∀ k, blk v n = some k → lo ≤ k ∧ k < w.heap.size := by
  intro k hk
  obtain ⟨_, a, c, rfl, h2⟩ := h
  by_cases h0 : 0 < n
  · obtain ⟨b, off, rfl, hlo, hl, _⟩ := h2 h0
    rw [blk_pos h0] at hk
    cases hk; exact ⟨hlo, hl⟩
  · obtain rfl : n = 0 := by omega
    simp [Proofs.YtnjfbokomihecaaDoor.blk] at hk
theorem Rd.blk {w : World} {n sz : Nat} {v : Value} {xs : List Value} (h : Rd w v n sz xs) : ∀ k, blk v n = some k → k < w.heap.size := by
  intro k hk
  obtain ⟨_, a, c, rfl, h2⟩ := h
  by_cases h0 : 0 < n
  · obtain ⟨b, off, rfl, hl, _⟩ := h2 h0
    rw [blk_pos h0] at hk
    cases hk; exact hl
  · obtain rfl : n = 0 := by omega
    simp [Proofs.YtnjfbokomihecaaDoor.blk] at hk
/-- Nothing but the blocks s and d, and new ones, has turned. -/
structure Two (s d : Option Nat) (w w' : World) : Prop where
  os : w'.os = w.os
  tape : w'.tape = w.tape
  output : w'.output = w.output
  size : w.heap.size ≤ w'.heap.size
  block : ∀ k, k < w.heap.size → some k ≠ s → some k ≠ d → w'.heap[k]? = w.heap[k]?
theorem Two.below {s d : Option Nat} {w w' : World} (h : Two s d w w') {lo : Nat} (hs : ∀ k, s = some k → lo ≤ k) (hd : ∀ k, d = some k → lo ≤ k) (hw : lo ≤ w.heap.size) : Below lo w w' :=
  ⟨h.os, h.tape, h.output, h.size, fun k hk => h.block k (by omega) (fun e => by have := hs k e.symm; omega) (fun e => by have := hd k e.symm; omega)⟩
theorem Two.refl (s d : Option Nat) (w : World) : Two s d w w := ⟨rfl, rfl, rfl, Nat.le_refl _, fun _ _ _ _ => rfl⟩
theorem Two.trans {s d : Option Nat} {a b c : World} (h : Two s d a b) (k : Two s d b c) : Two s d a c :=
  ⟨k.os.trans h.os, k.tape.trans h.tape, k.output.trans h.output, Nat.le_trans h.size k.size, fun i hi h1 h2 => (k.block i (Nat.lt_of_lt_of_le hi h.size) h1 h2).trans (h.block i hi h1 h2)⟩
theorem two_left {s d : Option Nat} {w w' : World} (h : w.grownBy w' s) : Two s d w w' := ⟨h.os, h.tape, h.output, h.size, fun k hk h1 _ => h.block k hk h1⟩
theorem two_right {s d : Option Nat} {w w' : World} (h : w.grownBy w' d) : Two s d w w' := ⟨h.os, h.tape, h.output, h.size, fun k hk _ h2 => h.block k hk h2⟩
theorem two_below {s d : Option Nat} {w w' : World} (h : Below w.heap.size w w') : Two s d w w' := ⟨h.os, h.tape, h.output, h.size, fun k hk _ _ => h.block k hk⟩
theorem Rd.two {w w' : World} {n sz : Nat} {v : Value} {xs : List Value} {s d : Option Nat} (h : Rd w v n sz xs) (ht : Two s d w w') (hne : ∀ k, Proofs.YtnjfbokomihecaaDoor.blk v n = some k → some k ≠ s ∧ some k ≠ d) : Rd w' v n sz xs := by
  obtain ⟨h1, a, c, rfl, h2⟩ := h
  exact ⟨h1, a, c, rfl, fun h0 => by
    obtain ⟨b, off, rfl, hl, hc⟩ := h2 h0
    have hb := ht.block b hl (hne b (blk_pos h0)).1 (hne b (blk_pos h0)).2
    exact ⟨b, off, rfl, Nat.lt_of_lt_of_le hl ht.size, fun j hj => (World.cell?_of_block (w := w) (a := ⟨b, off + j, none⟩) hb).trans (hc j hj)⟩⟩
theorem Own.two {w w' : World} {lo n sz : Nat} {v : Value} {xs : List Value} {s d : Option Nat} (h : Own w lo v n sz xs) (ht : Two s d w w') (hne : ∀ k, Proofs.YtnjfbokomihecaaDoor.blk v n = some k → some k ≠ s ∧ some k ≠ d) : Own w' lo v n sz xs := by
  obtain ⟨h1, a, c, rfl, h2⟩ := h
  exact ⟨h1, a, c, rfl, fun h0 => by
    obtain ⟨b, off, rfl, hlo, hl, hc, hf⟩ := h2 h0
    have hb := ht.block b hl (hne b (blk_pos h0)).1 (hne b (blk_pos h0)).2
    exact ⟨b, off, rfl, hlo, Nat.lt_of_lt_of_le hl ht.size, fun j hj => (World.cell?_of_block (w := w) (a := ⟨b, off + j, none⟩) hb).trans (hc j hj), fun j hj => (World.frozen?_of_block (w := w) (a := ⟨b, off + j, none⟩) hb).trans (hf j hj)⟩⟩
theorem Own.other {w : World} {lo n sz : Nat} {v : Value} {xs : List Value} (h : Own w lo v n sz xs) (p : Addr) (x : Value) (hp : ∀ k, Proofs.YtnjfbokomihecaaDoor.blk v n = some k → k ≠ p.block) : Own (w.setCell p x) lo v n sz xs := by
  obtain ⟨h1, a, c, rfl, h2⟩ := h
  exact ⟨h1, a, c, rfl, fun h0 => by
    obtain ⟨b, off, rfl, hlo, hl, hc, hf⟩ := h2 h0
    have hb := Below.heap_setCell w p x b (hp b (blk_pos h0))
    exact ⟨b, off, rfl, hlo, by simpa using hl, fun j hj => (World.cell?_of_block (w := w) (a := ⟨b, off + j, none⟩) hb).trans (hc j hj), fun j hj => (World.frozen?_of_block (w := w) (a := ⟨b, off + j, none⟩) hb).trans (hf j hj)⟩⟩
end Go.Proofs.YtnjfbokomihecaaDoor

namespace Go.Proofs.YtnjfbokomihecaaDoor
open Go.RowKit

theorem Tryd.info9 : (Tryd.prog.info? 9).map (fun i => (i.zero, i.size, i.bytes)) = some (some (.string ByteArray.empty), 1, 16) := by kernel_rfl
def strs (l : List ByteArray) : List Value := l.map Value.string
theorem strs_length (l : List ByteArray) : (strs l).length = l.length := by simp [strs]
theorem strs_at (l : List ByteArray) (j : Nat) (h : j < l.length) : (strs l)[j]? = some (.string l[j]) := by simp [strs, h]

def CopyRel (w : World) (l : List ByteArray) (i : Value) (wr : World) : Prop :=
  ∃ k : Nat, k ≤ l.length ∧ i = .int .i64 k ∧ CellsAt wr w.heap.size 9 l.length (fun j => .string (if j < k then l.getD j ByteArray.empty else ByteArray.empty)) ∧ Below w.heap.size w wr
theorem made_strs {w1 : World} {g n : Nat} (h : w1.heap[g]? = some (.cells (List.replicate n (Value.string ByteArray.empty)).toArray 9 (0, 0))) : CellsAt w1 g 9 n (fun _ => .string ByteArray.empty) :=
  cellsAt_list h n _ (by simp) (fun j hj => by simp [hj])

/-- What is left of a measure: less than nothing, or all was within it. -/
def Left (P : Prop) (w : World) (e : Ending) (w' : World) : Prop := ∃ r : Int, e = .returned (.int .i64 r) ∧ w = w' ∧ (r = -1 ∨ 0 ≤ r ∧ P)
def LeftIn (left : Int) (P : Prop) (w : World) (e : Ending) (w' : World) : Prop := ∃ r : Int, e = .returned (.int .i64 r) ∧ w = w' ∧ (r = -1 ∨ 0 ≤ r ∧ r ≤ left ∧ P)
def SizeRel (l : List ByteArray) (left : Int) (x i : Value) : Prop :=
  ∃ (k : Nat) (r : Int), k ≤ l.length ∧ i = .int .i64 k ∧ x = .int .i64 r ∧ 0 ≤ r ∧ r ≤ left ∧ ∀ j (h : j < l.length), j < k → (l[j].size : Int) ≤ left
def EqRel (w : World) (n : Nat) (i : Value) (wr : World) : Prop := ∃ k : Nat, k ≤ n ∧ i = .int .i64 k ∧ Still w wr
end Go.Proofs.YtnjfbokomihecaaDoor

namespace Go.Proofs.YtnjfbokomihecaaDoor
open Go.RowKit

def dig (k : Nat) : UInt8 := UInt8.ofNat (48 + k % 10)
theorem dig_val (n : Nat) : (48 + (n : Int) % 10) = ((dig n).toNat : Int) := by
  unfold dig; rw [UInt8.toNat_ofNat']; omega
def digs (k : Nat) (acc : List UInt8) : List UInt8 := if _h : k = 0 then acc else digs (k / 10) (dig k :: acc)
termination_by k
decreasing_by omega
theorem digs_zero (acc : List UInt8) : digs 0 acc = acc := by rw [digs, dif_pos rfl]
theorem digs_more (k : Nat) (acc : List UInt8) (h : 0 < k) : digs k acc = digs (k / 10) (dig k :: acc) := by rw [digs, dif_neg (by omega)]
/-- A list of bytes as a string. -/
def accS (l : List UInt8) : ByteArray := ⟨l.toArray⟩
theorem accS_size (l : List UInt8) : (accS l).size = l.length := by show l.toArray.size = _; simp
theorem accS_cons (x : UInt8) (l : List UInt8) : accS [x] ++ accS l = accS (x :: l) := by
  apply ByteArray.ext; simp [accS]
/-- The text of the number k. -/
def markS (k : Nat) : ByteArray := accS (109 :: digs k [])
def MarkRel (k0 : Nat) (w : World) (n t : Value) (wr : World) : Prop :=
  ∃ (k : Nat) (acc : List UInt8), n = .int .i64 k ∧ t = .string (accS acc) ∧ acc.length ≤ 11 ∧ digs k acc = digs k0 [] ∧ k * 10 ^ acc.length ≤ k0 ∧ Below w.heap.size w wr
theorem len_bound (k k0 n : Nat) (h : 0 < k) (hb : k * 10 ^ n ≤ k0) (h0 : k0 ≤ 10000000000) : n ≤ 10 := by
  have h1 : 10 ^ n ≤ k0 := Nat.le_trans (Nat.le_mul_of_pos_left _ h) hb
  have h2 : 10 ^ n ≤ 10 ^ 10 := Nat.le_trans h1 h0
  exact (Nat.pow_le_pow_iff_right (by decide)).1 h2
theorem next_bound (k k0 n : Nat) (hb : k * 10 ^ n ≤ k0) : k / 10 * 10 ^ (n + 1) ≤ k0 := by
  have : k / 10 * 10 ^ (n + 1) ≤ k * 10 ^ n := by
    rw [Nat.pow_succ, Nat.mul_comm (10 ^ n) 10, ← Nat.mul_assoc]
    exact Nat.mul_le_mul_right _ (by omega)
  omega

def marks (k n : Nat) : List Value := (List.range n).map fun j => .string (markS (k + j))
theorem marks_length (k n : Nat) : (marks k n).length = n := by simp [marks]
/-- The first i marked, the others as they were. -/
def marked (k i : Nat) (xs : List Value) : List Value := (List.range xs.length).map fun j => if j < i then .string (markS (k + j)) else xs.getD j undef
theorem marked_length (k i : Nat) (xs : List Value) : (marked k i xs).length = xs.length := by simp [marked]
theorem marked_zero (k : Nat) (xs : List Value) : marked k 0 xs = xs := by
  apply List.ext_getElem
  · simp [marked]
  · intro j h1 h2; simp [marked, h2]
theorem marked_all (k : Nat) (xs : List Value) : marked k xs.length xs = marks k xs.length := by
  apply List.ext_getElem
  · simp [marked, marks]
  · intro j h1 h2; simp [marked] at h1; simp [marked, marks, h1]
theorem marked_set (k i : Nat) (xs : List Value) (_h : i < xs.length) : (marked k i xs).set i (.string (markS (k + i))) = marked k (i + 1) xs := by
  apply List.ext_getElem
  · simp [marked]
  · intro j h1 h2
    rw [List.getElem_set]
    by_cases hj : i = j
    · subst hj; simp [marked]
    · rw [if_neg hj]; simp only [marked, List.getElem_map, List.getElem_range]
      by_cases hji : j < i
      · rw [if_pos hji, if_pos (by omega)]
      · rw [if_neg hji, if_neg (by omega)]

/-- What marking a slice does: its cells turn, and nothing else that was there. -/
def Marked (lo : Nat) (v : Value) (n sz : Nat) (xs : List Value) (r : Int) (w : World) (e : Ending) (w' : World) : Prop :=
  e = .returned (.int .i64 r) ∧ Own w' lo v n sz xs ∧ w.grownBy w' (blk v n)
def MarkSRel (lo : Nat) (v : Value) (k n : Nat) (xs : List Value) (w : World) (q i : Value) (wr : World) : Prop :=
  ∃ j : Nat, j ≤ n ∧ q = .int .i64 ((k + j : Nat) : Int) ∧ i = .int .i64 j ∧ Own wr lo v n 1 (marked k j xs) ∧ w.grownBy wr (blk v n)
/-- What looking at a marked slice gives. -/
def Held (r : Int) (w : World) (e : Ending) (w' : World) : Prop := e = .returned (.int .i64 r) ∧ Below w.heap.size w w'
def HeldRel (k n : Nat) (w : World) (q i : Value) (wr : World) : Prop :=
  ∃ j : Nat, j ≤ n ∧ q = .int .i64 ((k + j : Nat) : Int) ∧ i = .int .i64 j ∧ Below w.heap.size w wr
theorem marks_at (k n j : Nat) (h : j < n) : (marks k n)[j]? = some (.string (markS (k + j))) := by simp [marks, h]
end Go.Proofs.YtnjfbokomihecaaDoor

namespace Go.Proofs.YtnjfbokomihecaaDoor
open Go.RowKit

abbrev D := Int × ByteArray
def dV (d : D) : Value := .agg #[.int .i64 d.1, .string d.2]
def dirs : List D → List Value
  | [] => []
  | d :: l => .int .i64 d.1 :: .string d.2 :: dirs l
theorem dirs_length : ∀ l : List D, (dirs l).length = l.length * 2
  | [] => rfl
  | d :: l => by simp [dirs, dirs_length l]; omega
theorem dirs_even : ∀ (l : List D) (j : Nat) (h : j < l.length), (dirs l)[j * 2]? = some (.int .i64 l[j].1)
  | d :: l, 0, _ => rfl
  | d :: l, j + 1, h => by
    rw [show (j + 1) * 2 = j * 2 + 1 + 1 by omega]
    simpa [dirs] using dirs_even l j (by simpa using h)
theorem dirs_odd : ∀ (l : List D) (j : Nat) (h : j < l.length), (dirs l)[j * 2 + 1]? = some (.string l[j].2)
  | d :: l, 0, _ => rfl
  | d :: l, j + 1, h => by
    rw [show (j + 1) * 2 + 1 = j * 2 + 1 + 1 + 1 by omega]
    simpa [dirs] using dirs_odd l j (by simpa using h)

/-- As LeftIn, memory having been made. -/
def LeftB (left : Int) (P : Prop) (w : World) (e : Ending) (w' : World) : Prop := ∃ r : Int, e = .returned (.int .i64 r) ∧ Below w.heap.size w w' ∧ (r = -1 ∨ 0 ≤ r ∧ r ≤ left ∧ P)
theorem own_block' {w : World} {base e g n sz : Nat} {xs : List Value} (h : w.ownsRow base e sz (.slice (some ⟨g, 0, none⟩) n n) n xs) : w.heap[g]? = some (.cells xs.toArray e (0, 0)) := by
  rcases h.2 with ⟨h', _⟩ | ⟨g', cap', cur, h', _, hg, _, _, hs, htake⟩
  · simp at h'
  · simp only [Value.slice.injEq, Option.some.injEq, Addr.mk.injEq, and_true, true_and] at h'
    obtain ⟨rfl, rfl⟩ := h'
    rw [hg, ← htake, List.take_of_length_le (by simp [hs])]
/-- The first k of l laid, the others at zero. -/
def dPart (l : List D) (k j : Nat) : Value := if j < k * 2 then (dirs l).getD j undef else if j % 2 = 0 then .int .i64 0 else .string ByteArray.empty
theorem d_laid {w2 : World} {g n k : Nat} {T : TypeId} {l : List D} (h : CellsAt w2 g T n (dPart l k)) (hk : k < l.length) :
    CellsAt ((w2.setCell ⟨g, k * 2, none⟩ (.int .i64 l[k].1)).setCell ⟨g, k * 2 + 1, none⟩ (.string l[k].2)) g T n (dPart l (k + 1)) := by
  refine ((h.set (v' := fun j => if j = k * 2 then .int .i64 l[k].1 else dPart l k j) (k * 2) _ (if_pos rfl) (fun i hi => if_neg hi)).set (v' := fun j => if j = k * 2 + 1 then .string l[k].2 else if j = k * 2 then .int .i64 l[k].1 else dPart l k j) (k * 2 + 1) _ (if_pos rfl) (fun i hi => if_neg hi)).congr fun j _ => ?_
  have e1 := dirs_even l k hk
  have e2 := dirs_odd l k hk
  by_cases h1 : j = k * 2 + 1
  · subst h1; simp [dPart, e2]; try omega
  · by_cases h2 : j = k * 2
    · subst h2; simp [dPart, e1]; try omega
    · simp only [h1, h2, if_false, dPart]
      by_cases h3 : j < k * 2
      · rw [if_pos h3, if_pos (by omega)]
      · rw [if_neg h3, if_neg (by omega)]

def DSizeRel (l : List D) (left : Int) (w : World) (x i : Value) (wr : World) : Prop :=
  ∃ (k : Nat) (r : Int), k ≤ l.length ∧ i = .int .i64 k ∧ x = .int .i64 r ∧ 0 ≤ r ∧ r ≤ left ∧ (∀ j (h : j < l.length), j < k → (l[j].2.size : Int) ≤ left) ∧ Below w.heap.size w wr
def DEqRel (w : World) (n : Nat) (i : Value) (wr : World) : Prop := ∃ k : Nat, k ≤ n ∧ i = .int .i64 k ∧ Below w.heap.size w wr
/-- The mark of cell j: a number where j is even, a text where it is odd. -/
def markCell (k j : Nat) : Value := if j % 2 = 0 then .int .i64 ((k + j : Nat) : Int) else .string (markS (k + j))
def marksD (k n : Nat) : List Value := (List.range (n * 2)).map (markCell k)
def markedD (k i : Nat) (xs : List Value) : List Value := (List.range xs.length).map fun j => if j < i then markCell k j else xs.getD j undef
theorem markedD_length (k i : Nat) (xs : List Value) : (markedD k i xs).length = xs.length := by simp [markedD]
theorem markedD_zero (k : Nat) (xs : List Value) : markedD k 0 xs = xs := by
  apply List.ext_getElem
  · simp [markedD]
  · intro j h1 h2; simp [markedD, h2]
theorem markedD_all (k n : Nat) (xs : List Value) (h : xs.length = n * 2) : markedD k (n * 2) xs = marksD k n := by
  apply List.ext_getElem
  · simp [markedD, marksD, h]
  · intro j h1 h2; simp [markedD, h] at h1; simp [markedD, marksD, h1]
theorem markedD_set (k i : Nat) (xs : List Value) : (markedD k i xs).set i (markCell k i) = markedD k (i + 1) xs := by
  apply List.ext_getElem
  · simp [markedD]
  · intro j h1 h2
    rw [List.getElem_set]
    by_cases hj : i = j
    · subst hj; simp [markedD]
    · rw [if_neg hj]; simp only [markedD, List.getElem_map, List.getElem_range]
      by_cases hji : j < i
      · rw [if_pos hji, if_pos (by omega)]
      · rw [if_neg hji, if_neg (by omega)]
theorem markCell_even (k j : Nat) : markCell k (j * 2) = .int .i64 ((k + j * 2 : Nat) : Int) := by unfold markCell; rw [if_pos (by omega)]
theorem markCell_odd (k j : Nat) : markCell k (j * 2 + 1) = .string (markS (k + j * 2 + 1)) := by unfold markCell; rw [if_neg (by omega)]; rfl
theorem marksD_at (k n j : Nat) (h : j < n * 2) : (marksD k n)[j]? = some (markCell k j) := by simp [marksD, h]

def MarkDRel (lo : Nat) (v : Value) (k n : Nat) (xs : List Value) (w : World) (q i : Value) (wr : World) : Prop :=
  ∃ j : Nat, j ≤ n ∧ q = .int .i64 ((k + j * 2 : Nat) : Int) ∧ i = .int .i64 j ∧ Own wr lo v n 2 (markedD k (j * 2) xs) ∧ w.grownBy wr (blk v n)
theorem Own.cellEx {w : World} {lo n sz c b off : Nat} {xs : List Value} (h : Own w lo (.slice (some ⟨b, off, none⟩) n c) n sz xs) (j : Nat) (hj : j < n * sz) : (∃ v, w.cell? ⟨b, off + j, none⟩ = some v) ∧ w.frozen? ⟨b, off + j, none⟩ = false := by
  have hn : 0 < n := by
    rcases Nat.eq_zero_or_pos n with h0 | h0
    · subst h0; simp at hj
    · exact h0
  obtain ⟨b', off', e, _, _, hc, hf⟩ := h.get hn
  simp only [Option.some.injEq, Addr.mk.injEq, and_true] at e
  obtain ⟨rfl, rfl⟩ := e
  refine ⟨⟨xs[j]'(by rw [h.1]; exact hj), ?_⟩, hf j hj⟩
  rw [hc j hj, List.getElem?_eq_getElem (by rw [h.1]; exact hj)]

def HeldDRel (k n : Nat) (w : World) (q i : Value) (wr : World) : Prop :=
  ∃ j : Nat, j ≤ n ∧ q = .int .i64 ((k + j * 2 : Nat) : Int) ∧ i = .int .i64 j ∧ Below w.heap.size w wr
end Go.Proofs.YtnjfbokomihecaaDoor

namespace Go.Proofs.YtnjfbokomihecaaDoor
open Go.RowKit

/-- A flash as the mathematics has it. -/
structure FM where
  sec : List ByteArray
  dir : List D
def FRd (w : World) (sv dv : Value) (F : FM) : Prop := Rd w sv F.sec.length 1 (strs F.sec) ∧ Rd w dv F.dir.length 2 (dirs F.dir)
/-- A flash of the call's own; its two slices lie apart. -/
def FOwn (w : World) (lo : Nat) (sv dv : Value) (F : FM) : Prop :=
  Own w lo sv F.sec.length 1 (strs F.sec) ∧ Own w lo dv F.dir.length 2 (dirs F.dir) ∧ ∀ k, blk sv F.sec.length = some k → blk dv F.dir.length ≠ some k
def FMade (w : World) (F : FM) (e : Ending) (w' : World) : Prop := ∃ sv dv, e = .returned (.agg #[sv, dv]) ∧ FOwn w' w.heap.size sv dv F ∧ Below w.heap.size w w'
/-- What a flash may take, and how great its parts are. -/
def FFits (F : FM) : Prop := F.sec.length ≤ 1048576 ∧ F.dir.length ≤ 1048576
def FReach (F : FM) : Prop := F.sec.length ≤ maxLen ∧ F.dir.length ≤ maxLen ∧ (∀ s ∈ F.sec, s.size ≤ maxLen) ∧ ∀ d ∈ F.dir, d.2.size ≤ maxLen
theorem FRd.below {w w' : World} {sv dv : Value} {F : FM} {B : Nat} (h : FRd w sv dv F) (hb : Below B w w') (hB : w.heap.size ≤ B) : FRd w' sv dv F := ⟨h.1.below hb hB, h.2.below hb hB⟩
theorem FOwn.below {w w' : World} {lo : Nat} {sv dv : Value} {F : FM} {B : Nat} (h : FOwn w lo sv dv F) (hb : Below B w w') (hB : w.heap.size ≤ B) : FOwn w' lo sv dv F := ⟨h.1.below hb hB, h.2.1.below hb hB, h.2.2⟩
theorem FOwn.rd {w : World} {lo : Nat} {sv dv : Value} {F : FM} (h : FOwn w lo sv dv F) : FRd w sv dv F := ⟨h.1.rd, h.2.1.rd⟩
theorem FOwn.lower {w : World} {lo lo' : Nat} {sv dv : Value} {F : FM} (h : FOwn w lo sv dv F) (hl : lo' ≤ lo) : FOwn w lo' sv dv F := ⟨h.1.lower hl, h.2.1.lower hl, h.2.2⟩
theorem two_cells {w w1 : World} {K : Nat} {T : TypeId} {a b : Value} (hb : Below K (w.alloc (.cells #[a, b] T)) w1) (hK : w.heap.size < K) : w1.cell? ⟨w.heap.size, 0, none⟩ = some a ∧ w1.cell? ⟨w.heap.size, 1, none⟩ = some b := by
  have hc : ∀ j, w1.cell? ⟨w.heap.size, j, none⟩ = (#[a, b] : Array Value)[j]? := fun j =>
    (hb.cell (p := ⟨w.heap.size, j, none⟩) hK).trans (World.cell?_alloc_new (w := w) #[a, b] T j)
  exact ⟨hc 0, hc 1⟩

/-- A flash all of whose cells are marked from k on. -/
def FMarked (w : World) (lo : Nat) (sv dv : Value) (n m k : Nat) : Prop :=
  Own w lo sv n 1 (marks k n) ∧ Own w lo dv m 2 (marksD (k + n) m) ∧ ∀ j, blk sv n = some j → blk dv m ≠ some j
end Go.Proofs.YtnjfbokomihecaaDoor

namespace Go.Proofs.YtnjfbokomihecaaDoor
open Go.RowKit

/-- A valid flash. -/
structure Right (F : FM) : Prop where
  least : 1 ≤ F.sec.length
  most : F.sec.length ≤ 40
  dirty : F.dir.length ≤ F.sec.length
  fits : ∀ j (h : j < F.sec.length), F.sec[j].size ≤ 96
  at0 : ∀ j (h : j < F.dir.length), 0 ≤ F.dir[j].1
  at1 : ∀ j (h : j < F.dir.length), F.dir[j].1 ≤ (F.sec.length : Int) - 1
  data : ∀ j (h : j < F.dir.length), F.dir[j].2.size ≤ 96
  once : ∀ i j (h : j < F.dir.length) (hi : i < j), F.dir[i].1 ≠ F.dir[j].1
def RightPost (F : FM) (w : World) (e : Ending) (w' : World) : Prop := ∃ b : Bool, e = .returned (.bool b) ∧ (b = true ↔ Right F) ∧ Below w.heap.size w w'

set_option maxRecDepth 100000 in
set_option maxHeartbeats 400000 in
theorem is_yes (n lo hi : Int) (w : World) (h0 : lo ≤ n) (h1 : n ≤ hi) :
    Calls Tryd.prog 36 #[.int .i64 n, .int .i64 lo, .int .i64 hi] w fun e w' => e = .returned (.bool true) ∧ w' = w := by
  go_enter Tryd.func36, Tryd.ntmps36
  go_wp2
  go_ret
  exact ⟨rfl, rfl⟩
set_option maxRecDepth 100000 in
set_option maxHeartbeats 400000 in
theorem is_no (n lo hi : Int) (w : World) (h : n < lo ∨ lo ≤ n ∧ hi < n) :
    Calls Tryd.prog 36 #[.int .i64 n, .int .i64 lo, .int .i64 hi] w fun e w' => e = .returned (.bool false) ∧ w' = w := by
  rcases h with h | ⟨h0, h⟩
  · have d0 : decide (lo ≤ n) = false := decide_eq_false (by omega)
    go_enter Tryd.func36, Tryd.ntmps36
    go_wp2
    go_ret
    exact ⟨rfl, rfl⟩
  · have d0 : decide (n ≤ hi) = false := decide_eq_false (by omega)
    go_enter Tryd.func36, Tryd.ntmps36
    go_wp2
    go_ret
    exact ⟨rfl, rfl⟩

def SecRel (F : FM) (i : Value) : Prop := ∃ k : Nat, k ≤ F.sec.length ∧ i = .int .i64 k ∧ ∀ j (h : j < F.sec.length), j < k → F.sec[j].size ≤ 96
/-- What has been seen of the first k elements of Dirty. -/
structure Seen (F : FM) (k : Nat) : Prop where
  at0 : ∀ j (h : j < F.dir.length), j < k → 0 ≤ F.dir[j].1
  at1 : ∀ j (h : j < F.dir.length), j < k → F.dir[j].1 ≤ (F.sec.length : Int) - 1
  data : ∀ j (h : j < F.dir.length), j < k → F.dir[j].2.size ≤ 96
  once : ∀ i j (h : j < F.dir.length) (hi : i < j), j < k → F.dir[i].1 ≠ F.dir[j].1
def DirRel (F : FM) (W : World) (i : Value) (wr : World) : Prop := ∃ k : Nat, k ≤ F.dir.length ∧ i = .int .i64 k ∧ Seen F k ∧ Still W wr
def OnceRel (F : FM) (k : Nat) (h : k < F.dir.length) (W : World) (i : Value) (wr : World) : Prop := ∃ m : Nat, m ≤ k ∧ i = .int .i64 m ∧ (∀ j (hj : j < k), j < m → F.dir[j].1 ≠ F.dir[k].1) ∧ Still W wr

end Go.Proofs.YtnjfbokomihecaaDoor

namespace Go.Proofs.YtnjfbokomihecaaDoor
open Go.RowKit

def sealS (t : ByteArray) : ByteArray := t ++ fourS (crcF 0 t)
def metaRaw (g : Int) (t : ByteArray) : ByteArray := putS g ++ (putS t.size ++ t)
def metaB (g : Int) (t : ByteArray) : ByteArray := if (1 ≤ g ∧ g ≤ 1000000) ∧ t.size ≤ 80 then sealS (metaRaw g t) else ByteArray.empty
theorem metaRaw_size {g : Int} {t : ByteArray} (h0 : 1 ≤ g) (h1 : g ≤ 1000000) (ht : t.size ≤ 80) : (metaRaw g t).size ≤ 100 := by
  unfold metaRaw
  have := putS_size g (by omega) (by omega)
  have := putS_size t.size (by omega) (by omega)
  rw [ByteArray.size_append, ByteArray.size_append]; omega
theorem metaB_size (g : Int) (t : ByteArray) : (metaB g t).size ≤ 104 := by
  unfold metaB
  split
  · rename_i h
    unfold sealS
    rw [ByteArray.size_append, fourS_size]
    have := metaRaw_size h.1.1 h.1.2 h.2
    omega
  · simp
end Go.Proofs.YtnjfbokomihecaaDoor

namespace Go.Proofs.YtnjfbokomihecaaDoor
open Go.RowKit

attribute [local go_sem ↓] Go.wp_at_zero Go.wp_at_succ

end Go.Proofs.YtnjfbokomihecaaDoor

namespace Go.Proofs.YtnjfbokomihecaaDoor
open Go

def byt (s : ByteArray) (j : Nat) : Nat := (s.data.getD j 0).toNat
theorem byt_at (s : ByteArray) (k : Nat) (h : k < s.size) : s[k].toNat = byt s k := by
  unfold byt
  have : s.data.getD k 0 = s[k] := by
    simp [Array.getD, h]; rfl
  rw [this]
theorem byt_lt (s : ByteArray) (k : Nat) : byt s k < 256 := UInt8.toNat_lt _

/-- The number that a folded one stands for. -/
def unz (v : Nat) : Int := if v % 2 = 1 then -((v / 2 : Nat) : Int) - 1 else ((v / 2 : Nat) : Int)
def addU (u c k : Nat) : Nat := u + c % 128 * 2 ^ (7 * k)

/-- What decoding gives from byte i on, u being what was read: the number, the place behind it, the code. -/
def goN (s : ByteArray) (a : Nat) : Nat → Nat → Nat → Int × Int × Int
  | 0, _, _ => (0, 0, 3)
  | f + 1, i, u =>
    if s.size ≤ a + i then (0, 0, 4)
    else if i = 9 ∧ 1 < byt s (a + i) then (0, 0, 3)
    else if 128 ≤ byt s (a + i) then goN s a f (i + 1) (addU u (byt s (a + i)) i)
    else if byt s (a + i) = 0 ∧ 0 < i then (0, 0, 3)
    else (unz (addU u (byt s (a + i)) i), (a : Int) + i + 1, 0)

theorem goN_short {s : ByteArray} {a f i u : Nat} (h : s.size ≤ a + i) : goN s a (f + 1) i u = (0, 0, 4) := by rw [goN, if_pos h]
theorem goN_ten {s : ByteArray} {a f i u : Nat} (h : ¬ s.size ≤ a + i) (h9 : i = 9) (hc : 1 < byt s (a + i)) : goN s a (f + 1) i u = (0, 0, 3) := by
  rw [goN, if_neg h, if_pos ⟨h9, hc⟩]
theorem goN_more {s : ByteArray} {a f i u : Nat} (h : ¬ s.size ≤ a + i) (h9 : i < 9) (hc : 128 ≤ byt s (a + i)) : goN s a (f + 1) i u = goN s a f (i + 1) (addU u (byt s (a + i)) i) := by
  rw [goN, if_neg h, if_neg (by omega), if_pos hc]
theorem goN_long {s : ByteArray} {a f i u : Nat} (h : ¬ s.size ≤ a + i) (hc : byt s (a + i) = 0) (hi : 0 < i) : goN s a (f + 1) i u = (0, 0, 3) := by
  rw [goN, if_neg h, if_neg (by omega), if_neg (by omega), if_pos ⟨hc, hi⟩]
theorem goN_last {s : ByteArray} {a f i u : Nat} (h : ¬ s.size ≤ a + i) (h9 : ¬ (i = 9 ∧ 1 < byt s (a + i))) (hc : byt s (a + i) < 128) (h0 : ¬ (byt s (a + i) = 0 ∧ 0 < i)) :
    goN s a (f + 1) i u = (unz (addU u (byt s (a + i)) i), (a : Int) + i + 1, 0) := by
  rw [goN, if_neg h, if_neg h9, if_neg (by omega), if_neg h0]

theorem pow_small (k : Nat) (h : k ≤ 8) : 2 ^ (7 * k) ≤ 72057594037927936 := by
  calc 2 ^ (7 * k) ≤ 2 ^ 56 := Nat.pow_le_pow_right (by decide) (by omega)
    _ = 72057594037927936 := by decide
theorem addU_lt (u c k : Nat) (hu : u < 2 ^ (7 * k)) : addU u c k < 2 ^ (7 * (k + 1)) := by
  unfold addU
  have e : 2 ^ (7 * (k + 1)) = 128 * 2 ^ (7 * k) := by rw [show 7 * (k + 1) = 7 + 7 * k by omega, Nat.pow_add]
  have h1 : c % 128 * 2 ^ (7 * k) ≤ 127 * 2 ^ (7 * k) := Nat.mul_le_mul_right _ (by omega)
  omega
theorem addU_lim (u c k : Nat) (hu : u < 2 ^ (7 * k)) (hk : k < 9) : addU u c k < 9223372036854775808 := by
  have := addU_lt u c k hu
  have e : 2 ^ (7 * (k + 1)) ≤ 2 ^ 63 := Nat.pow_le_pow_right (by decide) (by omega)
  have e2 : (2 : Nat) ^ 63 = 9223372036854775808 := by decide
  omega
theorem addU_lim9 (u c : Nat) (hu : u < 2 ^ (7 * 9)) (hc : c ≤ 1) : addU u c 9 < lim64 := by
  have e2 : (2 : Nat) ^ (7 * 9) = 9223372036854775808 := by decide
  unfold addU lim64; rw [e2] at *
  have : c % 128 ≤ 1 := by omega
  omega
theorem addU_all (u c k : Nat) (hu : u < 2 ^ (7 * k)) (hk : k < 9 ∨ k = 9 ∧ c ≤ 1) : addU u c k < lim64 := by
  rcases hk with h | ⟨rfl, h⟩
  · exact Nat.lt_trans (addU_lim u c k hu h) (by unfold lim64; omega)
  · exact addU_lim9 u c hu h
theorem acc_spec (u c k : Nat) (hu : u < 2 ^ (7 * k)) (hk : k < 9 ∨ k = 9 ∧ c ≤ 1) : IntKind.u64.wrap ((u : Int) + IntKind.u64.wrap ((c : Int) % 128 * 2 ^ (7 * k))) = (addU u c k : Int) := by
  have h := addU_all u c k hu hk
  have e : (c : Int) % 128 * 2 ^ (7 * k) = ((c % 128 * 2 ^ (7 * k) : Nat) : Int) := by simp
  unfold addU lim64 at *
  rw [e]
  generalize c % 128 * 2 ^ (7 * k) = x at *
  rw [IntKind.wrap_u64, IntKind.wrap_u64]
  omega
theorem unz_odd (v : Nat) (h : v % 2 = 1) : -((v : Int) / 2) - 1 = unz v := by unfold unz; rw [if_pos h]; omega
theorem unz_even (v : Nat) (h : ¬ v % 2 = 1) : (v : Int) / 2 = unz v := by unfold unz; rw [if_neg h]; omega
theorem half_le (v : Nat) (h : v < lim64) : (v : Int) / 2 ≤ 9223372036854775807 := by unfold lim64 at h; omega
theorem or_comm64 (a b : Int) : bits BinOp.or IntKind.u64 a b = bits BinOp.or IntKind.u64 b a := by
  simp only [bits, BitVec.or_comm]
theorem xor_comm64i (a b : Int) : bits BinOp.xor IntKind.i64 a b = bits BinOp.xor IntKind.i64 b a := by
  simp only [bits, BitVec.xor_comm]
theorem and127 (c : Nat) (h : c < 256) : bits BinOp.and IntKind.u8 (c : Int) 127 = ((c % 128 : Nat) : Int) := by
  have := bits_mask .u8 8 (by decide) wraps_u8 7 (by decide) (c : Int) (by omega) (by omega)
  simpa using this
theorem acc_impl (u c k : Nat) (hc : c < 256) (hu : u < 2 ^ (7 * k)) (hk : k < 9 ∨ k = 9 ∧ c ≤ 1) :
    bits BinOp.or IntKind.u64 (u : Int) (IntKind.u64.wrap (IntKind.u64.wrap (bits BinOp.and IntKind.u8 (c : Int) 127) * 2 ^ (7 * k))) = (addU u c k : Int) := by
  have h := addU_all u c k hu hk
  have h7 : u < 2 ^ (7 * k) := hu
  have hw : IntKind.u64.wrap ((c % 128 : Nat) : Int) = ((c % 128 : Nat) : Int) := by rw [IntKind.wrap_u64]; omega
  have e : ((c % 128 : Nat) : Int) * 2 ^ (7 * k) = ((c % 128 * 2 ^ (7 * k) : Nat) : Int) := by simp
  have hm : ((c % 128 * 2 ^ (7 * k) : Nat) : Int) % 2 ^ (7 * k) = 0 := by
    have : (c % 128 * 2 ^ (7 * k)) % 2 ^ (7 * k) = 0 := Nat.mul_mod_left _ _
    have e2 : ((2 : Int) ^ (7 * k)) = ((2 ^ (7 * k) : Nat) : Int) := by simp
    rw [e2]; omega
  have hu2 : (u : Int) < 2 ^ (7 * k) := by
    have e2 : ((2 : Int) ^ (7 * k)) = ((2 ^ (7 * k) : Nat) : Int) := by simp
    rw [e2]; omega
  rw [and127 c hc, hw, e]
  unfold addU lim64 at *
  generalize c % 128 * 2 ^ (7 * k) = x at *
  have hx : IntKind.u64.wrap (x : Int) = (x : Int) := by rw [IntKind.wrap_u64]; omega
  rw [hx, or_comm64, bits_join .u64 64 (by decide) (fun n a b => by rw [IntKind.wrap_u64]; omega) (7 * k) (x : Int) (u : Int) (by omega) hm (by omega) (by omega) hu2 (by omega)]
  omega
theorem xor_zero64 (x : Nat) (h : x < 9223372036854775808) : bits BinOp.xor IntKind.i64 (x : Int) 0 = (x : Int) := by
  show IntKind.i64.wrap ((BitVec.ofInt 64 (x : Int) ^^^ BitVec.ofInt 64 0).toNat : Int) = _
  have h2 : (BitVec.ofInt 64 (x : Int)).toNat = x := by
    rw [BitVec.ofInt_natCast, BitVec.toNat_ofNat]; exact Nat.mod_eq_of_lt (by omega)
  have h0 : (BitVec.ofInt 64 0).toNat = 0 := by decide
  rw [BitVec.toNat_xor, h2, h0, Nat.xor_zero, IntKind.wrap_i64]
  omega
end Go.Proofs.YtnjfbokomihecaaDoor

namespace Go.Proofs.YtnjfbokomihecaaDoor
open Go.RowKit

/-- The block of a result of three fields. -/
def outB (x y z : Int) : Obj := .cells #[.int .i64 x, .int .i64 y, .int .i64 z] 49
def GSpecRel (s : ByteArray) (a : Nat) (w : World) (R : Int × Int × Int) (x i : Value) (wr : World) : Prop :=
  ∃ k u : Nat, k ≤ 9 ∧ u < 2 ^ (7 * k) ∧ i = .int .i64 k ∧ x = .int .u64 u ∧ wr = w.alloc (.cells #[.int .i64 0, .int .i64 0, .int .i64 0] 49) ∧ goN s a (9 - k + 1) k u = R

def numV (R : Int × Int × Int) : Value := .agg #[.int .i64 R.1, .int .i64 R.2.1, .int .i64 R.2.2]

set_option maxHeartbeats 2000000 in
set_option maxRecDepth 100000 in
theorem specGet_mid (s : ByteArray) (a : Nat) (w : World) (hs : s.size ≤ 8000) (ha : (a : Int) ≤ 9223372036854775807) (R : Int × Int × Int) (hR : goN s a 10 0 0 = R) :
    Calls Tryd.prog 48 #[.string s, .int .i64 a] w fun e w' => e = .returned (numV R) ∧ Below w.heap.size w w' := by
  have HR := Lib.hid hR
  clear hR
  go_enter Tryd.func48, Tryd.ntmps48
  go_wp2
  go_loopw [5, 6] (fun x i wr => GSpecRel s a w R x i wr) (fun _ i _ => 10 - (intOf i).toNat)
  case atStart => exact ⟨0, 0, by omega, by simp, rfl, rfl, rfl, HR.out⟩
  case round =>
    obtain ⟨k, u, hk, hu, rfl, rfl, rfl, hgo⟩ := hrel
    have HU := Lib.hid hu
    have HG := Lib.hid hgo
    clear hu hgo HR
    by_cases h1 : a + k < s.size
    · have h2 : (a : Int) < (s.size : Int) - (k : Int) := by omega
      have hcc := byt_at s (a + k) h1
      have hc := byt_lt s (a + k)
      by_cases h9 : k = 9 ∧ 1 < byt s (a + k)
      · have HN := Lib.hid ((goN_ten (f := 9 - k) (u := u) (by omega) h9.1 h9.2).symm.trans HG.out)
        obtain ⟨h91, c1⟩ := h9
        have k9 : ((k : Int) == 9) = true := by simp; omega
        clear h91
        generalize byt s (a + k) = c at *
        go_wp2
        exact bodyPost_ret (v := numV (0, 0, 3)) (by simp [numV, results, Tryd.results48, go_sem]) rfl ⟨by rw [HN.out], (Below.refl _ _).alloc (Nat.le_refl _) _⟩
      · have hk9 : k < 9 ∨ k = 9 ∧ byt s (a + k) ≤ 1 := by omega
        have t9 : ((k : Int) == 9) = false ∨ ((k : Int) == 9) = true ∧ byt s (a + k) ≤ 1 := by
          rcases hk9 with z | z
          · left; simp; omega
          · right; exact ⟨by simp; omega, by omega⟩
        have hacc := acc_spec u (byt s (a + k)) k HU.out hk9
        have hvl := half_le _ (addU_all u (byt s (a + k)) k HU.out hk9)
        by_cases c128 : 128 ≤ byt s (a + k)
        · have hlt : k < 9 := by omega
          have k9 : ((k : Int) == 9) = false := by simp; omega
          have HN := Lib.hid ((goN_more (f := 9 - k) (u := u) (by omega) hlt c128).symm.trans HG.out)
          have HV := Lib.hid (addU_lt u (byt s (a + k)) k HU.out)
          clear t9 hk9 h9
          generalize addU u (byt s (a + k)) k = v at *
          generalize byt s (a + k) = c at *
          go_wp2
          go_roundw
          case rel => exact ⟨k + 1, v, by omega, HV.out, by go_num, rfl, rfl, by rw [show 9 - (k + 1) + 1 = 9 - k by omega]; exact HN.out⟩
          case measure => simp [intOf]; omega
        · by_cases c0 : byt s (a + k) = 0 ∧ 0 < k
          · have HN := Lib.hid ((goN_long (f := 9 - k) (u := u) (by omega) c0.1 c0.2).symm.trans HG.out)
            have HE := Lib.hid c0.1
            obtain ⟨_, c1⟩ := c0
            clear hk9 h9
            generalize addU u (byt s (a + k)) k = v at *
            generalize byt s (a + k) = c at *
            have e0 : ((c : Int) == 0) = true := by simp; exact HE.out
            have e1 : decide (0 < k) = true := by simp; omega
            rcases t9 with k9 | ⟨k9, c9⟩
            all_goals go_wp2
            all_goals exact bodyPost_ret (v := numV (0, 0, 3)) (by simp [numV, results, Tryd.results48, go_sem]) rfl ⟨by rw [HN.out], (Below.refl _ _).alloc (Nat.le_refl _) _⟩
          · have HN := Lib.hid ((goN_last (f := 9 - k) (u := u) (by omega) h9 (by omega) c0).symm.trans HG.out)
            have hv : (addU u (byt s (a + k)) k) % 2 = 1 ∨ ¬ (addU u (byt s (a + k)) k) % 2 = 1 := by omega
            have e0 : ((byt s (a + k) : Int) == 0) = true ∧ decide (0 < k) = false ∨ ((byt s (a + k) : Int) == 0) = false := by
              by_cases z : byt s (a + k) = 0
              · left; exact ⟨by simp [z], decide_eq_false (by omega)⟩
              · right; simp; omega
            clear c0 hk9 h9
            generalize addU u (byt s (a + k)) k = v at *
            generalize byt s (a + k) = c at *
            rcases hv with hv | hv
            · have HZ := Lib.hid (unz_odd v hv)
              have p1 : ((v : Int) % 2 == 1) = true := by simp; omega
              clear hv
              rcases e0 with ⟨e0, e1⟩ | e0 <;> rcases t9 with k9 | ⟨k9, c9⟩
              all_goals go_wp2
              all_goals exact bodyPost_ret (v := numV (-((v : Int) / 2) - 1, (a : Int) + k + 1, 0)) (by simp [numV, results, Tryd.results48, go_sem]) rfl ⟨by rw [HZ.out, HN.out], (Below.refl _ _).alloc (Nat.le_refl _) _⟩
            · have HZ := Lib.hid (unz_even v hv)
              have p1 : ((v : Int) % 2 == 1) = false := by simp; omega
              clear hv
              rcases e0 with ⟨e0, e1⟩ | e0 <;> rcases t9 with k9 | ⟨k9, c9⟩
              all_goals go_wp2
              all_goals exact bodyPost_ret (v := numV ((v : Int) / 2, (a : Int) + k + 1, 0)) (by simp [numV, results, Tryd.results48, go_sem]) rfl ⟨by rw [HZ.out, HN.out], (Below.refl _ _).alloc (Nat.le_refl _) _⟩
    · have h2 : (s.size : Int) - (k : Int) ≤ (a : Int) := by omega
      have HN := Lib.hid ((goN_short (f := 9 - k) (u := u) (by omega)).symm.trans HG.out)
      go_wp2
      exact bodyPost_ret (v := numV (0, 0, 4)) (by simp [numV, results, Tryd.results48, go_sem]) rfl ⟨by rw [HN.out], (Below.refl _ _).alloc (Nat.le_refl _) _⟩
end Go.Proofs.YtnjfbokomihecaaDoor

namespace Go.Proofs.YtnjfbokomihecaaDoor
open Go

/-- As Q; by a goto to a label: what J says of that label. -/
def jumps (J : Nat → Act → World → Prop) (Q : Exit → Act → World → Prop) : Exit → Act → World → Prop
  | .goto l, a, w => J l a w
  | e, a, w => Q e a w

theorem wp_scope_labels {P : Program} {a : Act} {w : World} {Q : Exit → Act → World → Prop} {c : Code} (J : Nat → Act → World → Prop) (μ : Nat → Act → World → Nat)
    (first : c.wp P (jumps J Q) a w)
    (pass : ∀ l a w, J l a w → ∃ rest, findLabel c l = some rest ∧ rest.wp P (jumps (fun l' a' w' => J l' a' w' ∧ μ l' a' w' < μ l a w) Q) a w) : (Code.scope c).wp P Q a w := by
  intro b k cs
  have far : ∀ n l a w, μ l a w ≤ n → J l a w → ∀ rest, findLabel c l = some rest → ∃ e a' w', Q e a' w' ∧ Arrives P (lone (b.at a (.code rest :: .inScope c :: k)) cs w) b k cs e a' w' := by
    intro n
    induction n with
    | zero =>
      intro l a w hn hJ rest hr
      obtain ⟨rest', hr', hw⟩ := pass l a w hJ
      obtain rfl := Option.some.inj (hr'.symm.trans hr)
      obtain ⟨e, a₁, w₁, hq, harr⟩ := hw b (.inScope c :: k) cs
      cases e with
      | normal => exact ⟨.normal, a₁, w₁, hq, Steps.trans harr (.one step_inScope)⟩
      | exit id => exact ⟨.exit id, a₁, w₁, hq, fun k' hk => harr k' (by simp [exitTo, hk])⟩
      | goto l' => have := hq.2; omega
      | ret => exact ⟨_, a₁, w₁, hq, harr⟩
      | panic ch => exact ⟨_, a₁, w₁, hq, harr⟩
      | outgrown => exact ⟨_, a₁, w₁, hq, harr⟩
    | succ n ih =>
      intro l a w hn hJ rest hr
      obtain ⟨rest', hr', hw⟩ := pass l a w hJ
      obtain rfl := Option.some.inj (hr'.symm.trans hr)
      obtain ⟨e, a₁, w₁, hq, harr⟩ := hw b (.inScope c :: k) cs
      cases e with
      | normal => exact ⟨.normal, a₁, w₁, hq, Steps.trans harr (.one step_inScope)⟩
      | exit id => exact ⟨.exit id, a₁, w₁, hq, fun k' hk => harr k' (by simp [exitTo, hk])⟩
      | goto l' =>
        obtain ⟨hJ', hlt⟩ := hq
        obtain ⟨r2, hr2, _⟩ := pass l' a₁ w₁ hJ'
        obtain ⟨e₂, a₂, w₂, hq₂, harr₂⟩ := ih l' a₁ w₁ (by omega) hJ' r2 hr2
        exact ⟨e₂, a₂, w₂, hq₂, .of_steps (harr _ (by simp [gotoIn, hr2])) harr₂⟩
      | ret => exact ⟨_, a₁, w₁, hq, harr⟩
      | panic ch => exact ⟨_, a₁, w₁, hq, harr⟩
      | outgrown => exact ⟨_, a₁, w₁, hq, harr⟩
  obtain ⟨e, a₁, w₁, hq, harr⟩ := first b (.inScope c :: k) cs
  cases e with
  | normal => exact ⟨.normal, a₁, w₁, hq, .head step_scope (Steps.trans harr (.one step_inScope))⟩
  | exit id => exact ⟨.exit id, a₁, w₁, hq, fun k' hk => .head step_scope (harr k' (by simp [exitTo, hk]))⟩
  | goto l' =>
    obtain ⟨r2, hr2, _⟩ := pass l' a₁ w₁ hq
    obtain ⟨e₂, a₂, w₂, hq₂, harr₂⟩ := far _ l' a₁ w₁ (Nat.le_refl _) hq r2 hr2
    exact ⟨e₂, a₂, w₂, hq₂, .of_steps (.head step_scope (harr _ (by simp [gotoIn, hr2]))) harr₂⟩
  | ret => exact ⟨_, a₁, w₁, hq, .of_steps (.one step_scope) harr⟩
  | panic ch => exact ⟨_, a₁, w₁, hq, .of_steps (.one step_scope) harr⟩
  | outgrown => exact ⟨_, a₁, w₁, hq, .of_steps (.one step_scope) harr⟩
/-- The same where the straight way runs into a label: what is shown of a pass from it serves there, too. -/
theorem wp_scope_labels_at {P : Program} {a : Act} {w : World} {Q : Exit → Act → World → Prop} {c rest : Code} (J : Nat → Act → World → Prop) (μ : Nat → Act → World → Nat) (l : Nat)
    (hl : findLabel c l = some (.seq .skip rest))
    (first : (∀ a w, J l a w → rest.wp P (jumps J Q) a w) → c.wp P (jumps J Q) a w)
    (at_l : ∀ a w, J l a w → rest.wp P (jumps (fun l' a' w' => J l' a' w' ∧ μ l' a' w' < μ l a w) Q) a w)
    (pass : ∀ l' a w, l' ≠ l → J l' a w → ∃ rest, findLabel c l' = some rest ∧ rest.wp P (jumps (fun l'' a' w' => J l'' a' w' ∧ μ l'' a' w' < μ l' a w) Q) a w) : (Code.scope c).wp P Q a w := by
  refine wp_scope_labels J μ (first fun a w hJ => ?_) fun l' a w hJ => ?_
  · refine wp_mono (at_l a w hJ) fun e a w h => ?_
    cases e with
    | goto l' => exact h.1
    | _ => exact h
  · by_cases e : l' = l
    · subst e
      exact ⟨_, hl, wp_seq (wp_skip (at_l a w hJ))⟩
    · exact pass l' a w e hJ
end Go.Proofs.YtnjfbokomihecaaDoor

namespace Go.Proofs.YtnjfbokomihecaaDoor
open Go.RowKit

/-- The frame of readNum behind its declarations: the place, what was read, the byte, how many bytes, the code; the rest is scratch. -/
def rdFrame (s : ByteArray) (p u : Int) (b : Value) (n code : Int) (a : Act) : Prop :=
  ∃ u11 u12 u13 u14 u15 u16 u17 u18 u19 u20 u21 u22 u23 u24 u25 u26 u27 u28 u29 u30 u31 u32 u33 u34 u35 u36 u37 u38 u39 u40 u41 u42 u43 u44 u45 u46 u47 u48 u49 u50 u51 u52 u53 u54 u55 u56 : Value, a = { tmps := #[.string s, .int .i64 p, undef, undef, .int .i64 0, .int .i64 0, .nilIface, .int .u64 u, b, .int .i64 n, .int .i64 code, u11, u12, u13, u14, u15, u16, u17, u18, u19, u20, u21, u22, u23, u24, u25, u26, u27, u28, u29, u30, u31, u32, u33, u34, u35, u36, u37, u38, u39, u40, u41, u42, u43, u44, u45, u46, u47, u48, u49, u50, u51, u52, u53, u54, u55, u56], defers := [] }

/-- What holds at each of the three labels (1: more, 2: last, 0: wrong). -/
def rdAt (s : ByteArray) (p : Nat) (w : World) (R : Int × Int × Int) : Nat → Act → World → Prop
  | 0, a, w' => w' = w ∧ ∃ (q u : Int) (b : Value) (n code : Int), rdFrame s q u b n code a ∧ (0, 0, code) = R ∧ ¬ code = 0
  | 1, a, w' => w' = w ∧ ∃ (k u : Nat) (b : Value), k ≤ 9 ∧ u < 2 ^ (7 * k) ∧ goN s p (9 - k + 1) k u = R ∧ rdFrame s ((p : Int) + k) u b k 3 a
  | 2, a, w' => w' = w ∧ ∃ k v c : Nat, k ≤ 9 ∧ v < lim64 ∧ c < 128 ∧ (c = 0 ∧ 0 < k → (0, 0, 3) = R) ∧ (¬ (c = 0 ∧ 0 < k) → (unz v, (p : Int) + k + 1, 0) = R) ∧ rdFrame s ((p : Int) + k + 1) v (.int .u8 c) ((k : Int) + 1) 3 a
  | _, _, _ => False

def rdMeasure : Nat → Act → World → Nat
  | 0, _, _ => 0
  | 1, a, _ => 100 - (intOf (a.tmps.getD 9 undef)).toNat
  | _, _, _ => 1

/-- What readNum hands back: the number, the place behind it, and nil or an error with the code. -/
def readV (R : Int × Int × Int) : Value := .tuple #[.int .i64 R.1, .int .i64 R.2.1, if R.2.2 = 0 then .nilIface else .iface 81 (.agg #[.int .i64 R.2.2])]
theorem readV_bad (code : Int) (h : ¬ code = 0) : readV (0, 0, code) = .tuple #[.int .i64 0, .int .i64 0, .iface 81 (.agg #[.int .i64 code])] := by
  simp [readV, h]
theorem readV_good (n q : Int) : readV (n, q, 0) = .tuple #[.int .i64 n, .int .i64 q, .nilIface] := by
  simp [readV]
theorem fin_impl (v : Nat) (hv : v < lim64) : bits BinOp.xor IntKind.i64 (wrap64 ((v : Int) / 2)) (wrap64 (-wrap64 (bits BinOp.and IntKind.u64 (v : Int) 1))) = unz v := by
  unfold lim64 at hv
  rw [Lib.u64_and1 _ (by omega) (by omega), IntWalk.wrap64_in ((v : Int) / 2) (by omega), IntWalk.wrap64_in ((v : Int) % 2) (by omega), IntWalk.wrap64_in _ (by omega)]
  have e : (v : Int) / 2 = ((v / 2 : Nat) : Int) := by omega
  unfold unz
  by_cases h : v % 2 = 1
  · rw [if_pos h, show -((v : Int) % 2) = -1 by omega, xor_comm64i, e, Lib.i64_not _ (by omega)]
  · rw [if_neg h, show -((v : Int) % 2) = 0 by omega, e, xor_zero64 _ (by omega)]

set_option maxHeartbeats 4000000 in
set_option maxRecDepth 100000 in
theorem read_any (s : ByteArray) (p : Nat) (w : World) (hs : s.size ≤ 8000) (hp : (p : Int) ≤ 9223372036854775807) (R : Int × Int × Int) (hR : goN s p 10 0 0 = R) :
    Calls Tryd.prog 42 #[.string s, .int .i64 p] w fun e w' => e = .returned (readV R) ∧ w = w' := by
  have HR := Lib.hid hR
  clear hR
  go_enter Tryd.func42, Tryd.ntmps42
  go_wp2
  refine wp_scope_labels_at (rdAt s p w R) rdMeasure 1 rfl ?_ ?_ ?_
  · intro go
    go_wp2
    go_step3
    rename_i K hK
    refine hK _ _ (go _ _ ⟨rfl, 0, 0, .int .u8 0, by omega, by simp, HR.out, ?_⟩)
    rw [show ((p : Int) + ((0 : Nat) : Int)) = (p : Int) by simp]
    exact ⟨_, _, _, _, _, _, _, _, _, _, _, _, _, _, _, _, _, _, _, _, _, _, _, _, _, _, _, _, _, _, _, _, _, _, _, _, _, _, _, _, _, _, _, _, _, _, rfl⟩
  · intro a1 w1 hJ
    obtain ⟨rfl, k, u, b, hk, hu, hg, u11, u12, u13, u14, u15, u16, u17, u18, u19, u20, u21, u22, u23, u24, u25, u26, u27, u28, u29, u30, u31, u32, u33, u34, u35, u36, u37, u38, u39, u40, u41, u42, u43, u44, u45, u46, u47, u48, u49, u50, u51, u52, u53, u54, u55, u56, rfl⟩ := hJ
    have HU := Lib.hid hu
    have HG := Lib.hid hg
    clear hu hg HR
    by_cases h1 : p + k < s.size
    · have hcc := byt_at s (p + k) h1
      have hc := byt_lt s (p + k)
      by_cases h9 : k = 9 ∧ 1 < byt s (p + k)
      · have HN := Lib.hid ((goN_ten (f := 9 - k) (u := u) (by omega) h9.1 h9.2).symm.trans HG.out)
        obtain ⟨h91, c1⟩ := h9
        have k9 : ((k : Int) + 1 == 10) = true := by simp; omega
        clear h91
        generalize byt s (p + k) = c at *
        go_wp2
        go_step3
        exact ⟨⟨rfl, _, _, _, _, _, ⟨_, _, _, _, _, _, _, _, _, _, _, _, _, _, _, _, _, _, _, _, _, _, _, _, _, _, _, _, _, _, _, _, _, _, _, _, _, _, _, _, _, _, _, _, _, _, rfl⟩, HN.out, by decide⟩, by simp [rdMeasure, intOf]; omega⟩
      · have hk9 : k < 9 ∨ k = 9 ∧ byt s (p + k) ≤ 1 := by omega
        have t9 : ((k : Int) + 1 == 10) = false ∨ ((k : Int) + 1 == 10) = true ∧ byt s (p + k) ≤ 1 := by
          rcases hk9 with z | z
          · left; simp; omega
          · right; exact ⟨by simp; omega, by omega⟩
        have HACC := Lib.hid (acc_impl u (byt s (p + k)) k hc HU.out hk9)
        have HLIM := Lib.hid (addU_all u (byt s (p + k)) k HU.out hk9)
        by_cases c128 : 128 ≤ byt s (p + k)
        · have hlt : k < 9 := by omega
          have k9 : ((k : Int) + 1 == 10) = false := by simp; omega
          have HN := Lib.hid ((goN_more (f := 9 - k) (u := u) (by omega) hlt c128).symm.trans HG.out)
          have HV := Lib.hid (addU_lt u (byt s (p + k)) k HU.out)
          clear t9 hk9 h9
          generalize addU u (byt s (p + k)) k = v at *
          generalize byt s (p + k) = c at *
          go_wp2
          go_step3
          rw [HACC.out]
          exact ⟨⟨rfl, k + 1, v, _, by omega, HV.out, by rw [show 9 - (k + 1) + 1 = 9 - k by omega]; exact HN.out, _, _, _, _, _, _, _, _, _, _, _, _, _, _, _, _, _, _, _, _, _, _, _, _, _, _, _, _, _, _, _, _, _, _, _, _, _, _, _, _, _, _, _, _, _, _, by go_num⟩, by simp [rdMeasure, intOf]; omega⟩
        · have HL := Lib.hid (fun h : byt s (p + k) = 0 ∧ 0 < k => (goN_long (f := 9 - k) (u := u) (by omega) h.1 h.2).symm.trans HG.out)
          have HM := Lib.hid (fun h : ¬ (byt s (p + k) = 0 ∧ 0 < k) => (goN_last (f := 9 - k) (u := u) (by omega) h9 (by omega) h).symm.trans HG.out)
          clear hk9 h9
          generalize addU u (byt s (p + k)) k = v at *
          generalize byt s (p + k) = c at *
          rcases t9 with k9 | ⟨k9, c9⟩
          all_goals go_wp2
          all_goals go_step3
          all_goals rw [HACC.out]
          all_goals exact ⟨⟨rfl, k, v, c, hk, HLIM.out, by omega, HL.out, HM.out, _, _, _, _, _, _, _, _, _, _, _, _, _, _, _, _, _, _, _, _, _, _, _, _, _, _, _, _, _, _, _, _, _, _, _, _, _, _, _, _, _, _, _, _, _, _, rfl⟩, by simp [rdMeasure, intOf]; omega⟩
    · have HN := Lib.hid ((goN_short (f := 9 - k) (u := u) (by omega)).symm.trans HG.out)
      go_wp2
      go_step3
      exact ⟨⟨rfl, _, _, _, _, _, ⟨_, _, _, _, _, _, _, _, _, _, _, _, _, _, _, _, _, _, _, _, _, _, _, _, _, _, _, _, _, _, _, _, _, _, _, _, _, _, _, _, _, _, _, _, _, _, rfl⟩, HN.out, by decide⟩, by simp [rdMeasure, intOf]; omega⟩
  · intro l a1 w1 hl hJ
    match l, hJ with
    | 0, hJ =>
      obtain ⟨rfl, q, u, b, n, code, ⟨u11, u12, u13, u14, u15, u16, u17, u18, u19, u20, u21, u22, u23, u24, u25, u26, u27, u28, u29, u30, u31, u32, u33, u34, u35, u36, u37, u38, u39, u40, u41, u42, u43, u44, u45, u46, u47, u48, u49, u50, u51, u52, u53, u54, u55, u56, rfl⟩, hc, hne⟩ := hJ
      refine ⟨_, rfl, ?_⟩
      have HC := Lib.hid hc
      have HV := Lib.hid (readV_bad code hne)
      clear hc HR
      go_wp2
      simp only [jumps]
      go_ret3
      exact ⟨by rw [← HC.out, HV.out]; rfl, rfl⟩
    | 1, hJ => exact absurd rfl hl
    | 2, hJ =>
      obtain ⟨rfl, k, v, c, hk, hv, hc, hA, hB, u11, u12, u13, u14, u15, u16, u17, u18, u19, u20, u21, u22, u23, u24, u25, u26, u27, u28, u29, u30, u31, u32, u33, u34, u35, u36, u37, u38, u39, u40, u41, u42, u43, u44, u45, u46, u47, u48, u49, u50, u51, u52, u53, u54, u55, u56, rfl⟩ := hJ
      refine ⟨_, rfl, ?_⟩
      have HB := Lib.hid hB
      have HF := Lib.hid (fin_impl v hv)
      by_cases h0 : c = 0 ∧ 0 < k
      · have HN := Lib.hid (hA h0)
        have e0 : ((c : Int) == 0) = true := by simp; omega
        have e1 : (1 : Int) < (k : Int) + 1 := by omega
        clear hA hB hv HR h0
        go_wp2
        go_step3
        exact ⟨⟨rfl, _, _, _, _, _, ⟨_, _, _, _, _, _, _, _, _, _, _, _, _, _, _, _, _, _, _, _, _, _, _, _, _, _, _, _, _, _, _, _, _, _, _, _, _, _, _, _, _, _, _, _, _, _, rfl⟩, HN.out, by decide⟩, Nat.zero_lt_one⟩
      · have HN := Lib.hid (hB h0)
        have HV := Lib.hid (readV_good (unz v) ((p : Int) + k + 1))
        have e0 : ((c : Int) == 0) = true ∧ (k : Int) + 1 ≤ 1 ∨ ((c : Int) == 0) = false := by
          by_cases z : c = 0
          · left; exact ⟨by simp [z], by omega⟩
          · right; simp; omega
        clear hA hB hv HR h0
        rcases e0 with ⟨e0, e1⟩ | e0
        all_goals go_wp2
        all_goals simp only [jumps]
        all_goals go_ret3
        all_goals exact ⟨by rw [← HN.out, HV.out, ← HF.out]; rfl, rfl⟩
    | n + 3, hJ => exact hJ.elim
end Go.Proofs.YtnjfbokomihecaaDoor

namespace Go.Proofs.YtnjfbokomihecaaDoor
open Go.RowKit Go.Extern.Stop Go.Stop Go.Extern

theorem as_nil (t : Value) (w : World) :
    Calls Tryd.prog 43 #[.nilIface, t] w fun e w' => e = .returned (.bool false) ∧ w = w' := by
  go_enter Tryd.func43, Tryd.ntmps43
  go_wp2
  go_ret
  exact ⟨rfl, rfl⟩

theorem valueOf40 (t : Addr) (w : World) : (ReflectliteValue.unpack (.iface 83 (.pointer (some t)))).run Tryd.prog w
    = .ok (.agg #[.pointer (some ⟨1, 83, none⟩), .pointer (some ⟨w.heap.size, 0, none⟩), .int .u64 150]) (w.alloc (.cells #[.pointer (some t)] 83)) := by kernel_rfl
theorem type40 (a : Addr) (w : World) : (ReflectliteValue.methodAny (ReflectliteValue.valueError "reflectlite.Value.Type" 0) (fun t _ _ _ => ReflectliteType.toType t) #[.agg #[.pointer (some ⟨1, 83, none⟩), .pointer (some a), .int .u64 150]]).run Tryd.prog w
    = .ok (.iface 113 (.agg #[.pointer (some ⟨1, 83, none⟩)])) w := by kernel_rfl
theorem methodKind (h : Value) (w : World) : (Go.method 256 113 (.agg #[h]) "Kind").run Tryd.prog w = .ok (74, h) w := by kernel_rfl
theorem kind40 (w : World) : ((ReflectliteType.abiMethod fun t => (fun a : Nat => Value.int IntKind.u8 (a : Int)) <$> Rtype.kind t) #[.pointer (some ⟨1, 83, none⟩)]).run Tryd.prog w = .ok (.int .u8 22) w := by kernel_rfl
theorem kind38 (w : World) : ((ReflectliteType.abiMethod fun t => (fun a : Nat => Value.int IntKind.u8 (a : Int)) <$> Rtype.kind t) #[.pointer (some ⟨1, 81, none⟩)]).run Tryd.prog w = .ok (.int .u8 25) w := by kernel_rfl
theorem opened (z : Sem Value) (f : TypeId → Addr → Nat → Nat → Sem Value) (v : Value) :
    ReflectliteValue.method z f #[v] = (do match ← ReflectliteValue.parts v with | none => z | some (t, a, fl) => f t a fl (fl % 32)) := rfl
theorem parts40 (a : Addr) (w : World) : (ReflectliteValue.parts (.agg #[.pointer (some ⟨1, 83, none⟩), .pointer (some a), .int .u64 150])).run Tryd.prog w = .ok (some (83, a, 150)) w := by kernel_rfl
theorem isNil40 (a p : Addr) (W : World) (ha : W.cell? a = some (.pointer (some p))) :
    (ReflectliteValue.method (ReflectliteValue.valueError "reflectlite.Value.IsNil" 0) ReflectliteValue.isNil #[.agg #[.pointer (some ⟨1, 83, none⟩), .pointer (some a), .int .u64 150]]).run Tryd.prog W = .ok (.bool false) W := by
  rw [opened]
  simp only [Sem.run_bind, parts40, Result.andThen]
  simp [ReflectliteValue.isNil, loadVar, isAgg, underlying, Tryd.underlying83, ha, Result.andThen]
theorem methodElem (h : Value) (w : World) : (Go.method 256 113 (.agg #[h]) "Elem").run Tryd.prog w = .ok (97, .agg #[h]) w := by kernel_rfl
theorem methodImplements (h : Value) (w : World) : (Go.method 256 113 (.agg #[h]) "Implements").run Tryd.prog w = .ok (98, .agg #[h]) w := by kernel_rfl
theorem methodAssignableTo (h : Value) (w : World) : (Go.method 256 113 (.agg #[h]) "AssignableTo").run Tryd.prog w = .ok (95, .agg #[h]) w := by kernel_rfl
theorem elem40 (w : World) : (ReflectliteType.method ReflectliteType.elem #[.agg #[.pointer (some ⟨1, 83, none⟩)]]).run Tryd.prog w = .ok (.iface 113 (.agg #[.pointer (some ⟨1, 81, none⟩)])) w := by kernel_rfl
theorem implements38 (w : World) : (ReflectliteType.relation "Implements" ReflectliteType.implements_ #[.agg #[.pointer (some ⟨1, 81, none⟩)], .iface 113 (.agg #[.pointer (some ⟨1, 77, none⟩)])]).run Tryd.prog w = .ok (.bool true) w := by kernel_rfl
theorem typeOf38 (v : Value) (w : World) : (ReflectliteType.typeOf #[.iface 81 v]).run Tryd.prog w = .ok (.iface 113 (.agg #[.pointer (some ⟨1, 81, none⟩)])) w := by kernel_rfl
theorem assignable38 (w : World) : (ReflectliteType.relation "AssignableTo" ReflectliteType.assignableTo #[.agg #[.pointer (some ⟨1, 81, none⟩)], .iface 113 (.agg #[.pointer (some ⟨1, 81, none⟩)])]).run Tryd.prog w = .ok (.bool true) w := by kernel_rfl
theorem valueOf38 (n : Int) (w : World) : (ReflectliteValue.unpack (.iface 81 (.agg #[.int .i64 n]))).run Tryd.prog w
    = .ok (.agg #[.pointer (some ⟨1, 81, none⟩), .pointer (some ⟨w.heap.size, 0, none⟩), .int .u64 153]) (w.alloc (.cells #[.int .i64 n] 81)) := by kernel_rfl
theorem elemOf40 (w : World) : (Rtype.elem? 83).run Tryd.prog w = .ok (some 81) w := by kernel_rfl
theorem mk38 (p : Addr) (w : World) : (ReflectliteValue.mk 81 p ReflectliteValue.flagAddr).run Tryd.prog w = .ok (.agg #[.pointer (some ⟨1, 81, none⟩), .pointer (some p), .int .u64 409]) w := by kernel_rfl
theorem elemV40 (a p : Addr) (W : World) (ha : W.cell? a = some (.pointer (some p))) :
    (ReflectliteValue.method (ReflectliteValue.valueError "reflectlite.Value.Elem" 0) ReflectliteValue.elem #[.agg #[.pointer (some ⟨1, 83, none⟩), .pointer (some a), .int .u64 150]]).run Tryd.prog W
      = .ok (.agg #[.pointer (some ⟨1, 81, none⟩), .pointer (some p), .int .u64 409]) W := by
  rw [opened]
  simp only [Sem.run_bind, parts40, Result.andThen]
  simp [ReflectliteValue.elem, loadVar, isAgg, underlying, Tryd.underlying83, ha, Result.andThen, elemOf40, mk38]
theorem parts38a (a : Addr) (w : World) : (ReflectliteValue.parts (.agg #[.pointer (some ⟨1, 81, none⟩), .pointer (some a), .int .u64 409])).run Tryd.prog w = .ok (some (81, a, 409)) w := by kernel_rfl
theorem parts38 (a : Addr) (w : World) : (ReflectliteValue.parts (.agg #[.pointer (some ⟨1, 81, none⟩), .pointer (some a), .int .u64 153])).run Tryd.prog w = .ok (some (81, a, 153)) w := by kernel_rfl
theorem direct38 (w : World) : (Rtype.directlyAssignable 81 81).run Tryd.prog w = .ok true w := by kernel_rfl
theorem isAgg38 (w : World) : (isAgg 81).run Tryd.prog w = .ok true w := by kernel_rfl
theorem size38 (w : World) : (sizeOf 81).run Tryd.prog w = .ok 1 w := by kernel_rfl
theorem setPair {motive : Array Value → Sort _} (v x : Value) (f : (v x : Value) → motive #[v, x]) (g : (a : Array Value) → motive a) : ReflectliteValue.set.match_3 motive #[v, x] f g = f v x := rfl
theorem set38 (ta b : Addr) (n : Int) (old : Value) (W : World) (hb : W.cell? b = some (.int .i64 n)) (ht : W.cell? ta = some old) (hf : W.frozen? ta = false) :
    (ReflectliteValue.set #[.agg #[.pointer (some ⟨1, 81, none⟩), .pointer (some ta), .int .u64 409], .agg #[.pointer (some ⟨1, 81, none⟩), .pointer (some b), .int .u64 153]]).run Tryd.prog W
      = .ok (.tuple #[]) (W.setCell ta (.int .i64 n)) := by
  delta ReflectliteValue.set
  rw [setPair]
  simp only [Sem.run_bind, parts38a, parts38, Result.andThen]
  simp [ReflectliteValue.flagAddr, loadVar, isAgg38, size38, hb, Result.andThen, direct38, storeVar, Value.cells, storeCells, Addr.add]
  have hl := run_loadCells_list (P := Tryd.prog) W b [Value.int .i64 n] (fun j v hj => by
    match j, hj with
    | 0, hj => simp at hj; subst hj; simpa [Addr.add] using hb)
  simp only [List.length_singleton] at hl
  rw [hl]
  simp [storeCells, Addr.add]
  rw [run_store Tryd.prog W ta _ _ (by rfl)]
  simp [ht, hf]

/-- The world behind a hit: the copies that reflectlite makes, and the target set. -/
def asW (n : Int) (t : Addr) (w : World) : World :=
  ((((w.alloc (.cells #[.pointer (some t)] 83)).alloc (.cells #[.pointer (some ⟨1, 83, none⟩), .pointer (some ⟨w.heap.size, 0, none⟩), .int .u64 150] 99)).alloc (.cells #[.pointer (some ⟨1, 83, none⟩), .pointer (some ⟨w.heap.size, 0, none⟩), .int .u64 150] 99)).alloc (.cells #[.int .i64 n] 81)).setCell t (.int .i64 n)

set_option maxHeartbeats 4000000 in
theorem size_alloc_one (w : World) (o : Obj) : (w.alloc o).heap.size = w.heap.size + 1 := by simp
theorem as_hit (n : Int) (t : Addr) (old : Value) (w : World) (hg : w.cell? ⟨0, 0, none⟩ = some (.iface 113 (.agg #[.pointer (some ⟨1, 77, none⟩)]))) (ht0 : w.cell? t = some old) (hf0 : w.frozen? t = false) :
    Calls Tryd.prog 43 #[.iface 81 (.agg #[.int .i64 n]), .iface 83 (.pointer (some t))] w fun ev w' => ev = .returned (.bool true) ∧ w' = asW n t w := by
  have h13 := @run_callFunc_extern Tryd.prog 51 _ (fun args => ReflectliteValue.unpack (args.getD 0 (.tuple #[]))) Tryd.func51 (by kernel_rfl) (by kernel_rfl) (by kernel_rfl) (by kernel_rfl)
  have h14 := @run_callFunc_extern Tryd.prog 52 _ (ReflectliteValue.methodAny (ReflectliteValue.valueError "reflectlite.Value.Type" 0) (fun t _ _ _ => ReflectliteType.toType t)) Tryd.func52 (by kernel_rfl) (by kernel_rfl) (by kernel_rfl) (by kernel_rfl)
  have h15 := @run_callFunc_extern Tryd.prog 53 _ (ReflectliteValue.method (ReflectliteValue.valueError "reflectlite.Value.IsNil" 0) ReflectliteValue.isNil) Tryd.func53 (by kernel_rfl) (by kernel_rfl) (by kernel_rfl) (by kernel_rfl)
  have h34 := @run_callFunc_extern Tryd.prog 74 _ (ReflectliteType.abiMethod fun t => do pure (.int .u8 (← Rtype.kind t))) Tryd.func74 (by kernel_rfl) (by kernel_rfl) (by kernel_rfl) (by kernel_rfl)
  have h44 := @run_callFunc_extern Tryd.prog 97 _ (ReflectliteType.method ReflectliteType.elem) Tryd.func97 (by kernel_rfl) (by kernel_rfl) (by kernel_rfl) (by kernel_rfl)
  have h45 := @run_callFunc_extern Tryd.prog 98 _ (ReflectliteType.relation "Implements" ReflectliteType.implements_) Tryd.func98 (by kernel_rfl) (by kernel_rfl) (by kernel_rfl) (by kernel_rfl)
  have h17 := @run_callFunc_extern Tryd.prog 57 _ ReflectliteType.typeOf Tryd.func57 (by kernel_rfl) (by kernel_rfl) (by kernel_rfl) (by kernel_rfl)
  have h42 := @run_callFunc_extern Tryd.prog 95 _ (ReflectliteType.relation "AssignableTo" ReflectliteType.assignableTo) Tryd.func95 (by kernel_rfl) (by kernel_rfl) (by kernel_rfl) (by kernel_rfl)
  have h18 := @run_callFunc_extern Tryd.prog 58 _ (ReflectliteValue.method (ReflectliteValue.valueError "reflectlite.Value.Elem" 0) ReflectliteValue.elem) Tryd.func58 (by kernel_rfl) (by kernel_rfl) (by kernel_rfl) (by kernel_rfl)
  have h19 := @run_callFunc_extern Tryd.prog 59 _ ReflectliteValue.set Tryd.func59 (by kernel_rfl) (by kernel_rfl) (by kernel_rfl) (by kernel_rfl)
  have tO := typeOf38
  have mA := methodAssignableTo
  have a38 := assignable38
  have v38 := valueOf38
  have f13 := valueOf40
  have f14 := type40
  have mK := methodKind
  have mE := methodElem
  have mI := methodImplements
  have k40 := kind40
  have k38 := kind38
  have e40 := elem40
  have i38 := implements38
  have n15 := isNil40 ⟨w.heap.size, 0, none⟩ t ((w.alloc (.cells #[.pointer (some t)] 83)).alloc (.cells #[.pointer (some ⟨1, 83, none⟩), .pointer (some ⟨w.heap.size, 0, none⟩), .int .u64 150] 99)) (by simp)
  have hlt : 0 < w.heap.size := by
    rcases Nat.lt_or_ge 0 w.heap.size with h | h
    · exact h
    · simp [World.cell?, Array.getElem?_eq_none h] at hg
  have hg2 : ((w.alloc (.cells #[.pointer (some t)] 83)).alloc (.cells #[.pointer (some ⟨1, 83, none⟩), .pointer (some ⟨w.heap.size, 0, none⟩), .int .u64 150] 99)).cell? ⟨0, 0, none⟩ = some (.iface 113 (.agg #[.pointer (some ⟨1, 77, none⟩)])) := by
    rw [World.cell?_alloc_lt _ _ ⟨0, 0, none⟩ (by rw [size_alloc_one]; exact Nat.lt_succ_of_lt hlt), World.cell?_alloc_lt _ _ ⟨0, 0, none⟩ hlt]; exact hg
  have htl : t.block < w.heap.size := by
    rcases Nat.lt_or_ge t.block w.heap.size with h | h
    · exact h
    · simp [World.cell?, Array.getElem?_eq_none h] at ht0
  have el := elemV40 ⟨w.heap.size, 0, none⟩ t (((w.alloc (.cells #[.pointer (some t)] 83)).alloc (.cells #[.pointer (some ⟨1, 83, none⟩), .pointer (some ⟨w.heap.size, 0, none⟩), .int .u64 150] 99)).alloc (.cells #[.pointer (some ⟨1, 83, none⟩), .pointer (some ⟨w.heap.size, 0, none⟩), .int .u64 150] 99)) (by rw [World.cell?_alloc_lt _ _ ⟨w.heap.size, 0, none⟩ (by simp; omega)]; simp)
  have st := set38 t ⟨w.heap.size + 1 + 1 + 1, 0, none⟩ n old ((((w.alloc (.cells #[.pointer (some t)] 83)).alloc (.cells #[.pointer (some ⟨1, 83, none⟩), .pointer (some ⟨w.heap.size, 0, none⟩), .int .u64 150] 99)).alloc (.cells #[.pointer (some ⟨1, 83, none⟩), .pointer (some ⟨w.heap.size, 0, none⟩), .int .u64 150] 99)).alloc (.cells #[.int .i64 n] 81))
    (by rw [World.cell?_alloc_at _ _ _ _ (by simp)]; rfl)
    (by rw [World.cell?_alloc_lt _ _ t (by simp; omega), World.cell?_alloc_lt _ _ t (by simp; omega), World.cell?_alloc_lt _ _ t (by simp; omega), World.cell?_alloc_lt _ _ t htl]; exact ht0)
    (by rw [World.frozen?_alloc_old _ _ t (by simp; omega), World.frozen?_alloc_old _ _ t (by simp; omega), World.frozen?_alloc_old _ _ t (by simp; omega), World.frozen?_alloc_old _ _ t (Nat.ne_of_lt htl)]; exact hf0)
  go_enter Tryd.func43, Tryd.ntmps43
  go_wp2
  refine wp_loop_rounds 1 ?_
  rw [rounds_succ]
  go_wp2
  go_ret
  exact ⟨rfl, rfl⟩
end Go.Proofs.YtnjfbokomihecaaDoor

namespace Go.Proofs.YtnjfbokomihecaaDoor
open Go.RowKit

/-- What package errors keeps in its variable errorType. -/
def Laid (w : World) : Prop := w.cell? ⟨0, 0, none⟩ = some (.iface 113 (.agg #[.pointer (some ⟨1, 77, none⟩)]))
theorem Laid.pos {w : World} (h : Laid w) : 0 < w.heap.size := by
  rcases Nat.lt_or_ge 0 w.heap.size with h0 | h1
  · exact h0
  · unfold Laid at h; simp [World.cell?, Array.getElem?_eq_none h1] at h
theorem Laid.alloc {w : World} (h : Laid w) (o : Obj) : Laid (w.alloc o) := by
  unfold Laid at *
  rw [World.cell?_alloc_lt _ _ ⟨0, 0, none⟩ (Laid.pos h)]; exact h
theorem Laid.below {w w' : World} (h : Laid w) (hb : Below w.heap.size w w') : Laid w' := by
  unfold Laid at *
  rw [hb.cell (p := ⟨0, 0, none⟩) (Laid.pos h)]; exact h

theorem goN_bad (s : ByteArray) (a : Nat) : ∀ f i u, ¬ (goN s a f i u).2.2 = 0 → goN s a f i u = (0, 0, (goN s a f i u).2.2)
  | 0, _, _, _ => rfl
  | f + 1, i, u, h => by
    rw [goN] at h ⊢
    by_cases h1 : s.size ≤ a + i
    · rw [if_pos h1]
    rw [if_neg h1] at h ⊢
    by_cases h2 : i = 9 ∧ 1 < byt s (a + i)
    · rw [if_pos h2]
    rw [if_neg h2] at h ⊢
    by_cases h3 : 128 ≤ byt s (a + i)
    · rw [if_pos h3] at h ⊢
      exact goN_bad s a f (i + 1) _ h
    rw [if_neg h3] at h ⊢
    by_cases h4 : byt s (a + i) = 0 ∧ 0 < i
    · rw [if_pos h4]
    · rw [if_neg h4] at h; simp at h

theorem asW_below (n : Int) (t : Addr) (w : World) {B : Nat} {w0 : World} (h : Below B w0 w) (hB : B ≤ w.heap.size) (ht : B ≤ t.block) : Below B w0 (asW n t w) := by
  unfold asW
  exact ((((h.alloc hB _).alloc (by simp; omega) _).alloc (by simp; omega) _).alloc (by simp; omega) _).setCell ht _

set_option maxHeartbeats 2000000 in
theorem implGet_ok (s : ByteArray) (p : Nat) (w : World) (hs : s.size ≤ 8000) (hp : (p : Int) ≤ 9223372036854775807) (n q : Int) (hR : goN s p 10 0 0 = (n, q, 0)) :
    Calls Tryd.prog 25 #[.string s, .int .i64 p] w fun e w' => e = .returned (numV (n, q, 0)) ∧ Below w.heap.size w w' := by
  have HR := Lib.hid hR
  clear hR
  go_enter Tryd.func25, Tryd.ntmps25
  go_wp2_with fail
  refine (read_any s p _ hs hp _ HR.out).mono ?_
  rintro e w' ⟨rfl, rfl⟩
  rw [readV_good]
  go_wp2_with fail
  refine (as_nil _ _).mono ?_
  rintro e w' ⟨rfl, rfl⟩
  go_wp2_with fail
  exact bodyPost_ret (v := numV (n, q, 0)) (by simp [numV, results, Tryd.results25, go_sem]) rfl ⟨rfl, by repeat (first | exact Below.refl _ _ | refine Below.alloc ?_ (by simp) _)⟩

set_option maxHeartbeats 2000000 in
theorem implGet_err (s : ByteArray) (p : Nat) (w : World) (hs : s.size ≤ 8000) (hp : (p : Int) ≤ 9223372036854775807) (hL : Laid w) (code : Int) (hne : ¬ code = 0) (hR : goN s p 10 0 0 = (0, 0, code)) :
    Calls Tryd.prog 25 #[.string s, .int .i64 p] w fun e w' => e = .returned (numV (0, 0, code)) ∧ Below w.heap.size w w' := by
  have HR := Lib.hid hR
  have HL := Lib.hid hL
  have HN := Lib.hid (readV_bad code hne)
  clear hR hL hne
  go_enter Tryd.func25, Tryd.ntmps25
  go_wp2_with fail
  refine (read_any s p _ hs hp _ HR.out).mono ?_
  rintro e w' ⟨rfl, rfl⟩
  rw [HN.out]
  go_wp2_with fail
  refine (as_hit code _ (.int .i64 0) _ ((HL.out.alloc _).alloc _) (by simp) (by simp)).mono ?_
  rintro e w' ⟨rfl, rfl⟩
  unfold asW
  go_wp2_with fail
  exact bodyPost_ret (v := numV (0, 0, code)) (by simp [numV, results, Tryd.results25, go_sem]) rfl ⟨rfl, by repeat (first | exact Below.refl _ _ | refine Below.alloc ?_ (by simp; omega) _ | refine Below.alloc ?_ (by simp) _)⟩

/-- What decoding an integer gives, at every offset. -/
def getR (s : ByteArray) (x : Int) : Int × Int × Int := if 8000 < s.size then (0, 0, 2) else if x < 0 then (0, 0, 1) else goN s x.toNat 10 0 0

set_option maxHeartbeats 400000 in
theorem specGet_long (s : ByteArray) (x : Int) (w : World) (hs : s.size ≤ maxLen) (h : 8000 < s.size) :
    Calls Tryd.prog 48 #[.string s, .int .i64 x] w fun e w' => e = .returned (numV (0, 0, 2)) ∧ Below w.heap.size w w' := by
  unfold maxLen at hs
  go_enter Tryd.func48, Tryd.ntmps48
  go_wp2_with fail
  exact bodyPost_ret (v := numV (0, 0, 2)) (by simp [numV, results, Tryd.results48, go_sem]) rfl ⟨rfl, (Below.refl _ _).alloc (Nat.le_refl _) _⟩
set_option maxHeartbeats 400000 in
theorem specGet_neg (s : ByteArray) (x : Int) (w : World) (hs : s.size ≤ 8000) (h : x < 0) :
    Calls Tryd.prog 48 #[.string s, .int .i64 x] w fun e w' => e = .returned (numV (0, 0, 1)) ∧ Below w.heap.size w w' := by
  go_enter Tryd.func48, Tryd.ntmps48
  go_wp2_with fail
  exact bodyPost_ret (v := numV (0, 0, 1)) (by simp [numV, results, Tryd.results48, go_sem]) rfl ⟨rfl, (Below.refl _ _).alloc (Nat.le_refl _) _⟩
set_option maxHeartbeats 400000 in
theorem implGet_long (s : ByteArray) (x : Int) (w : World) (hs : s.size ≤ maxLen) (h : 8000 < s.size) :
    Calls Tryd.prog 25 #[.string s, .int .i64 x] w fun e w' => e = .returned (numV (0, 0, 2)) ∧ Below w.heap.size w w' := by
  unfold maxLen at hs
  go_enter Tryd.func25, Tryd.ntmps25
  go_wp2_with fail
  exact bodyPost_ret (v := numV (0, 0, 2)) (by simp [numV, results, Tryd.results25, go_sem]) rfl ⟨rfl, (Below.refl _ _).alloc (Nat.le_refl _) _⟩
set_option maxHeartbeats 400000 in
theorem implGet_neg (s : ByteArray) (x : Int) (w : World) (hs : s.size ≤ 8000) (h : x < 0) :
    Calls Tryd.prog 25 #[.string s, .int .i64 x] w fun e w' => e = .returned (numV (0, 0, 1)) ∧ Below w.heap.size w w' := by
  go_enter Tryd.func25, Tryd.ntmps25
  go_wp2_with fail
  exact bodyPost_ret (v := numV (0, 0, 1)) (by simp [numV, results, Tryd.results25, go_sem]) rfl ⟨rfl, (Below.refl _ _).alloc (Nat.le_refl _) _⟩

theorem specGet_any (s : ByteArray) (x : Int) (w : World) (hs : s.size ≤ maxLen) (hx : x ≤ 9223372036854775807) :
    Calls Tryd.prog 48 #[.string s, .int .i64 x] w fun e w' => e = .returned (numV (getR s x)) ∧ Below w.heap.size w w' := by
  unfold getR
  by_cases h : 8000 < s.size
  · rw [if_pos h]; exact specGet_long s x w hs h
  rw [if_neg h]
  by_cases h0 : x < 0
  · rw [if_pos h0]; exact specGet_neg s x w (by omega) h0
  rw [if_neg h0]
  obtain ⟨p, rfl⟩ := Int.eq_ofNat_of_zero_le (show 0 ≤ x by omega)
  exact specGet_mid s p w (by omega) hx _ rfl

theorem implGet_any (s : ByteArray) (x : Int) (w : World) (hs : s.size ≤ maxLen) (hx : x ≤ 9223372036854775807) (hL : Laid w) :
    Calls Tryd.prog 25 #[.string s, .int .i64 x] w fun e w' => e = .returned (numV (getR s x)) ∧ Below w.heap.size w w' := by
  unfold getR
  by_cases h : 8000 < s.size
  · rw [if_pos h]; exact implGet_long s x w hs h
  rw [if_neg h]
  by_cases h0 : x < 0
  · rw [if_pos h0]; exact implGet_neg s x w (by omega) h0
  rw [if_neg h0]
  obtain ⟨p, rfl⟩ := Int.eq_ofNat_of_zero_le (show 0 ≤ x by omega)
  rw [Int.toNat_natCast]
  by_cases hc : (goN s p 10 0 0).2.2 = 0
  · have e : goN s p 10 0 0 = ((goN s p 10 0 0).1, (goN s p 10 0 0).2.1, 0) := by rw [← hc]
    rw [e]
    exact implGet_ok s p w (by omega) hx _ _ e
  · have e := goN_bad s p 10 0 0 hc
    rw [e]
    exact implGet_err s p w (by omega) hx hL _ hc e

end Go.Proofs.YtnjfbokomihecaaDoor

namespace Go.Proofs.YtnjfbokomihecaaDoor
open Go.RowKit

attribute [local go_sem ↓] Go.wp_at_zero Go.wp_at_succ

theorem goN_ok (s : ByteArray) (a : Nat) : ∀ f i u, (goN s a f i u).2.2 = 0 → 0 ≤ (goN s a f i u).2.1 ∧ (goN s a f i u).2.1 ≤ s.size
  | 0, _, _, h => by simp [goN] at h
  | f + 1, i, u, h => by
    rw [goN] at h ⊢
    by_cases h1 : s.size ≤ a + i
    · rw [if_pos h1] at h; simp at h
    rw [if_neg h1] at h ⊢
    by_cases h2 : i = 9 ∧ 1 < byt s (a + i)
    · rw [if_pos h2] at h; simp at h
    rw [if_neg h2] at h ⊢
    by_cases h3 : 128 ≤ byt s (a + i)
    · rw [if_pos h3] at h ⊢
      exact goN_ok s a f (i + 1) _ h
    rw [if_neg h3] at h ⊢
    by_cases h4 : byt s (a + i) = 0 ∧ 0 < i
    · rw [if_pos h4] at h; simp at h
    · rw [if_neg h4]; simp; omega
theorem getR_ok (s : ByteArray) (x : Int) (h : (getR s x).2.2 = 0) : s.size ≤ 8000 ∧ 0 ≤ (getR s x).2.1 ∧ (getR s x).2.1 ≤ s.size := by
  unfold getR at *
  by_cases h8 : 8000 < s.size
  · rw [if_pos h8] at h; simp at h
  rw [if_neg h8] at h ⊢
  by_cases h0 : x < 0
  · rw [if_pos h0] at h; simp at h
  rw [if_neg h0] at h ⊢
  exact ⟨by omega, goN_ok s _ _ _ _ h⟩

theorem gres_cells {K : Nat} {w w' : World} {a b c : Value} {T : TypeId} (hb : Below K (w.alloc (.cells #[a, b, c] T)) w') (hK : w.heap.size < K) :
    (w'.cell? ⟨w.heap.size, 0, none⟩ = some a ∧ w'.cell? ⟨w.heap.size, 1, none⟩ = some b ∧ w'.cell? ⟨w.heap.size, 2, none⟩ = some c) ∧
    w'.frozen? ⟨w.heap.size, 0, none⟩ = false ∧ w'.frozen? ⟨w.heap.size, 1, none⟩ = false ∧ w'.frozen? ⟨w.heap.size, 2, none⟩ = false := by
  have hf : ∀ j, w'.frozen? ⟨w.heap.size, j, none⟩ = false := fun j =>
    (hb.frozen (p := ⟨w.heap.size, j, none⟩) hK).trans (World.frozen?_alloc_at #[a, b, c] T w.heap.size j rfl)
  exact ⟨laid_cells hb hK, hf 0, hf 1, hf 2⟩

theorem kept_two (w1 : World) (b : Nat) (u v t m q z : Value) :
    ((((w1.setCell ⟨b, 0, none⟩ u).setCell ⟨b, 1, none⟩ v).setCell ⟨b, 2, none⟩ t).alloc (.cells #[m, q, z] 49)).drew.cell? ⟨w1.heap.size, 0, none⟩ = some m ∧
    ((((w1.setCell ⟨b, 0, none⟩ u).setCell ⟨b, 1, none⟩ v).setCell ⟨b, 2, none⟩ t).alloc (.cells #[m, q, z] 49)).drew.cell? ⟨w1.heap.size, 1, none⟩ = some q := by
  constructor
  · show (World.alloc _ _).cell? _ = _
    rw [World.cell?_alloc_at _ _ _ _ (by simp)]; rfl
  · show (World.alloc _ _).cell? _ = _
    rw [World.cell?_alloc_at _ _ _ _ (by simp)]; rfl

theorem text_below {w w1 : World} {o : Obj} (hb : Below (w.alloc o).heap.size (w.alloc o) w1) (a b c : Value) (o' : Obj) :
    Below w.heap.size w ((((w1.setCell ⟨w.heap.size, 0, none⟩ a).setCell ⟨w.heap.size, 1, none⟩ b).setCell ⟨w.heap.size, 2, none⟩ c).alloc o') :=
  ((((((Below.refl _ w).alloc (Nat.le_refl _) o).trans (hb.mono (Nat.le_of_lt (laid_size _ _)))).setCell (p := ⟨w.heap.size, 0, none⟩) (Nat.le_refl _) a).setCell (p := ⟨w.heap.size, 1, none⟩) (Nat.le_refl _) b).setCell (p := ⟨w.heap.size, 2, none⟩) (Nat.le_refl _) c).alloc
    (by simp; exact Nat.le_of_lt (Nat.lt_of_lt_of_le (laid_size _ _) hb.size)) o'

set_option maxHeartbeats 1000000 in
theorem specText_A (s : ByteArray) (x : Int) (w : World) (hs : s.size ≤ maxLen) (hx : x ≤ 9223372036854775807) (c : Int) (hR : getR s x = (0, 0, c))
    (hc : (c != 0) = true) :
    Calls Tryd.prog 49 #[.string s, .int .i64 x] w fun e w' => e = .returned (textV ⟨#[]⟩ 0 c) ∧ Below w.heap.size w w' := by
  have HS := Lib.hid hs
  have HR := Lib.hid hR
  clear hs hR
  have hv : numV (0, 0, c) = .agg #[.int .i64 0, .int .i64 0, .int .i64 c] := rfl
  go_enter Tryd.func49, Tryd.ntmps49
  go_wp2_with fail
  refine (specGet_any s x _ HS.out hx).mono ?_
  rintro e w1 ⟨rfl, hb1⟩
  rw [HR.out, hv]
  obtain ⟨⟨q0, q1, q2⟩, f0, f1, f2⟩ := gres_cells hb1 (laid_size _ _)
  have hz : w.heap.size < w1.heap.size := Nat.lt_of_lt_of_le (laid_size _ _) hb1.size
  clear hv
  go_wp2_with fail
  exact bodyPost_ret (v := textV ⟨#[]⟩ 0 c) (by simp [textV, results, Tryd.results49, go_sem, q0, q1, q2, hz]) rfl ⟨rfl, text_below hb1 _ _ _ _⟩

set_option maxHeartbeats 1000000 in
theorem specText_B (s : ByteArray) (x : Int) (w : World) (hs : s.size ≤ maxLen) (hx : x ≤ 9223372036854775807) (n q : Int) (hR : getR s x = (n, q, 0))
    (hn : n < 0 ∨ 8000 < n) :
    Calls Tryd.prog 49 #[.string s, .int .i64 x] w fun e w' => e = .returned (textV ⟨#[]⟩ 0 3) ∧ Below w.heap.size w w' := by
  have HS := Lib.hid hs
  have HR := Lib.hid hR
  clear hs hR
  have hv : numV (n, q, 0) = .agg #[.int .i64 n, .int .i64 q, .int .i64 0] := rfl
  rcases hn with hn | hn
  all_goals
    go_enter Tryd.func49, Tryd.ntmps49
    go_wp2_with fail
    refine (specGet_any s x _ HS.out hx).mono ?_
    rintro e w1 ⟨rfl, hb1⟩
    rw [HR.out, hv]
    obtain ⟨⟨q0, q1, q2⟩, f0, f1, f2⟩ := gres_cells hb1 (laid_size _ _)
    have hz : w.heap.size < w1.heap.size := Nat.lt_of_lt_of_le (laid_size _ _) hb1.size
    clear hv
    go_wp2_with fail
    exact bodyPost_ret (v := textV ⟨#[]⟩ 0 3) (by simp [textV, results, Tryd.results49, go_sem, q0, q1, q2, hz]) rfl ⟨rfl, text_below hb1 _ _ _ _⟩

set_option maxHeartbeats 1000000 in
theorem specText_C (s : ByteArray) (x : Int) (w : World) (hs : s.size ≤ maxLen) (hx : x ≤ 9223372036854775807) (m q : Nat) (hR : getR s x = ((m : Int), (q : Int), 0))
    (h8 : s.size ≤ 8000) (hm : m ≤ 8000) (hq : s.size < q + m) (hq2 : q ≤ s.size) :
    Calls Tryd.prog 49 #[.string s, .int .i64 x] w fun e w' => e = .returned (textV ⟨#[]⟩ 0 4) ∧ Below w.heap.size w w' := by
  have HS := Lib.hid hs
  have HR := Lib.hid hR
  clear hs hR
  have hv : numV ((m : Int), (q : Int), 0) = .agg #[.int .i64 m, .int .i64 q, .int .i64 0] := rfl
  have b0 : (s.size : Int) - (m : Int) < (q : Int) := by omega
  have b1 : (s.size : Int) < (q : Int) + (m : Int) := by omega
  go_enter Tryd.func49, Tryd.ntmps49
  go_wp2_with fail
  refine (specGet_any s x _ HS.out hx).mono ?_
  rintro e w1 ⟨rfl, hb1⟩
  rw [HR.out, hv]
  obtain ⟨⟨q0, q1, q2⟩, f0, f1, f2⟩ := gres_cells hb1 (laid_size _ _)
  have hz : w.heap.size < w1.heap.size := Nat.lt_of_lt_of_le (laid_size _ _) hb1.size
  clear hv
  go_wp2_with fail
  exact bodyPost_ret (v := textV ⟨#[]⟩ 0 4) (by simp [textV, results, Tryd.results49, go_sem, q0, q1, q2, hz]) rfl ⟨rfl, text_below hb1 _ _ _ _⟩

set_option maxHeartbeats 1000000 in
theorem specText_D (s : ByteArray) (x : Int) (w : World) (hs : s.size ≤ maxLen) (hx : x ≤ 9223372036854775807) (m q : Nat) (hR : getR s x = ((m : Int), (q : Int), 0))
    (h8 : s.size ≤ 8000) (hm : m ≤ 8000) (hq : q + m ≤ s.size) :
    Calls Tryd.prog 49 #[.string s, .int .i64 x] w fun e w' => e = .returned (textV (s.extract q (q + m)) ((q : Int) + m) 0) ∧ Below w.heap.size w w' := by
  have HS := Lib.hid hs
  have HR := Lib.hid hR
  clear hs hR
  have hv : numV ((m : Int), (q : Int), 0) = .agg #[.int .i64 m, .int .i64 q, .int .i64 0] := rfl
  have b0 : (q : Int) ≤ (s.size : Int) - (m : Int) := by omega
  have b1 : (0 : Int) ≤ (q : Int) := by omega
  have b2 : (q : Int) ≤ (q : Int) + (m : Int) := by omega
  have b3 : (q : Int) + (m : Int) ≤ (s.size : Int) := by omega
  have ht : ((q : Int) + (m : Int)).toNat = q + m := by omega
  have hw : IntKind.i64.wrap ((q : Int) + m) = (q : Int) + m := IntWalk.i64_in _ (by omega)
  go_enter Tryd.func49, Tryd.ntmps49
  go_wp2_with fail
  refine (specGet_any s x _ HS.out hx).mono ?_
  rintro e w1 ⟨rfl, hb1⟩
  rw [HR.out, hv]
  obtain ⟨⟨q0, q1, q2⟩, f0, f1, f2⟩ := gres_cells hb1 (laid_size _ _)
  have hz : w.heap.size < w1.heap.size := Nat.lt_of_lt_of_le (laid_size _ _) hb1.size
  clear hv
  go_wp2_with fail
  go_region_held3 (fun w' => w'.cell? ⟨w1.heap.size, 0, none⟩ = some (.int .i64 m) ∧ w'.cell? ⟨w1.heap.size, 1, none⟩ = some (.int .i64 q)) (first | (with_reducible exact kept_two _ _ _ _ _ _ _ _) | go_keep) (fail)
  go_wp2_with fail
  exact bodyPost_ret (v := textV (s.extract q (q + m)) ((q : Int) + m) 0) (by simp [textV, results, Tryd.results49, go_sem, q0, q1, q2, hz]) rfl ⟨rfl, (text_below hb1 _ _ _ _).drew⟩

set_option maxHeartbeats 1000000 in
theorem implText_A (s : ByteArray) (x : Int) (w : World) (hs : s.size ≤ maxLen) (hx : x ≤ 9223372036854775807) (hL : Laid w) (c : Int) (hR : getR s x = (0, 0, c))
    (hc : (c != 0) = true) :
    Calls Tryd.prog 26 #[.string s, .int .i64 x] w fun e w' => e = .returned (textV ⟨#[]⟩ 0 c) ∧ Below w.heap.size w w' := by
  have HS := Lib.hid hs
  have HR := Lib.hid hR
  have HL := Lib.hid (hL.alloc (.cells #[.string ⟨#[]⟩, .int .i64 0, .int .i64 0] 52))
  clear hL
  clear hs hR
  have hv : numV (0, 0, c) = .agg #[.int .i64 0, .int .i64 0, .int .i64 c] := rfl
  go_enter Tryd.func26, Tryd.ntmps26
  go_wp2_with fail
  refine (implGet_any s x _ HS.out hx HL.out).mono ?_
  rintro e w1 ⟨rfl, hb1⟩
  rw [HR.out, hv]
  obtain ⟨⟨q0, q1, q2⟩, f0, f1, f2⟩ := gres_cells hb1 (laid_size _ _)
  have hz : w.heap.size < w1.heap.size := Nat.lt_of_lt_of_le (laid_size _ _) hb1.size
  clear hv
  go_wp2_with fail
  exact bodyPost_ret (v := textV ⟨#[]⟩ 0 c) (by simp [textV, results, Tryd.results26, go_sem, q0, q1, q2, hz]) rfl ⟨rfl, text_below hb1 _ _ _ _⟩

set_option maxHeartbeats 1000000 in
theorem implText_B (s : ByteArray) (x : Int) (w : World) (hs : s.size ≤ maxLen) (hx : x ≤ 9223372036854775807) (hL : Laid w) (n q : Int) (hR : getR s x = (n, q, 0))
    (hn : n < 0 ∨ 8000 < n) :
    Calls Tryd.prog 26 #[.string s, .int .i64 x] w fun e w' => e = .returned (textV ⟨#[]⟩ 0 3) ∧ Below w.heap.size w w' := by
  have HS := Lib.hid hs
  have HR := Lib.hid hR
  have HL := Lib.hid (hL.alloc (.cells #[.string ⟨#[]⟩, .int .i64 0, .int .i64 0] 52))
  clear hL
  clear hs hR
  have hv : numV (n, q, 0) = .agg #[.int .i64 n, .int .i64 q, .int .i64 0] := rfl
  rcases hn with hn | hn
  all_goals
    go_enter Tryd.func26, Tryd.ntmps26
    go_wp2_with fail
    refine (implGet_any s x _ HS.out hx HL.out).mono ?_
    rintro e w1 ⟨rfl, hb1⟩
    rw [HR.out, hv]
    obtain ⟨⟨q0, q1, q2⟩, f0, f1, f2⟩ := gres_cells hb1 (laid_size _ _)
    have hz : w.heap.size < w1.heap.size := Nat.lt_of_lt_of_le (laid_size _ _) hb1.size
    clear hv
    go_wp2_with fail
    exact bodyPost_ret (v := textV ⟨#[]⟩ 0 3) (by simp [textV, results, Tryd.results26, go_sem, q0, q1, q2, hz]) rfl ⟨rfl, text_below hb1 _ _ _ _⟩

set_option maxHeartbeats 1000000 in
theorem implText_C (s : ByteArray) (x : Int) (w : World) (hs : s.size ≤ maxLen) (hx : x ≤ 9223372036854775807) (hL : Laid w) (m q : Nat) (hR : getR s x = ((m : Int), (q : Int), 0))
    (h8 : s.size ≤ 8000) (hm : m ≤ 8000) (hq : s.size < q + m) (hq2 : q ≤ s.size) :
    Calls Tryd.prog 26 #[.string s, .int .i64 x] w fun e w' => e = .returned (textV ⟨#[]⟩ 0 4) ∧ Below w.heap.size w w' := by
  have HS := Lib.hid hs
  have HR := Lib.hid hR
  have HL := Lib.hid (hL.alloc (.cells #[.string ⟨#[]⟩, .int .i64 0, .int .i64 0] 52))
  clear hL
  clear hs hR
  have hv : numV ((m : Int), (q : Int), 0) = .agg #[.int .i64 m, .int .i64 q, .int .i64 0] := rfl
  have b0 : (s.size : Int) - (m : Int) < (q : Int) := by omega
  have b1 : (s.size : Int) < (q : Int) + (m : Int) := by omega
  go_enter Tryd.func26, Tryd.ntmps26
  go_wp2_with fail
  refine (implGet_any s x _ HS.out hx HL.out).mono ?_
  rintro e w1 ⟨rfl, hb1⟩
  rw [HR.out, hv]
  obtain ⟨⟨q0, q1, q2⟩, f0, f1, f2⟩ := gres_cells hb1 (laid_size _ _)
  have hz : w.heap.size < w1.heap.size := Nat.lt_of_lt_of_le (laid_size _ _) hb1.size
  clear hv
  go_wp2_with fail
  exact bodyPost_ret (v := textV ⟨#[]⟩ 0 4) (by simp [textV, results, Tryd.results26, go_sem, q0, q1, q2, hz]) rfl ⟨rfl, text_below hb1 _ _ _ _⟩

set_option maxHeartbeats 1000000 in
theorem implText_D (s : ByteArray) (x : Int) (w : World) (hs : s.size ≤ maxLen) (hx : x ≤ 9223372036854775807) (hL : Laid w) (m q : Nat) (hR : getR s x = ((m : Int), (q : Int), 0))
    (h8 : s.size ≤ 8000) (hm : m ≤ 8000) (hq : q + m ≤ s.size) :
    Calls Tryd.prog 26 #[.string s, .int .i64 x] w fun e w' => e = .returned (textV (s.extract q (q + m)) ((q : Int) + m) 0) ∧ Below w.heap.size w w' := by
  have HS := Lib.hid hs
  have HR := Lib.hid hR
  have HL := Lib.hid (hL.alloc (.cells #[.string ⟨#[]⟩, .int .i64 0, .int .i64 0] 52))
  clear hL
  clear hs hR
  have hv : numV ((m : Int), (q : Int), 0) = .agg #[.int .i64 m, .int .i64 q, .int .i64 0] := rfl
  have b0 : (q : Int) ≤ (s.size : Int) - (m : Int) := by omega
  have b1 : (0 : Int) ≤ (q : Int) := by omega
  have b2 : (q : Int) ≤ (q : Int) + (m : Int) := by omega
  have b3 : (q : Int) + (m : Int) ≤ (s.size : Int) := by omega
  have ht : ((q : Int) + (m : Int)).toNat = q + m := by omega
  have hw : IntKind.i64.wrap ((q : Int) + m) = (q : Int) + m := IntWalk.i64_in _ (by omega)
  go_enter Tryd.func26, Tryd.ntmps26
  go_wp2_with fail
  refine (implGet_any s x _ HS.out hx HL.out).mono ?_
  rintro e w1 ⟨rfl, hb1⟩
  rw [HR.out, hv]
  obtain ⟨⟨q0, q1, q2⟩, f0, f1, f2⟩ := gres_cells hb1 (laid_size _ _)
  have hz : w.heap.size < w1.heap.size := Nat.lt_of_lt_of_le (laid_size _ _) hb1.size
  clear hv
  go_wp2_with fail
  exact bodyPost_ret (v := textV (s.extract q (q + m)) ((q : Int) + m) 0) (by simp [textV, results, Tryd.results26, go_sem, q0, q1, q2, hz]) rfl ⟨rfl, text_below hb1 _ _ _ _⟩

end Go.Proofs.YtnjfbokomihecaaDoor

namespace Go.Proofs.YtnjfbokomihecaaDoor
open Go.RowKit

theorem getR_bad (s : ByteArray) (x : Int) (h : ¬ (getR s x).2.2 = 0) : getR s x = (0, 0, (getR s x).2.2) := by
  unfold getR at *
  by_cases h8 : 8000 < s.size
  · rw [if_pos h8]
  rw [if_neg h8] at h ⊢
  by_cases h0 : x < 0
  · rw [if_pos h0]
  rw [if_neg h0] at h ⊢
  exact goN_bad s _ _ _ _ h

end Go.Proofs.YtnjfbokomihecaaDoor
