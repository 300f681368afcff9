/- Ground texts of this claim, in one. -/
import Derived.BigQuiet
import Derived.BigRegion
import Derived.Deep.QuietTactic
import Derived.Deep.RegionHeld3
import Derived.Deep.WholeRow
import Derived.Laws.Bits64b
import Derived.StillTailTactics
import Derived.Test.YtcckpkcjekcajaaDoorBase
import Derived.Test.YtcckpkcjekcajaaDoorCells
import Derived.Test.YtcckpkcjekcajaaDoorM1
import Derived.WalkKit
namespace Go.Proofs.YtcckpkcjekcajaaDoor
open Go

theorem u32_lt (x : UInt32) : x.toNat < 4294967296 := UInt32.toNat_lt x
theorem u32_nat (n : Nat) (h : n < 4294967296) : (UInt32.ofNat n).toNat = n := by
  show n % 2 ^ 32 = n; omega
theorem u32_mod (x : UInt32) : x.toNat % 2 ^ 32 = x.toNat := Nat.mod_eq_of_lt (u32_lt x)
theorem u32_xor (x y : UInt32) : bits BinOp.xor IntKind.u32 (x.toNat : Int) (y.toNat : Int) = ((x ^^^ y).toNat : Int) := by
  show IntKind.u32.wrap ((BitVec.ofInt 32 (x.toNat : Int) ^^^ BitVec.ofInt 32 (y.toNat : Int)).toNat : Int) = _
  have h := u32_lt (x ^^^ y)
  rw [BitVec.toNat_xor, BitVec.ofInt_natCast, BitVec.ofInt_natCast, BitVec.toNat_ofNat, BitVec.toNat_ofNat, u32_mod, u32_mod, IntKind.wrap_u32, ← UInt32.toNat_xor]
  omega
theorem u32_and (x y : UInt32) : bits BinOp.and IntKind.u32 (x.toNat : Int) (y.toNat : Int) = ((x &&& y).toNat : Int) := by
  show IntKind.u32.wrap ((BitVec.ofInt 32 (x.toNat : Int) &&& BitVec.ofInt 32 (y.toNat : Int)).toNat : Int) = _
  have h := u32_lt (x &&& y)
  rw [BitVec.toNat_and, BitVec.ofInt_natCast, BitVec.ofInt_natCast, BitVec.toNat_ofNat, BitVec.toNat_ofNat, u32_mod, u32_mod, IntKind.wrap_u32, ← UInt32.toNat_and]
  omega
theorem u32_or (x y : UInt32) : bits BinOp.or IntKind.u32 (x.toNat : Int) (y.toNat : Int) = ((x ||| y).toNat : Int) := by
  show IntKind.u32.wrap ((BitVec.ofInt 32 (x.toNat : Int) ||| BitVec.ofInt 32 (y.toNat : Int)).toNat : Int) = _
  have h := u32_lt (x ||| y)
  rw [BitVec.toNat_or, BitVec.ofInt_natCast, BitVec.ofInt_natCast, BitVec.toNat_ofNat, BitVec.toNat_ofNat, u32_mod, u32_mod, IntKind.wrap_u32, ← UInt32.toNat_or]
  omega
theorem u32_add (x y : UInt32) : IntKind.u32.wrap ((x.toNat : Int) + (y.toNat : Int)) = ((x + y).toNat : Int) := by
  rw [IntKind.wrap_u32, UInt32.toNat_add]; omega
theorem u32_not (x : UInt32) : IntKind.u32.wrap (-1 - (x.toNat : Int)) = ((~~~x).toNat : Int) := by
  have h := u32_lt x
  rw [IntKind.wrap_u32, UInt32.toNat_not]
  simp only [UInt32.size]; omega
theorem u32_not' (x : UInt32) : IntKind.u32.wrap (-(x.toNat : Int) - 1) = ((~~~x).toNat : Int) := by
  rw [← u32_not]; congr 1; omega
theorem u32_id (x : UInt32) : IntKind.u32.wrap (x.toNat : Int) = (x.toNat : Int) := by
  have h := u32_lt x
  rw [IntKind.wrap_u32]; omega
theorem u32_i64 (x : UInt32) : IntKind.i64.wrap (x.toNat : Int) = (x.toNat : Int) := by
  have h := u32_lt x
  rw [IntKind.wrap_i64]; omega
theorem u32_shr (x : UInt32) (k : Nat) (hk : k < 32) : (x.toNat : Int) / 2 ^ k = ((x >>> (UInt32.ofNat k)).toNat : Int) := by
  have e : (UInt32.ofNat k).toNat % 32 = k := by
    rw [u32_nat k (by omega)]; omega
  rw [UInt32.toNat_shiftRight, e, Nat.shiftRight_eq_div_pow]; simp
theorem u32_shl (x : UInt32) (k : Nat) (hk : k < 32) : IntKind.u32.wrap ((x.toNat : Int) * 2 ^ k) = ((x <<< (UInt32.ofNat k)).toNat : Int) := by
  have e : (UInt32.ofNat k).toNat % 32 = k := by
    rw [u32_nat k (by omega)]; omega
  have e2 : (x.toNat : Int) * 2 ^ k = ((x.toNat * 2 ^ k : Nat) : Int) := by simp
  rw [UInt32.toNat_shiftLeft, e, Nat.shiftLeft_eq, e2, IntKind.wrap_u32]
  generalize x.toNat * 2 ^ k = m
  omega
/-- A byte widened. -/
theorem u32_byte (b : UInt8) : (b.toNat : Int) = (b.toUInt32.toNat : Int) := by simp
/-- The last byte of a word. -/
theorem u8_word (x : UInt32) : IntKind.u8.wrap (x.toNat : Int) = (x.toUInt8.toNat : Int) := by
  rw [IntKind.wrap_u8]; simp
theorem u32_ofNat (n : Nat) (h : n < 4294967296) : (n : Int) = ((UInt32.ofNat n).toNat : Int) := by
  rw [u32_nat n h]
end Go.Proofs.YtcckpkcjekcajaaDoor

namespace Go.Proofs.YtcckpkcjekcajaaDoor
open Go

def rotr (x : UInt32) (k : Nat) : UInt32 := x >>> UInt32.ofNat k ||| x <<< UInt32.ofNat (32 - k)
def sig0 (x : UInt32) : UInt32 := rotr x 7 ^^^ rotr x 18 ^^^ x >>> 3
def sig1 (x : UInt32) : UInt32 := rotr x 17 ^^^ rotr x 19 ^^^ x >>> 10
def sum0 (x : UInt32) : UInt32 := rotr x 2 ^^^ rotr x 13 ^^^ rotr x 22
def sum1 (x : UInt32) : UInt32 := rotr x 6 ^^^ rotr x 11 ^^^ rotr x 25
def choose (x y z : UInt32) : UInt32 := (x &&& y) ^^^ (~~~x &&& z)
def major (x y z : UInt32) : UInt32 := (x &&& y) ^^^ (x &&& z) ^^^ (y &&& z)

/-- Word i of a block whose bytes are c 0, c 1, .., big end first. -/
def word (c : Nat → UInt8) (i : Nat) : UInt32 :=
  (c (4 * i)).toUInt32 <<< 24 ||| (c (4 * i + 1)).toUInt32 <<< 16 ||| (c (4 * i + 2)).toUInt32 <<< 8 ||| (c (4 * i + 3)).toUInt32
/-- The schedule. -/
def sched (c : Nat → UInt8) (i : Nat) : UInt32 :=
  if _h : i < 16 then word c i
  else sched c (i - 16) + sig0 (sched c (i - 15)) + sched c (i - 7) + sig1 (sched c (i - 2))
termination_by i
theorem sched_low (c : Nat → UInt8) (i : Nat) (h : i < 16) : sched c i = word c i := by rw [sched, dif_pos h]
theorem sched_high (c : Nat → UInt8) (i : Nat) (h : 16 ≤ i) : sched c i = sched c (i - 16) + sig0 (sched c (i - 15)) + sched c (i - 7) + sig1 (sched c (i - 2)) := by
  rw [sched, dif_neg (by omega)]
/-- Word j when the first k bytes have been shifted in. -/
def part (c : Nat → UInt8) : Nat → Nat → UInt32
  | 0, _ => 0
  | k + 1, j => if k / 4 = j then part c k j <<< 8 ||| (c k).toUInt32 else part c k j
theorem part_zero (c : Nat → UInt8) (j : Nat) : ∀ k, k ≤ 4 * j → part c k j = 0
  | 0, _ => rfl
  | k + 1, h => by rw [part, if_neg (by omega)]; exact part_zero c j k (by omega)
theorem part_stays (c : Nat → UInt8) (j : Nat) : ∀ k, part c (4 * j + 4 + k) j = part c (4 * j + 4) j
  | 0 => rfl
  | k + 1 => by
    show part c (4 * j + 4 + k + 1) j = _
    rw [part, if_neg (by omega)]; exact part_stays c j k
theorem shl_or (x y : UInt32) (k : UInt32) : (x ||| y) <<< k = x <<< k ||| y <<< k := by
  simp [← UInt32.toBitVec_inj, BitVec.shiftLeft_or_distrib]
theorem shl_8_8 (x : UInt32) : x <<< 8 <<< 8 = x <<< 16 := by
  simp [← UInt32.toBitVec_inj, ← BitVec.shiftLeft_add]
theorem shl_16_8 (x : UInt32) : x <<< 16 <<< 8 = x <<< 24 := by
  simp [← UInt32.toBitVec_inj, ← BitVec.shiftLeft_add]
theorem part_word (c : Nat → UInt8) (j k : Nat) (h : 4 * j + 4 ≤ k) : part c k j = word c j := by
  obtain ⟨d, rfl⟩ : ∃ d, k = 4 * j + 4 + d := ⟨k - (4 * j + 4), by omega⟩
  rw [part_stays]
  have e0 : part c (4 * j) j = 0 := part_zero c j _ (Nat.le_refl _)
  have e1 : part c (4 * j + 1) j = (c (4 * j)).toUInt32 := by rw [part, if_pos (by omega), e0]; simp
  have e2 : part c (4 * j + 2) j = (c (4 * j)).toUInt32 <<< 8 ||| (c (4 * j + 1)).toUInt32 := by rw [part, if_pos (by omega), e1]
  have e3 : part c (4 * j + 3) j = (c (4 * j)).toUInt32 <<< 16 ||| (c (4 * j + 1)).toUInt32 <<< 8 ||| (c (4 * j + 2)).toUInt32 := by
    rw [part, if_pos (by omega), e2, shl_or, shl_8_8]
  rw [part, if_pos (by omega), e3, shl_or, shl_or, shl_8_8, shl_16_8]
  rfl

/-- The eight words of a state. -/
structure Eight where
  (a b c d e f g h : UInt32)
def Eight.step (s : Eight) (k w : UInt32) : Eight :=
  let t1 := s.h + sum1 s.e + choose s.e s.f s.g + k + w
  let t2 := sum0 s.a + major s.a s.b s.c
  ⟨t1 + t2, s.a, s.b, s.c, s.d + t1, s.e, s.f, s.g⟩
def Eight.add (s t : Eight) : Eight := ⟨s.a + t.a, s.b + t.b, s.c + t.c, s.d + t.d, s.e + t.e, s.f + t.f, s.g + t.g, s.h + t.h⟩
/-- The state behind the first n rounds of a block. -/
def rounds (K : Nat → UInt32) (c : Nat → UInt8) (s : Eight) : Nat → Eight
  | 0 => s
  | n + 1 => (rounds K c s n).step (K n) (sched c n)
def block (K : Nat → UInt32) (c : Nat → UInt8) (s : Eight) : Eight := s.add (rounds K c s 64)
theorem sched_congr {c c' : Nat → UInt8} (h : ∀ j, j < 64 → c j = c' j) (i : Nat) : sched c i = sched c' i := by
  induction i using Nat.strongRecOn with
  | _ i ih =>
    by_cases hi : i < 16
    · rw [sched_low c i hi, sched_low c' i hi]; unfold word
      rw [h _ (by omega), h _ (by omega), h _ (by omega), h _ (by omega)]
    · rw [sched_high c i (by omega), sched_high c' i (by omega), ih _ (by omega), ih _ (by omega), ih _ (by omega), ih _ (by omega)]
theorem rounds_congr {c c' : Nat → UInt8} (h : ∀ j, j < 64 → c j = c' j) (K : Nat → UInt32) (s : Eight) (n : Nat) : rounds K c s n = rounds K c' s n := by
  induction n with
  | zero => rfl
  | succ n ih => rw [rounds, rounds, ih, sched_congr h]
theorem block_congr {c c' : Nat → UInt8} (h : ∀ j, j < 64 → c j = c' j) (K : Nat → UInt32) (s : Eight) : block K c s = block K c' s := by
  unfold block; rw [rounds_congr h]
/-- The state behind the first n blocks of the bytes c 0, c 1, .. -/
def blocks (K : Nat → UInt32) (c : Nat → UInt8) (s : Eight) : Nat → Eight
  | 0 => s
  | n + 1 => block K (fun k => c (64 * n + k)) (blocks K c s n)

theorem blocks_succ (K : Nat → UInt32) (c : Nat → UInt8) (s : Eight) (n : Nat) : blocks K c s (n + 1) = block K (fun k => c (64 * n + k)) (blocks K c s n) := by rw [blocks]
theorem rounds_succ' (K : Nat → UInt32) (c : Nat → UInt8) (s : Eight) (n : Nat) : rounds K c s (n + 1) = (rounds K c s n).step (K n) (sched c n) := by rw [rounds]
/-- The length behind the padding. -/
def padN (n : Nat) : Nat := 64 * ((n + 72) / 64)
/-- Byte j behind the padding. -/
def padB (l : List UInt8) (j : Nat) : UInt8 :=
  if j < l.length then l.getD j 0 else if j = l.length then 128 else if j < padN l.length - 8 then 0 else (8 * l.length / 2 ^ (8 * (padN l.length - 1 - j))).toUInt8
def Eight.get (s : Eight) : Nat → UInt32
  | 0 => s.a | 1 => s.b | 2 => s.c | 3 => s.d | 4 => s.e | 5 => s.f | 6 => s.g | _ => s.h
/-- Byte k of a state, big end first. -/
def byteAt (s : Eight) (k : Nat) : UInt8 := (s.get (k / 4) >>> UInt32.ofNat (24 - 8 * (k % 4))).toUInt8
def bytesUpto (s : Eight) (n : Nat) : List UInt8 := (List.range n).map (byteAt s)
theorem bytesUpto_length (s : Eight) (n : Nat) : (bytesUpto s n).length = n := by simp [bytesUpto]
theorem bytesUpto_succ (s : Eight) (n : Nat) : bytesUpto s (n + 1) = bytesUpto s n ++ [byteAt s n] := by simp [bytesUpto, List.range_succ]
def sha (K : Nat → UInt32) (H : Eight) (l : List UInt8) : List UInt8 := bytesUpto (blocks K (padB l) H (padN l.length / 64)) 32
theorem sha_length (K : Nat → UInt32) (H : Eight) (l : List UInt8) : (sha K H l).length = 32 := bytesUpto_length _ _
end Go.Proofs.YtcckpkcjekcajaaDoor

namespace Go.Proofs.YtcckpkcjekcajaaDoor
open Go.RowKit

theorem w_add (x y : UInt32) : ((x.toNat : Int) + (y.toNat : Int)) % 4294967296 = ((x + y).toNat : Int) := by
  rw [← u32_add, IntKind.wrap_u32]
theorem w_shr (x : UInt32) (k : Nat) (hk : k < 32) : (x.toNat : Int) / 2 ^ k = ((x >>> (UInt32.ofNat k)).toNat : Int) := u32_shr x k hk
theorem w_shl (x : UInt32) (k : Nat) (hk : k < 32) : (x.toNat : Int) * 2 ^ k % 4294967296 = ((x <<< (UInt32.ofNat k)).toNat : Int) := by
  rw [← u32_shl x k hk, IntKind.wrap_u32]
theorem w_rotr (x : UInt32) (k : Nat) (h0 : 1 ≤ k) (h1 : k ≤ 31) : bits BinOp.or IntKind.u32 (x.toNat / 2 ^ k) (x.toNat * 2 ^ (32 - k) % 4294967296) = ((rotr x k).toNat : Int) := by
  rw [w_shr x k (by omega), w_shl x (32 - k) (by omega), u32_or]; rfl

set_option maxHeartbeats 400000 in
theorem rotated_any (x : UInt32) (k : Nat) (w : World) (h0 : 1 ≤ k) (h1 : k ≤ 31) :
    Calls Tryd.prog 93 #[.int .u32 x.toNat, .int .u32 k] w fun e w' => e = .returned (.int .u32 (rotr x k).toNat) ∧ w = w' := by
  have hx := u32_lt x
  go_enter Tryd.func93, Tryd.ntmps93
  go_wp2
  go_ret
  exact ⟨ret_int (w_rotr x k h0 h1), rfl⟩
theorem rotated_at (x : UInt32) (k : Nat) (ki : Int) (w : World) (hk : ki = k) (h0 : 1 ≤ k) (h1 : k ≤ 31) :
    Calls Tryd.prog 93 #[.int .u32 x.toNat, .int .u32 ki] w fun e w' => e = .returned (.int .u32 (rotr x k).toNat) ∧ w = w' := hk ▸ rotated_any x k w h0 h1

set_option maxHeartbeats 400000 in
theorem turn_any (x : UInt32) (k : Nat) (w : World) (h0 : 1 ≤ k) (h1 : k ≤ 31) :
    Calls Tryd.prog 96 #[.int .u32 x.toNat, .int .u64 k] w fun e w' => e = .returned (.int .u32 (rotr x k).toNat) ∧ w = w' := by
  have hx := u32_lt x
  go_enter Tryd.func96, Tryd.ntmps96
  go_wp2
  go_ret
  exact ⟨ret_int (w_rotr x k h0 h1), rfl⟩
theorem turn_at (x : UInt32) (k : Nat) (ki : Int) (w : World) (hk : ki = k) (h0 : 1 ≤ k) (h1 : k ≤ 31) :
    Calls Tryd.prog 96 #[.int .u32 x.toNat, .int .u64 ki] w fun e w' => e = .returned (.int .u32 (rotr x k).toNat) ∧ w = w' := hk ▸ turn_any x k w h0 h1

def V (x : UInt32) : Value := .int .u32 x.toNat
/-- What a round makes of the eight words and the summand. -/
def roundT (e f g h x : UInt32) : UInt32 := h + sum1 e + choose e f g + x
def roundU (a b c : UInt32) : UInt32 := sum0 a + major a b c
def wsum (a b : UInt32) : UInt32 := a + b
theorem w_sum (x y : UInt32) : ((x.toNat : Int) + (y.toNat : Int)) % 4294967296 = ((wsum x y).toNat : Int) := w_add x y
theorem w_max : IntKind.u32.max = ((4294967295 : UInt32).toNat : Int) := by decide
theorem w_choose (e f g : UInt32) : bits BinOp.xor IntKind.u32 (bits BinOp.and IntKind.u32 e.toNat f.toNat) (bits BinOp.and IntKind.u32 (bits BinOp.xor IntKind.u32 IntKind.u32.max e.toNat) g.toNat) = ((choose e f g).toNat : Int) := by
  rw [w_max, u32_xor, u32_and, u32_and, u32_xor]
  have : (4294967295 : UInt32) ^^^ e = ~~~e := UInt32.neg_one_xor
  rw [this]; rfl
theorem w_major (a b c : UInt32) : bits BinOp.xor IntKind.u32 (bits BinOp.xor IntKind.u32 (bits BinOp.and IntKind.u32 a.toNat b.toNat) (bits BinOp.and IntKind.u32 a.toNat c.toNat)) (bits BinOp.and IntKind.u32 b.toNat c.toNat) = ((major a b c).toNat : Int) := by
  rw [u32_and, u32_and, u32_and, u32_xor, u32_xor]; rfl
theorem w_sum1 (e : UInt32) : bits BinOp.xor IntKind.u32 (bits BinOp.xor IntKind.u32 (rotr e 6).toNat (rotr e 11).toNat) (rotr e 25).toNat = ((sum1 e).toNat : Int) := by
  rw [u32_xor, u32_xor]; rfl
theorem w_sum0 (e : UInt32) : bits BinOp.xor IntKind.u32 (bits BinOp.xor IntKind.u32 (rotr e 2).toNat (rotr e 13).toNat) (rotr e 22).toNat = ((sum0 e).toNat : Int) := by
  rw [u32_xor, u32_xor]; rfl
theorem w_roundT (e f g h x : UInt32) : ((h.toNat : Int) + (sum1 e).toNat + (choose e f g).toNat + x.toNat) % 4294967296 = ((roundT e f g h x).toNat : Int) := by
  unfold roundT; rw [← w_add, ← w_add, ← w_add]; omega
theorem w_roundU (a b c : UInt32) : (((sum0 a).toNat : Int) + (major a b c).toNat) % 4294967296 = ((roundU a b c).toNat : Int) := w_add _ _

theorem w_newA (a b c e f g h x : UInt32) : ((h.toNat : Int) + (sum1 e).toNat + (choose e f g).toNat + x.toNat + (roundU a b c).toNat) % 4294967296 = ((wsum (roundT e f g h x) (roundU a b c)).toNat : Int) := by
  rw [← w_sum, ← w_roundT]; omega
theorem w_newE (d e f g h x : UInt32) : ((d.toNat : Int) + ((h.toNat : Int) + (sum1 e).toNat + (choose e f g).toNat + x.toNat)) % 4294967296 = ((wsum d (roundT e f g h x)).toNat : Int) := by
  rw [← w_sum, ← w_roundT]; omega

set_option maxHeartbeats 1000000 in
theorem round_any (a b c d e f g k x : UInt32) (w : World) :
    Calls Tryd.prog 87 #[.agg #[V a, V b, V c, V d, V e, V f, V g, V k], V x] w fun r w' =>
      r = .returned (.agg #[V (wsum (roundT e f g k x) (roundU a b c)), V a, V b, V c, V (wsum d (roundT e f g k x)), V e, V f, V g]) ∧ Below w.heap.size w w' := by
  have h1 := w_choose e f g
  have h2 := w_major a b c
  have h3 := w_sum1 e
  have h4 := w_sum0 a
  have h6 := w_roundU a b c
  have H7 := Lib.hid (w_newA a b c e f g k x)
  have H8 := Lib.hid (w_newE d e f g k x)
  unfold V
  go_enter Tryd.func87, Tryd.ntmps87
  go_wp2_with fail
  go_quiet (fail)
  go_wp2_with fail
  go_quiet (fail)
  go_wp2_with ((go_at_call 93); (first | (with_reducible refine (rotated_at _ 6 6 _ rfl (by decide) (by decide)).mono ?_) | (with_reducible refine (rotated_at _ 11 11 _ rfl (by decide) (by decide)).mono ?_) | (with_reducible refine (rotated_at _ 25 25 _ rfl (by decide) (by decide)).mono ?_) | (with_reducible refine (rotated_at _ 2 2 _ rfl (by decide) (by decide)).mono ?_) | (with_reducible refine (rotated_at _ 13 13 _ rfl (by decide) (by decide)).mono ?_) | (with_reducible refine (rotated_at _ 22 22 _ rfl (by decide) (by decide)).mono ?_)); rintro r w' ⟨rfl, rfl⟩)
  refine bodyPost_ret (v := .agg #[.int .u32 (wsum (roundT e f g k x) (roundU a b c)).toNat, .int .u32 a.toNat, .int .u32 b.toNat, .int .u32 c.toNat, .int .u32 (wsum d (roundT e f g k x)).toNat, .int .u32 e.toNat, .int .u32 f.toNat, .int .u32 g.toNat]) (by simp [results, Tryd.results87, go_sem, H7.out, H8.out]) rfl ⟨rfl, ?_⟩
  iterate 8 (refine Below.setCell ?_ (Nat.le_succ _) _)
  exact below_drewN (((Below.refl _ _).alloc (Nat.le_refl _) _).alloc (by simp) _) _
end Go.Proofs.YtcckpkcjekcajaaDoor

namespace Go.Proofs.YtcckpkcjekcajaaDoor
open Go.RowKit

def Eight.vals (s : Eight) : Array Value := #[V s.a, V s.b, V s.c, V s.d, V s.e, V s.f, V s.g, V s.h]
theorem Eight.vals_at (s : Eight) (j : Nat) (h : j < 8) : s.vals[j]? = some (V (s.get j)) := by
  match j, h with
  | 0, _ | 1, _ | 2, _ | 3, _ | 4, _ | 5, _ | 6, _ | 7, _ => rfl
  | j + 8, h => omega
theorem take_more (xs : List Value) (k : Nat) (l : List UInt8) (v : Value) (u : UInt8) (h : k < xs.length) (hx : xs.take k = l.map B) (_hl : l.length = k) (hv : v = B u) :
    (xs.set k v).take (k + 1) = (l ++ [u]).map B := by
  subst hv
  rw [List.take_succ_eq_append_getElem (by simpa using h), List.take_set_of_le (Nat.le_refl _), hx]
  simp
theorem w_byte (s : Eight) (k : Nat) : ((s.get (k / 4)).toNat : Int) / 2 ^ (24 - 8 * (k % 4)) % 256 = ((byteAt s k).toNat : Int) := by
  unfold byteAt
  rw [w_shr _ _ (by omega), ← u8_word, IntKind.wrap_u8]

theorem owns_new (W : World) (b g n : Nat) (cs : Array Value) (e : TypeId) (hg : W.heap.size = g) (hb : b ≤ g) (hn : cs.size = n) (h0 : n ≤ maxLen) : (W.alloc (.cells cs e)).ownsRow b e 1 (.slice (some ⟨g, 0, none⟩) n n) n cs.toList := by
  subst hg; exact World.ownsRow_lit W cs n hb h0 (by simpa using hn)

def TextRel (w : World) (s : Eight) (i : Value) (wr : World) : Prop :=
  ∃ (k : Nat) (xs : List Value), k ≤ 32 ∧ i = .int .i64 k ∧ wr.ownsRow (w.heap.size + 1) 134 1 (.slice (some ⟨w.heap.size + 1, 0, none⟩) 32 32) 32 xs ∧ xs.take k = (bytesUpto s k).map B ∧ Below (w.heap.size + 1) (w.alloc (.cells s.vals 100)) wr

set_option maxHeartbeats 1000000 in
theorem stateText_any (s : Eight) (w : World) :
    Calls Tryd.prog 74 #[.agg s.vals] w fun e w' => e = .returned (.string ⟨(bytesUpto s 32).toArray⟩) ∧ Below w.heap.size w w' := by
  obtain ⟨vs, hvs⟩ : ∃ vs, vs = s.vals := ⟨_, rfl⟩
  obtain ⟨str, hstr⟩ : ∃ str : ByteArray, str = ⟨(bytesUpto s 32).toArray⟩ := ⟨_, rfl⟩
  rw [← hstr]
  have HSTR := Lib.hid hstr
  clear hstr
  unfold Eight.vals V
  go_enter Tryd.func74, Tryd.ntmps74
  go_wp2_with fail
  go_loopw [5] (fun i wr => TextRel w s i wr) (fun i _ => 32 - (intOf i).toNat)
  case atStart => 
    refine ⟨0, _, by omega, rfl, owns_new (w.alloc (.cells s.vals 100)) _ _ 32 _ _ (by simp) (Nat.le_refl _) rfl (by decide), rfl, ?_⟩
    exact (Below.refl _ _).alloc (by simp) _
  case round =>
    obtain ⟨k, xs, hk, rfl, hown, hxs, hbel⟩ := hrel
    by_cases hlt : k < 32
    · have hc := hown.cellAt k (by omega)
      have hf := hown.frozenAt k
      have hxl : xs.length = 32 := hown.1
      rw [List.getElem?_eq_getElem (by omega)] at hc
      generalize xs[k] = v0 at hc
      have hcs : wr.cell? ⟨w.heap.size, k / 4, none⟩ = some (.int .u32 (s.get (k / 4)).toNat) := by
        rw [hbel.cell (p := ⟨w.heap.size, k / 4, none⟩) (by simp), World.cell?_alloc_new]
        exact s.vals_at _ (by omega)
      have HXS := Lib.hid hxs
      have HO := Lib.hid hown
      have HBL := Lib.hid hbel
      have HXL := Lib.hid hxl
      clear hxs hxl hown hbel
      go_wp2
      go_roundw
      case rel => exact ⟨k + 1, _, by omega, by go_num, (HO.out.stored k _).1, by rw [bytesUpto_succ]; exact take_more xs k _ _ _ (by rw [HXL.out]; omega) HXS.out (bytesUpto_length _ _) (val_int (w_byte s k)), HBL.out.setCell (p := ⟨w.heap.size + 1, k, none⟩) (Nat.le_refl _) _⟩
      case measure => simp [intOf]; omega
    · obtain rfl : k = 32 := by omega
      have conv := conv_row (c := 32) hown (bytesUpto s 32) 32 (by simp [bytesUpto]) (by omega) hxs
      rw [← HSTR.out] at conv
      clear hown hxs
      go_wp2
      go_ret
      exact ⟨rfl, ((Below.refl _ _).alloc (Nat.le_refl _) _).trans (hbel.mono (by simp))⟩
end Go.Proofs.YtcckpkcjekcajaaDoor

namespace Go.Proofs.YtcckpkcjekcajaaDoor
open Go.RowKit

theorem wsum_eq (a b : UInt32) : wsum a b = a + b := rfl
/-- The words f 0 .. f (n - 1) as cells. -/
def wordsV (n : Nat) (f : Nat → UInt32) : Array Value := ((List.range n).map fun j => V (f j)).toArray
theorem wordsV_size (n : Nat) (f : Nat → UInt32) : (wordsV n f).size = n := by simp [wordsV]
theorem wordsV_at (n : Nat) (f : Nat → UInt32) (j : Nat) (h : j < n) : (wordsV n f)[j]? = some (.int .u32 (f j).toNat) := by simp [wordsV, h, V]
theorem wordsV_one (n : Nat) (f : Nat → UInt32) : (wordsV n f).all (·.oneCell') = true := by simp [wordsV, V, Value.oneCell']
/-- A block of memory holds the words f 0 .. f (n - 1). -/
def Words (wr : World) (g : Nat) (T : TypeId) (n : Nat) (f : Nat → UInt32) : Prop := wr.heap[g]? = some (.cells (wordsV n f) T (0, 0))
theorem Words.cell {wr : World} {g n : Nat} {T : TypeId} {f : Nat → UInt32} (h : Words wr g T n f) (j : Nat) (hj : j < n) : wr.cell? ⟨g, j, none⟩ = some (.int .u32 (f j).toNat) := by
  rw [cell_of_row wr g j _ T (0, 0) h, wordsV_at n f j hj]
theorem Words.frozen {wr : World} {g n : Nat} {T : TypeId} {f : Nat → UInt32} (h : Words wr g T n f) (j : Nat) : wr.frozen? ⟨g, j, none⟩ = false := frozen_of_row wr g j _ T h
theorem Words.set {wr : World} {g n : Nat} {T : TypeId} {f f' : Nat → UInt32} (h : Words wr g T n f) (j : Nat) (x : UInt32) (hx : f' j = x) (hf : ∀ i, i ≠ j → f' i = f i) : Words (wr.setCell ⟨g, j, none⟩ (V x)) g T n f' := by
  unfold Words
  rw [heap_setCell_same wr g j _ T (V x) h]
  congr 2
  apply Array.ext_getElem?
  intro i
  unfold wordsV
  simp only [List.setIfInBounds_toArray, List.getElem?_toArray, List.getElem?_set, List.length_map, List.length_range]
  by_cases hi : j = i
  · subst hi; by_cases hj : j < n <;> simp [hj, hx]
  · rw [if_neg hi]; by_cases hn : i < n
    · simp [hn, hf i (fun e => hi e.symm)]
    · simp [hn]
theorem Words.congr {wr : World} {g n : Nat} {T : TypeId} {f f' : Nat → UInt32} (h : Words wr g T n f) (hf : ∀ i, i < n → f' i = f i) : Words wr g T n f' := by
  unfold Words at *; rw [h]; congr 2; unfold wordsV; congr 1
  apply List.map_congr_left; intro i hi; rw [hf i (by simpa using hi)]
theorem Words.below {wr wr' : World} {g n B : Nat} {T : TypeId} {f : Nat → UInt32} (h : Words wr g T n f) (hb : Below B wr wr') (hg : g < B) : Words wr' g T n f := (hb.block g hg).trans h
theorem Words.drew {wr : World} {g n m : Nat} {T : TypeId} {f : Nat → UInt32} (h : Words wr g T n f) : Words (wr.drewN m) g T n f := h
theorem words_new (W : World) (g n : Nat) (T : TypeId) (f : Nat → UInt32) (hg : W.heap.size = g) {cs : Array Value} (hc : cs = wordsV n f) : Words (W.alloc (.cells cs T)) g T n f := by
  subst hg; subst hc; exact heap_alloc_new W _
/-- The bytes of a block, as the program hands them on. -/
def bytesV (c : Nat → UInt8) : Array Value := ((List.range 64).map fun k => B (c k)).toArray
theorem bytesV_at (c : Nat → UInt8) (k : Nat) (h : k < 64) : (bytesV c)[k]? = some (.int .u8 (c k).toNat) := by simp [bytesV, h, B]

theorem below_setRow {B : Nat} {a w : World} (h : Below B a w) {g : Nat} (hg : B ≤ g) (cs : Array Value) : Below B a (w.setRow g cs) :=
  ⟨h.os, h.tape, h.output, by simpa using h.size, fun k hk => (setRow_other w g k cs (by omega)).trans (h.block k hk)⟩
def wpart (x : UInt32) (b : UInt8) : UInt32 := x <<< 8 ||| b.toUInt32
theorem w_part (x : UInt32) (b : UInt8) : bits BinOp.or IntKind.u32 (x.toNat * 256 % 4294967296) (b.toNat % 4294967296) = ((wpart x b).toNat : Int) := by
  have := w_shl x 8 (by omega)
  rw [show (2 : Int) ^ 8 = 256 by decide] at this
  have hb : (b.toNat : Int) % 4294967296 = (b.toUInt32.toNat : Int) := by
    have := b.toNat_lt; simp; omega
  rw [this, hb, u32_or]; rfl
theorem part_at (c : Nat → UInt8) (k : Nat) : part c (k + 1) (k / 4) = wpart (part c k (k / 4)) (c k) := by rw [part, if_pos rfl]; rfl
theorem part_other (c : Nat → UInt8) (k j : Nat) (h : j ≠ k / 4) : part c (k + 1) j = part c k j := by rw [part, if_neg (fun e => h e.symm)]
/-- The words when those before k have been reckoned. -/
def upto (c : Nat → UInt8) (k j : Nat) : UInt32 := if j < k then sched c j else part c 64 j
theorem upto_low (c : Nat → UInt8) (k j : Nat) (h : j < k) : upto c k j = sched c j := if_pos h
theorem upto_16 (c : Nat → UInt8) (j : Nat) : upto c 16 j = part c 64 j := by
  unfold upto; split
  · rw [sched_low c j (by omega), part_word c j 64 (by omega)]
  · rfl
theorem upto_other (c : Nat → UInt8) (k j : Nat) (h : j ≠ k) : upto c (k + 1) j = upto c k j := by
  unfold upto; by_cases hj : j < k
  · rw [if_pos hj, if_pos (by omega)]
  · rw [if_neg hj, if_neg (by omega)]
def wnext (p q r s : UInt32) : UInt32 := p + sig0 q + r + sig1 s
theorem upto_at (c : Nat → UInt8) (k : Nat) (h : 16 ≤ k) : upto c (k + 1) k = wnext (sched c (k - 16)) (sched c (k - 15)) (sched c (k - 7)) (sched c (k - 2)) := by
  rw [upto_low c _ _ (by omega), sched_high c k h]; rfl
theorem w_sig0 (x : UInt32) : bits BinOp.xor IntKind.u32 (bits BinOp.xor IntKind.u32 (rotr x 7).toNat (rotr x 18).toNat) (x.toNat / 8) = ((sig0 x).toNat : Int) := by
  have := w_shr x 3 (by omega)
  rw [show (2 : Int) ^ 3 = 8 by decide] at this
  rw [this, u32_xor, u32_xor]; rfl
theorem w_sig1 (x : UInt32) : bits BinOp.xor IntKind.u32 (bits BinOp.xor IntKind.u32 (rotr x 17).toNat (rotr x 19).toNat) (x.toNat / 1024) = ((sig1 x).toNat : Int) := by
  have := w_shr x 10 (by omega)
  rw [show (2 : Int) ^ 10 = 1024 by decide] at this
  rw [this, u32_xor, u32_xor]; rfl
theorem w_next (p q r s : UInt32) : ((p.toNat : Int) + (sig0 q).toNat + r.toNat + (sig1 s).toNat) % 4294967296 = ((wnext p q r s).toNat : Int) := by
  unfold wnext; rw [← w_add, ← w_add, ← w_add]; omega
def Sched1 (w : World) (c : Nat → UInt8) (i : Value) (wr : World) : Prop :=
  ∃ k : Nat, k ≤ 64 ∧ i = .int .i64 k ∧ Words wr (w.heap.size + 2) 131 64 (part c k) ∧ Below (w.heap.size + 2) ((w.alloc (.cells (bytesV c) 103)).alloc (.cells (wordsV 64 fun _ => 0) 131)) wr

def Sched2 (w : World) (c : Nat → UInt8) (i : Value) (wr : World) : Prop :=
  ∃ k : Nat, 16 ≤ k ∧ k ≤ 64 ∧ i = .int .i64 k ∧ Words wr (w.heap.size + 2) 131 64 (upto c k) ∧ Below (w.heap.size + 2) ((w.alloc (.cells (bytesV c) 103)).alloc (.cells (wordsV 64 fun _ => 0) 131)) wr

set_option maxHeartbeats 1000000 in
set_option maxRecDepth 100000 in
theorem schedule_any (c : Nat → UInt8) (w : World) :
    Calls Tryd.prog 86 #[.agg (bytesV c)] w fun e w' => e = .returned (.agg (wordsV 64 (sched c))) ∧ Below w.heap.size w w' := by
  go_enter Tryd.func86, Tryd.ntmps86
  go_wp2_with fail
  go_loopw [10] (fun i wr => Sched1 w c i wr) (fun i _ => 64 - (intOf i).toNat)
  case atStart =>
    refine ⟨0, by omega, rfl, ?_, ?_⟩
    · exact words_new ((w.alloc (.cells (bytesV c) 103)).alloc _) _ _ _ _ (by simp) rfl
    · exact (Below.refl _ _).alloc (by simp) _
  case round =>
    obtain ⟨k, hk, rfl, hwd, hbel⟩ := hrel
    by_cases hlt : k < 64
    · have hc := hwd.cell (k / 4) (by omega)
      have hf := hwd.frozen (k / 4)
      have hcb : wr.cell? ⟨w.heap.size, k, none⟩ = some (.int .u8 (c k).toNat) := by
        rw [hbel.cell (p := ⟨w.heap.size, k, none⟩) (by simp), Below.cell (p := ⟨w.heap.size, k, none⟩) ((Below.refl (w.heap.size + 1) (w.alloc (.cells (bytesV c) 103))).alloc (by simp) _) (by simp), World.cell?_alloc_new]
        exact bytesV_at c k hlt
      have HW := Lib.hid hwd
      have HB := Lib.hid hbel
      clear hwd hbel
      go_wp2_with fail
      go_region
      go_wp2
      go_roundw
      case rel =>
        refine ⟨k + 1, by omega, by go_num, ?_, ?_⟩
        · rw [w_part]
          exact HW.out.set (k / 4) _ (part_at c k) (fun i hi => part_other c k i hi)
        · exact (HB.out.setCell (p := ⟨w.heap.size + 2, k / 4, none⟩) (Nat.le_refl _) _).drew
      case measure => simp [intOf]; omega
    · obtain rfl : k = 64 := by omega
      clear hlt hk
      have HW := Lib.hid hwd
      have HB := Lib.hid hbel
      clear hwd hbel
      go_wp2_with fail
      go_loopw [5] (fun i wr => Sched2 w c i wr) (fun i _ => 64 - (intOf i).toNat)
      case atStart =>
        exact ⟨16, by omega, by omega, rfl, HW.out.congr (fun i _ => upto_16 c i), HB.out⟩
      case round =>
        clear HW HB
        rename_i wr0
        obtain ⟨k, hk0, hk, rfl, hwd, hbel⟩ := hrel
        by_cases hlt : k < 64
        · have hc1 := hwd.cell (k - 15) (by omega)
          have hc2 := hwd.cell (k - 2) (by omega)
          have hc3 := hwd.cell (k - 16) (by omega)
          have hc4 := hwd.cell (k - 7) (by omega)
          rw [upto_low c k _ (by omega)] at hc1 hc2 hc3 hc4
          have hc5 := hwd.cell k (by omega)
          have hf := hwd.frozen k
          have HW := Lib.hid hwd
          have HB := Lib.hid hbel
          clear hwd hbel
          go_wp2_with fail
          go_quiet (fail)
          have h1 := w_sig0 (sched c (k - 15))
          have h2 := w_sig1 (sched c (k - 2))
          have H3 := Lib.hid (w_next (sched c (k - 16)) (sched c (k - 15)) (sched c (k - 7)) (sched c (k - 2)))
          go_wp2_with ((go_at_call 93); (first | (with_reducible refine (rotated_at _ 7 7 _ rfl (by decide) (by decide)).mono ?_) | (with_reducible refine (rotated_at _ 18 18 _ rfl (by decide) (by decide)).mono ?_) | (with_reducible refine (rotated_at _ 17 17 _ rfl (by decide) (by decide)).mono ?_) | (with_reducible refine (rotated_at _ 19 19 _ rfl (by decide) (by decide)).mono ?_)); rintro r w' ⟨rfl, rfl⟩)
          go_region
          go_wp2
          go_roundw
          case rel =>
            (repeat apply Exists.intro)
            refine ⟨⟨k + 1, by omega, by omega, by go_num, ?_, ?_⟩, rfl⟩
            · rw [H3.out]
              exact HW.out.set k _ (upto_at c k hk0) (fun i hi => upto_other c k i hi)
            · exact below_drewN (HB.out.setCell (p := ⟨w.heap.size + 2, k, none⟩) (Nat.le_refl _) _) _
          case measure => simp [intOf]; omega
        · obtain rfl : k = 64 := by omega
          have HW := Lib.hid (hwd.congr (f' := sched c) fun i hi => (upto_low c 64 i hi).symm)
          have HB := Lib.hid hbel
          clear hwd hbel hlt hk hk0
          have hres : wr.heap[w.heap.size + 1]? = some (.cells (wordsV 64 fun _ => 0) 131 (0, 0)) := by
            rw [HB.out.block _ (by omega)]
            exact heap_alloc2_new w _ _
          have HR := Lib.hid hres
          clear hres
          go_wp2_with (first | ((with_reducible show wpList _ _ _ (⟨some 70, _, _, _, _, _⟩ :: _) _ _); refine wpList_load_row rfl 131 _ rfl (w.heap.size + 2) rfl 131 _ (0, 0) _ HW.out Tryd.underlying131 rfl (by rw [wordsV_size]; kernel_rfl) ?_) | ((with_reducible show wpList _ _ _ (⟨none, .store 131 (.tmp 2) (.tmp 70), _, _, _, _⟩ :: _) _ _); refine wpList_store_row rfl 131 _ _ rfl (w.heap.size + 1) (wordsV 64 (sched c)) rfl rfl 131 _ HR.out (by rw [wordsV_size]; kernel_rfl) (by rw [wordsV_size, wordsV_size]) (wordsV_one _ _) ?_))
          refine bodyPost_ret (v := .agg (wordsV 64 (sched c))) (results_cell_row Tryd.results86 _ _ (w.heap.size + 1) 131 _ (0, 0) _ rfl (setRow_heap _ _ _ _ _ _ HR.out) Tryd.underlying131 rfl (by rw [wordsV_size]; kernel_rfl)) rfl ⟨rfl, ?_⟩
          exact below_setRow ((((Below.refl _ _).alloc (Nat.le_refl _) _).alloc (by simp) _).trans (HB.out.mono (by omega))) (Nat.le_succ _) _
end Go.Proofs.YtcckpkcjekcajaaDoor

namespace Go.Proofs.YtcckpkcjekcajaaDoor
open Go.RowKit

def keyL : List UInt32 := [1116352408, 1899447441, 3049323471, 3921009573, 961987163, 1508970993, 2453635748, 2870763221, 3624381080, 310598401, 607225278, 1426881987, 1925078388, 2162078206, 2614888103, 3248222580, 3835390401, 4022224774, 264347078, 604807628, 770255983, 1249150122, 1555081692, 1996064986, 2554220882, 2821834349, 2952996808, 3210313671, 3336571891, 3584528711, 113926993, 338241895, 666307205, 773529912, 1294757372, 1396182291, 1695183700, 1986661051, 2177026350, 2456956037, 2730485921, 2820302411, 3259730800, 3345764771, 3516065817, 3600352804, 4094571909, 275423344, 430227734, 506948616, 659060556, 883997877, 958139571, 1322822218, 1537002063, 1747873779, 1955562222, 2024104815, 2227730452, 2361852424, 2428436474, 2756734187, 3204031479, 3329325298]
/-- The summands of the rounds. -/
def key (i : Nat) : UInt32 := keyL.getD i 0
/-- The state at first. -/
def start : Eight := ⟨1779033703, 3144134277, 1013904242, 2773480762, 1359893119, 2600822924, 528734635, 1541459225⟩
/-- What the program's two tables hold. -/
structure LaidT (w : World) : Prop where
  start : ∀ i, i < 8 → w.cell? ⟨0, i, none⟩ = some (.int .u32 (start.get i).toNat)
  keys : ∀ i, i < 64 → w.cell? ⟨1, i, none⟩ = some (.int .u32 (key i).toNat)
theorem LaidT.two {w : World} (h : LaidT w) : max 0 1 + 1 ≤ w.heap.size := by
  have a : 1 < w.heap.size := block_lt_of_cell (h.keys 0 (by decide))
  have b : 0 < w.heap.size := block_lt_of_cell (h.start 0 (by decide))
  omega
theorem LaidT.below {w w' : World} {B : Nat} (h : LaidT w) (hb : Below B w w') (hB : max 0 1 + 1 ≤ B) : LaidT w' :=
  ⟨fun i hi => (hb.cell (p := ⟨0, i, none⟩) (by simp; omega)).trans (h.start i hi), fun i hi => (hb.cell (p := ⟨1, i, none⟩) (by simp; omega)).trans (h.keys i hi)⟩

def Eight.step2 (s : Eight) (x : UInt32) : Eight := ⟨wsum (roundT s.e s.f s.g s.h x) (roundU s.a s.b s.c), s.a, s.b, s.c, wsum s.d (roundT s.e s.f s.g s.h x), s.e, s.f, s.g⟩
theorem Eight.step_step2 (s : Eight) (k x : UInt32) : s.step k x = s.step2 (wsum k x) := by
  simp [Eight.step, Eight.step2, wsum, roundT, roundU, UInt32.add_assoc]
theorem round_at (s : Eight) (x : UInt32) (w : World) :
    Calls Tryd.prog 87 #[.agg s.vals, V x] w fun r w' => r = .returned (.agg (s.step2 x).vals) ∧ Below w.heap.size w w' := round_any s.a s.b s.c s.d s.e s.f s.g s.h x w
theorem round_lit (a b c d e f g k x : UInt32) (w : World) :
    Calls Tryd.prog 87 #[.agg #[.int .u32 a.toNat, .int .u32 b.toNat, .int .u32 c.toNat, .int .u32 d.toNat, .int .u32 e.toNat, .int .u32 f.toNat, .int .u32 g.toNat, .int .u32 k.toNat], .int .u32 x.toNat] w fun r w' =>
      r = .returned (.agg (Eight.step2 ⟨a, b, c, d, e, f, g, k⟩ x).vals) ∧ Below w.heap.size w w' := round_any a b c d e f g k x w
/-- A block of memory holds the eight words of s. -/
def Row8 (w : World) (g : Nat) (s : Eight) : Prop := w.heap[g]? = some (.cells s.vals 100 (0, 0))
theorem Row8.cell {w : World} {g : Nat} {s : Eight} (h : Row8 w g s) (j : Nat) (hj : j < 8) : w.cell? ⟨g, j, none⟩ = some (.int .u32 (s.get j).toNat) := by
  rw [cell_of_row w g j _ _ (0, 0) h, s.vals_at j hj]; rfl
theorem Row8.frozen {w : World} {g : Nat} {s : Eight} (h : Row8 w g s) (j : Nat) : w.frozen? ⟨g, j, none⟩ = false := frozen_of_row w g j _ _ h
theorem Row8.below {w w' : World} {g B : Nat} {s : Eight} (h : Row8 w g s) (hb : Below B w w') (hg : g < B) : Row8 w' g s := (hb.block g hg).trans h

theorem row8_new (W : World) (g : Nat) (s : Eight) (hg : W.heap.size = g) : Row8 (W.alloc (.cells s.vals 100)) g s := by
  subst hg; exact heap_alloc_new W _
/-- Block g alone has turned. -/
structure Only (g : Nat) (w w' : World) : Prop where
  os : w'.os = w.os
  tape : w'.tape = w.tape
  output : w'.output = w.output
  size : w'.heap.size = w.heap.size
  block : ∀ k, k ≠ g → w'.heap[k]? = w.heap[k]?
theorem Only.below {g B : Nat} {a w w' : World} (h : Only g w w') (hb : Below B a w) (hg : B ≤ g) : Below B a w' :=
  hb.trans ⟨h.os, h.tape, h.output, by rw [h.size]; exact Nat.le_refl _, fun k hk => h.block k (by omega)⟩
/-- A whole array is stored; the world behind it under a name of its own. -/
theorem wpList_store_abs {P : Program} {ops : Array Oper} {rest : List Oper} {o : Oper} {a : Act} {w : World} {Q : Exit → Act → World → Prop} (hgd : o.guard = none) (ty : TypeId) (x y : Operand) (ho : o.op = .store ty x y)
    (g : Nat) (cells : Array Value) (hx : a.eval x = .pointer (some ⟨g, 0, none⟩)) (hy : a.eval y = .agg cells)
    (t : TypeId) (old : Array Value) (hg : w.heap[g]? = some (.cells old t (0, 0))) (hi : (P.info? ty).map (·.size) = some cells.size)
    (hold : old.size = cells.size) (h1 : cells.all (·.oneCell') = true)
    (h : ∀ w', Hid (w'.heap[g]? = some (.cells cells t (0, 0))) → Only g w w' → wpList P ops Q rest (a.put o.dst undef) w') : wpList P ops Q (o :: rest) a w :=
  wpList_store_row hgd ty x y ho g cells hx hy t old hg hi hold h1
    (h _ (setRow_heap w g old cells t _ hg) ⟨rfl, rfl, rfl, by simp, fun k hk => setRow_other w g k cells (by omega)⟩)
theorem run_storeCells_new' {P : Program} (w : World) (g : Nat) (t : TypeId) (c c' : Array Value) (hg : w.heap.size = g) (hi : (P.info? t).map (·.size) = some c'.size) (ho : c.size = c'.size) (h1 : c'.all (·.oneCell') = true) :
    (storeCells ⟨g, 0, none⟩ c'.toList 0).run P (w.alloc (.cells c t)) = .ok () (w.alloc (.cells c' t)) := hg ▸ run_storeCells_new w t c c' hi ho h1
theorem vals_size (s : Eight) : s.vals.size = 8 := rfl
theorem vals_one (s : Eight) : s.vals.all (·.oneCell') = true := by simp [Eight.vals, V, Value.oneCell']

def Block1 (w1 : World) (c : Nat → UInt8) (s : Eight) (i : Value) (wr : World) : Prop :=
  ∃ k : Nat, k ≤ 64 ∧ i = .int .i64 k ∧ Row8 wr (w1.heap.size + 1) (rounds key c s k) ∧ Below (w1.heap.size + 1) (w1.alloc (.cells (wordsV 64 (sched c)) 131)) wr
/-- The words of r, those of s added to the first k. -/
def mixed (r s : Eight) (k : Nat) : Eight :=
  ⟨if 0 < k then wsum r.a s.a else r.a, if 1 < k then wsum r.b s.b else r.b, if 2 < k then wsum r.c s.c else r.c, if 3 < k then wsum r.d s.d else r.d, if 4 < k then wsum r.e s.e else r.e, if 5 < k then wsum r.f s.f else r.f, if 6 < k then wsum r.g s.g else r.g, if 7 < k then wsum r.h s.h else r.h⟩
theorem mixed_get (r s : Eight) (k j : Nat) (h : j < 8) : (mixed r s k).get j = if j < k then wsum (r.get j) (s.get j) else r.get j := by
  match j, h with
  | 0, _ | 1, _ | 2, _ | 3, _ | 4, _ | 5, _ | 6, _ | 7, _ => rfl
  | j + 8, h => omega
theorem mixed_0 (r s : Eight) : mixed r s 0 = r := rfl
theorem mixed_8 (r s : Eight) : mixed r s 8 = s.add r := by simp [mixed, Eight.add, wsum, UInt32.add_comm]
theorem mixed_at (r s : Eight) (k : Nat) (h : k < 8) : (mixed r s k).get k = r.get k := by rw [mixed_get r s k k h, if_neg (Nat.lt_irrefl _)]
theorem mixed_new (r s : Eight) (k : Nat) (h : k < 8) : (mixed r s (k + 1)).get k = wsum (r.get k) (s.get k) := by rw [mixed_get r s _ k h, if_pos (Nat.lt_succ_self _)]
theorem mixed_other (r s : Eight) (k j : Nat) (h : j < 8) (hj : j ≠ k) : (mixed r s (k + 1)).get j = (mixed r s k).get j := by
  rw [mixed_get r s _ j h, mixed_get r s _ j h]
  by_cases h1 : j < k
  · rw [if_pos h1, if_pos (by omega)]
  · rw [if_neg h1, if_neg (by omega)]
theorem Row8.set {w : World} {g : Nat} {s s' : Eight} (h : Row8 w g s) (k : Nat) (hk : k < 8) (x : UInt32) (hx : s'.get k = x) (hf : ∀ j, j < 8 → j ≠ k → s'.get j = s.get j) : Row8 (w.setCell ⟨g, k, none⟩ (V x)) g s' := by
  unfold Row8
  rw [heap_setCell_same w g k _ _ (V x) h]
  congr 2
  apply Array.ext_getElem?
  intro j
  by_cases hj : j < 8
  · rw [s'.vals_at j hj, Array.getElem?_setIfInBounds]
    by_cases hjk : k = j
    · subst hjk
      rw [if_pos rfl, if_pos (show k < s.vals.size from hk), hx]
    · rw [if_neg hjk, s.vals_at j hj, hf j hj (fun e => hjk e.symm)]
  · have e1 : s'.vals[j]? = none := Array.getElem?_eq_none (show 8 ≤ j by omega)
    have e2 : (s.vals.setIfInBounds k (V x))[j]? = none := Array.getElem?_eq_none (by rw [Array.size_setIfInBounds]; show 8 ≤ j; omega)
    rw [e1, e2]
def Block2 (w1 : World) (c : Nat → UInt8) (r s : Eight) (i : Value) (wr : World) : Prop :=
  ∃ k : Nat, k ≤ 8 ∧ i = .int .i64 k ∧ Row8 wr (w1.heap.size + 1) (mixed r s k) ∧ Below (w1.heap.size + 1) (w1.alloc (.cells (wordsV 64 (sched c)) 131)) wr
theorem Row8.cells {w : World} {g : Nat} {a b c d e f i k : UInt32} (h : Row8 w g ⟨a, b, c, d, e, f, i, k⟩) :
    w.cell? ⟨g, 0, none⟩ = some (.int .u32 a.toNat) ∧ w.cell? ⟨g, 1, none⟩ = some (.int .u32 b.toNat) ∧ w.cell? ⟨g, 2, none⟩ = some (.int .u32 c.toNat) ∧ w.cell? ⟨g, 3, none⟩ = some (.int .u32 d.toNat) ∧
    w.cell? ⟨g, 4, none⟩ = some (.int .u32 e.toNat) ∧ w.cell? ⟨g, 5, none⟩ = some (.int .u32 f.toNat) ∧ w.cell? ⟨g, 6, none⟩ = some (.int .u32 i.toNat) ∧ w.cell? ⟨g, 7, none⟩ = some (.int .u32 k.toNat) :=
  ⟨h.cell 0 (by decide), h.cell 1 (by decide), h.cell 2 (by decide), h.cell 3 (by decide), h.cell 4 (by decide), h.cell 5 (by decide), h.cell 6 (by decide), h.cell 7 (by decide)⟩
theorem Row8.froz {w : World} {g : Nat} {s : Eight} (h : Row8 w g s) :
    w.frozen? ⟨g, 0, none⟩ = false ∧ w.frozen? ⟨g, 1, none⟩ = false ∧ w.frozen? ⟨g, 2, none⟩ = false ∧ w.frozen? ⟨g, 3, none⟩ = false ∧
    w.frozen? ⟨g, 4, none⟩ = false ∧ w.frozen? ⟨g, 5, none⟩ = false ∧ w.frozen? ⟨g, 6, none⟩ = false ∧ w.frozen? ⟨g, 7, none⟩ = false :=
  ⟨h.frozen 0, h.frozen 1, h.frozen 2, h.frozen 3, h.frozen 4, h.frozen 5, h.frozen 6, h.frozen 7⟩

set_option maxHeartbeats 1000000 in
set_option maxRecDepth 100000 in
theorem block_any (c : Nat → UInt8) (s : Eight) (w : World) (hl : LaidT w) :
    Calls Tryd.prog 73 #[.agg s.vals, .agg (bytesV c)] w fun e w' => e = .returned (.agg (block key c s).vals) ∧ Below w.heap.size w w' := by
  obtain ⟨res, hres⟩ : ∃ res, res = block key c s := ⟨_, rfl⟩
  rw [← hres]
  have HRES := Lib.hid hres
  clear hres
  go_enter Tryd.func73, Tryd.ntmps73
  go_wp2_with ((with_reducible show wpList _ _ _ (⟨some 9, _, _, _, _, _⟩ :: _) _ _); refine wpList_load_row rfl 103 _ rfl (w.heap.size + 1) rfl 103 (bytesV c) (0, 0) _ ?_ Tryd.underlying103 rfl ?_ ?_)
  case refine_1 =>
    exact (heap_alloc_old _ _ (by simp)).trans (heap_alloc2_new w _ _)
  case refine_2 => rw [show (bytesV c).size = 64 by simp [bytesV]]; kernel_rfl
  refine (schedule_any c _).mono ?_
  rintro e w1 ⟨rfl, hb1⟩
  have hz1 : w.heap.size + 3 ≤ w1.heap.size := by have := hb1.size; simpa using this
  have hr0 : Row8 w1 w.heap.size s := by
    refine (hb1.block _ (by simp; omega)).trans ?_
    rw [heap_alloc_old _ _ (by simp; omega)]; exact heap_alloc2_old w _ _
  have hr2 : Row8 w1 (w.heap.size + 2) ⟨0, 0, 0, 0, 0, 0, 0, 0⟩ := by
    refine (hb1.block _ (by simp)).trans ?_
    exact row8_new ((w.alloc (.cells s.vals 100)).alloc (.cells (bytesV c) 103)) (w.heap.size + 2) ⟨0, 0, 0, 0, 0, 0, 0, 0⟩ (by simp)
  have hbw : Below w.heap.size w w1 := ((((Below.refl _ w).alloc (Nat.le_refl _) _).alloc (by simp) _).alloc (by simp; omega) _).trans (hb1.mono (by simp; omega))
  have hl1 : LaidT w1 := hl.below hbw hl.two
  have h2 := hl.two
  have HR0 := Lib.hid hr0
  have HR2 := Lib.hid hr2
  have HL1 := Lib.hid hl1
  have HBW := Lib.hid hbw
  clear hb1 hr0 hr2 hl1 hbw hl
  have hs1 : (wordsV 64 (sched c)).size = 64 := wordsV_size _ _
  have hs2 : s.vals.size = 8 := rfl
  have hst1 : ∀ c0 : Array Value, c0.size = 64 → (storeCells ⟨w1.heap.size, 0, none⟩ (wordsV 64 (sched c)).toList 0).run Tryd.prog (w1.alloc (.cells c0 131)) = .ok () (w1.alloc (.cells (wordsV 64 (sched c)) 131)) :=
    fun c0 h0 => run_storeCells_new w1 131 c0 _ (by rw [wordsV_size]; kernel_rfl) (by rw [h0, wordsV_size]) (wordsV_one _ _)
  have hst2 : ∀ c0 : Array Value, c0.size = 8 → (storeCells ⟨w1.heap.size + 1, 0, none⟩ s.vals.toList 0).run Tryd.prog ((w1.alloc (.cells (wordsV 64 (sched c)) 131)).alloc (.cells c0 100)) = .ok () ((w1.alloc (.cells (wordsV 64 (sched c)) 131)).alloc (.cells s.vals 100)) :=
    fun c0 h0 => run_storeCells_new' (w1.alloc (.cells (wordsV 64 (sched c)) 131)) _ 100 c0 _ (by simp) (by kernel_rfl) h0 (vals_one s)
  go_wp2_with ((with_reducible show wpList _ _ _ (⟨some 11, _, _, _, _, _⟩ :: _) _ _); refine wpList_load_row rfl 100 _ rfl w.heap.size rfl 100 s.vals (0, 0) _ ((heap_alloc_old _ _ (by omega)).trans HR0.out) Tryd.underlying100 rfl (by kernel_rfl) ?_)
  clear hst1 hst2 hs1 hs2
  go_loopw [12] (fun i wr => Block1 w1 c s i wr) (fun i _ => 64 - (intOf i).toNat)
  case atStart =>
    exact ⟨0, by omega, rfl, row8_new _ _ s (by simp), (Below.refl _ _).alloc (by simp) _⟩
  case round =>
    obtain ⟨k, hk, rfl, hrow, hbel⟩ := hrel
    by_cases hlt : k < 64
    · have hkey : wr.cell? ⟨1, k, none⟩ = some (.int .u32 (key k).toNat) :=
        (hbel.cell (p := ⟨1, k, none⟩) (by simp; omega)).trans ((Below.cell (p := ⟨1, k, none⟩) ((Below.refl w1.heap.size w1).alloc (Nat.le_refl _) _) (by simp; omega)).trans (HL1.out.keys k hlt))
      have hwd : wr.cell? ⟨w1.heap.size, k, none⟩ = some (.int .u32 (sched c k).toNat) :=
        (hbel.cell (p := ⟨w1.heap.size, k, none⟩) (by simp)).trans ((World.cell?_alloc_new _ _ _ _).trans (wordsV_at 64 _ k hlt))
      obtain ⟨s', hs'⟩ : ∃ s', rounds key c s k = s' := ⟨_, rfl⟩
      have HS' := Lib.hid hs'
      rw [hs'] at hrow
      clear hs'
      obtain ⟨a0, a1, a2, a3, a4, a5, a6, a7⟩ := s'
      obtain ⟨c0, c1, c2, c3, c4, c5, c6, c7⟩ := hrow.cells
      obtain ⟨f0, f1, f2, f3, f4, f5, f6, f7⟩ := hrow.froz
      have HROW := Lib.hid hrow
      have HBEL := Lib.hid hbel
      clear hrow hbel
      have hwr : IntKind.u32.wrap (((key k).toNat : Int) + ((sched c k).toNat : Int)) = ((wsum (key k) (sched c k)).toNat : Int) := u32_add _ _
      go_wp2_with fail
      go_still_tail 8, (by kernel_rfl)
      clear hwr c0 c1 c2 c3 c4 c5 c6 c7 f0 f1 f2 f3 f4 f5 f6 f7
      change wpList _ _ _ _ _ wr.drew
      go_wp2_with fail
      refine (round_lit a0 a1 a2 a3 a4 a5 a6 a7 (wsum (key k) (sched c k)) _).mono ?_
      rintro e w2 ⟨rfl, hb2⟩
      have hlt2 : w1.heap.size + 1 < wr.drew.heap.size := (Array.getElem?_eq_some_iff.1 HROW.out).1
      have HROW2 := Lib.hid (Row8.below (w := wr.drew) (w' := w2) HROW.out hb2 hlt2)
      have HB2 := Lib.hid (HBEL.out.drew.trans (hb2.mono (Nat.le_of_lt hlt2)))
      clear hb2 hlt2
      go_wp2_with ((with_reducible show wpList _ _ _ (⟨none, .store 100 (.tmp 6) (.tmp 23), _, _, _, _⟩ :: _) _ _); refine wpList_store_abs rfl 100 _ _ rfl (w1.heap.size + 1) (Eight.step2 ⟨a0, a1, a2, a3, a4, a5, a6, a7⟩ (wsum (key k) (sched c k))).vals rfl rfl 100 _ HROW2.out (by kernel_rfl) ((vals_size _).trans (vals_size _).symm) (vals_one _) ?_; intro w3 HW3 ho3; have HO3 := Lib.hid ho3; clear ho3)
      go_roundw
      case rel =>
        refine ⟨k + 1, by omega, by go_num, ?_, HO3.out.below HB2.out (Nat.le_refl _)⟩
        show Row8 w3 (w1.heap.size + 1) ((rounds key c s k).step (key k) (sched c k))
        rw [Eight.step_step2, HS'.out]
        exact HW3.out
      case measure => simp [intOf]; omega
    · obtain rfl : k = 64 := by omega
      obtain ⟨r, hr⟩ : ∃ r, r = rounds key c s 64 := ⟨_, rfl⟩
      rw [← hr] at hrow
      have HRR := Lib.hid (show res = s.add r by rw [HRES.out, hr]; rfl)
      have HROW := Lib.hid hrow
      have HBEL := Lib.hid hbel
      clear hrow hbel hlt hk hr HRES
      go_wp2_with fail
      go_loopw [25] (fun i wr => Block2 w1 c r s i wr) (fun i _ => 8 - (intOf i).toNat)
      case atStart =>
        exact ⟨0, by omega, rfl, by rw [mixed_0]; exact HROW.out, HBEL.out⟩
      case round =>
        clear HROW HBEL
        rename_i wr0
        obtain ⟨k, hk, rfl, hrow, hbel⟩ := hrel
        by_cases hlt : k < 8
        · have hc1 := hrow.cell k hlt
          have hf1 := hrow.frozen k
          rw [mixed_at _ _ k hlt] at hc1
          have hr0 : Row8 wr w.heap.size s := (hbel.block _ (by omega)).trans ((heap_alloc_old _ _ (by omega)).trans HR0.out)
          have hc2 := hr0.cell k hlt
          have hne : w.heap.size ≠ w1.heap.size + 1 := by omega
          have HROW := Lib.hid hrow
          have HBEL := Lib.hid hbel
          clear hrow hbel hr0
          go_wp2_with fail
          go_region
          go_wp2
          go_roundw
          case rel =>
            refine ⟨k + 1, by omega, by go_num, ?_, ?_⟩
            · rw [w_sum]
              exact HROW.out.set k hlt _ (mixed_new _ _ k hlt) (fun j hj hjk => mixed_other _ _ k j hj hjk)
            · exact (HBEL.out.setCell (p := ⟨w1.heap.size + 1, k, none⟩) (Nat.le_refl _) _).drew
          case measure => simp [intOf]; omega
        · obtain rfl : k = 8 := by omega
          have HROW := Lib.hid (show Row8 wr (w1.heap.size + 1) res by rw [HRR.out, ← mixed_8]; exact hrow)
          have HR3 := Lib.hid (show Row8 wr (w.heap.size + 2) ⟨0, 0, 0, 0, 0, 0, 0, 0⟩ from (hbel.block _ (by omega)).trans ((heap_alloc_old _ _ (by omega)).trans HR2.out))
          have HBEL := Lib.hid hbel
          clear hrow hbel hlt hk
          go_wp2_with (first | ((with_reducible show wpList _ _ _ (⟨some 37, _, _, _, _, _⟩ :: _) _ _); refine wpList_load_row rfl 100 _ rfl (w1.heap.size + 1) rfl 100 _ (0, 0) _ HROW.out Tryd.underlying100 rfl (by kernel_rfl) ?_) | ((with_reducible show wpList _ _ _ (⟨none, .store 100 (.tmp 4) (.tmp 37), _, _, _, _⟩ :: _) _ _); refine wpList_store_row rfl 100 _ _ rfl (w.heap.size + 2) res.vals rfl rfl 100 _ HR3.out (by kernel_rfl) ((vals_size _).trans (vals_size _).symm) (vals_one _) ?_))
          refine bodyPost_ret (v := .agg res.vals) (results_cell_row Tryd.results73 _ _ (w.heap.size + 2) 100 _ (0, 0) _ rfl (setRow_heap _ _ _ _ _ _ HR3.out) Tryd.underlying100 rfl (by kernel_rfl)) rfl ⟨rfl, ?_⟩
          exact below_setRow (HBW.out.trans (((Below.refl w.heap.size w1).alloc (by omega) _).trans (HBEL.out.mono (by omega)))) (by omega) _
end Go.Proofs.YtcckpkcjekcajaaDoor

namespace Go.Proofs.YtcckpkcjekcajaaDoor
open Go.RowKit

/-- Byte j when k bytes of the length have been laid from the end. -/
def padK (l : List UInt8) (k j : Nat) : UInt8 :=
  if j < l.length then l.getD j 0 else if j = l.length then 128 else if j < padN l.length - k then 0 else (8 * l.length / 2 ^ (8 * (padN l.length - 1 - j))).toUInt8
theorem padK_8 (l : List UInt8) (j : Nat) : padK l 8 j = padB l j := rfl
theorem padN_gt (n : Nat) : n + 9 ≤ padN n := by unfold padN; omega
theorem padN_le (n : Nat) : padN n ≤ n + 72 := by unfold padN; omega

def PadPost (w : World) (l : List UInt8) (e : Ending) (w' : World) : Prop :=
  e = .returned (.slice (some ⟨w.heap.size, 0, none⟩) (padN l.length) (padN l.length)) ∧ CellsAt w' w.heap.size 5 (padN l.length) (fun j => B (padB l j)) ∧ Below w.heap.size w w'
def PadRel (w : World) (l : List UInt8) (N : Nat) (i : Value) (wr : World) : Prop :=
  ∃ k : Nat, k ≤ 8 ∧ i = .int .i64 k ∧ CellsAt wr w.heap.size 5 N (fun j => B (padK l k j)) ∧ Below w.heap.size w wr

theorem madeCells_zero (n : Nat) : (madeCells #[Value.int IntKind.u8 0] n).toList = List.replicate n (B 0) := by
  rw [toList_madeCells_one]; rfl
theorem len_byte (n k : Nat) : (n : Int) * 8 / 2 ^ (8 * k) % 256 = (((8 * n / 2 ^ (8 * k)).toUInt8).toNat : Int) := by
  have e : ((n : Int) * 8 / 2 ^ (8 * k)) = ((8 * n / 2 ^ (8 * k) : Nat) : Int) := by
    rw [Int.natCast_ediv, Int.natCast_mul, Int.natCast_pow, Int.mul_comm]; rfl
  rw [e]
  generalize 8 * n / 2 ^ (8 * k) = x
  show ((x : Int)) % 256 = ((UInt8.ofNat x).toNat : Int)
  rw [UInt8.toNat_ofNat']; omega
theorem pad_copied {w2 : World} {g N : Nat} {s : ByteArray} (h : w2.heap[g]? = some (.cells (splice (List.replicate N (B 0)) 0 (Lib.byteCells s.data.toList)).toArray 5 (0, 0))) (hN : s.size ≤ N) :
    CellsAt w2 g 5 N (fun j => B (if j < s.size then s.data.toList.getD j 0 else 0)) := by
  have hl : s.data.toList.length = s.size := (Lib.size_eq s).symm
  have hbl : (Lib.byteCells s.data.toList).length = s.size := by rw [Lib.byteCells_length, hl]
  refine cellsAt_list h N _ ?_ ?_
  · rw [length_splice _ _ _ (by rw [hbl, List.length_replicate]; omega), List.length_replicate]
  · intro j hj
    unfold splice
    rw [List.take_zero, List.nil_append, Nat.zero_add, hbl]
    by_cases hs : j < s.size
    · rw [List.getElem?_append_left (by rw [hbl]; exact hs), cells_B, if_pos hs, List.getElem?_map, List.getD_eq_getElem?_getD, List.getElem?_eq_getElem (by omega)]
      rfl
    · rw [List.getElem?_append_right (by omega), if_neg hs, hbl, List.getElem?_drop, List.getElem?_replicate, if_pos (by omega)]

set_option maxHeartbeats 1000000 in
theorem pad_any (s : ByteArray) (w : World) (h : s.size ≤ 8000) :
    Calls Tryd.prog 72 #[.string s] w (PadPost w s.data.toList) := by
  obtain ⟨i0, hi, hz0, hz1, hz2⟩ := info_parts Tryd.info5
  have hg := padN_gt s.size
  have hle := padN_le s.size
  go_enter Tryd.func72, Tryd.ntmps72
  go_wp2_with (at_make; refine wpList_make_full _ rfl _ _ 22 rfl w.heap.size 5 i0 (.int .u8 0) 1 Tryd.underlying22 hi hz0 hz1 .i64 .i64 _ _ (padN s.size) rfl rfl ?m1 ?m2 (by rw [hz2]; omega) (by unfold maxLen; omega) (Nat.le_refl _) ?_)
  case m1 => unfold padN; omega
  case m2 => unfold padN; omega
  intro w1 hown1 hgrow1
  have hb1 : Below w.heap.size w w1 := (Below.refl _ w).grown hgrow1 (Nat.le_refl _) (by simp)
  have hg1 := own_block hown1
  rw [madeCells_zero] at hg1
  have HG1 := Lib.hid hg1
  clear hown1 hgrow1 hg1 hi hz0 hz1 hz2
  generalize hN : padN s.size = N at *
  have HN := Lib.hid hN
  clear hN
  go_wp2_with ((with_reducible show wpList _ _ _ (⟨some 22, _, _, _, _, _⟩ :: _) _ _); refine wpList_copy_str rfl (.tmp 20) (.tmp 21) 22 9 rfl 5 Tryd.underlying22 Tryd.size5 (some ⟨w.heap.size, 0, none⟩) N N s rfl rfl w.heap.size 0 _ 5 HG1.out (by omega) (fun _ => rfl) (by simp; omega) w.heap.size w hb1 (Nat.le_refl _) ?_)
  intro w2 HG2 hb2
  clear hb1
  have hc2 : CellsAt w2 w.heap.size 5 N (fun j => B (if j < s.size then s.data.toList.getD j 0 else 0)) := pad_copied HG2.out (by omega)
  have hc3 := hc2.cell s.size (by omega)
  have hf3 := hc2.frozen s.size
  have HC2 := Lib.hid hc2
  have HB2 := Lib.hid hb2
  clear hc2 hb2 HG2 HG1
  have hl : s.data.toList.length = s.size := (Lib.size_eq s).symm
  have HL := Lib.hid hl
  clear hl
  go_wp2_with fail
  go_loopw [28] (fun i wr => PadRel w s.data.toList N i wr) (fun i _ => 8 - (intOf i).toNat)
  case atStart =>
    refine ⟨0, by omega, rfl, ?_, HB2.out.setCell (p := ⟨w.heap.size, s.size, none⟩) (Nat.le_refl _) _⟩
    refine (HC2.out.set (v' := fun j => if j = s.size then B 128 else B (if j < s.size then s.data.toList.getD j 0 else 0)) s.size _ (if_pos rfl) (fun i hi => if_neg hi)).congr fun j hj => ?_
    unfold padK
    rw [HL.out, HN.out]
    by_cases h1 : j < s.size
    · rw [if_pos h1, if_neg (by omega), if_pos h1]
    · rw [if_neg h1]
      by_cases h2 : j = s.size
      · rw [if_pos h2, if_pos h2]
      · rw [if_neg h2, if_neg h2, if_neg h1, if_pos (by omega)]
  case round =>
    clear hf3 hc3
    obtain ⟨k, hk, rfl, hcs, hbel⟩ := hrel
    by_cases hlt : k < 8
    · have hc := hcs.cell (N - 1 - k) (by omega)
      have hf := hcs.frozen (N - 1 - k)
      have HCS := Lib.hid hcs
      have HBEL := Lib.hid hbel
      clear hcs hbel
      go_wp2
      go_roundw
      case rel =>
        refine ⟨k + 1, by omega, by go_num, ?_, ?_⟩
        · refine (HCS.out.set (v' := fun j => if j = N - 1 - k then Value.int IntKind.u8 ((s.size : Int) * 8 / 2 ^ (8 * k) % 256) else B (padK s.data.toList k j)) (N - 1 - k) _ (if_pos rfl) (fun i hi => if_neg hi)).congr fun j hj => ?_
          unfold padK
          rw [HL.out, HN.out]
          by_cases h1 : j = N - 1 - k
          · rw [if_pos h1, if_neg (by omega), if_neg (by omega), if_neg (by omega), show N - 1 - j = k by omega]
            exact (val_int (len_byte s.size k)).symm
          · rw [if_neg h1]
            by_cases h2 : j < s.size
            · rw [if_pos h2, if_pos h2]
            · rw [if_neg h2, if_neg h2]
              by_cases h3 : j = s.size
              · rw [if_pos h3, if_pos h3]
              · rw [if_neg h3, if_neg h3]
                by_cases h4 : j < N - (k + 1)
                · rw [if_pos h4, if_pos (by omega)]
                · rw [if_neg h4, if_neg (by omega)]
        · exact HBEL.out.setCell (p := ⟨w.heap.size, N - 1 - k, none⟩) (Nat.le_refl _) _
      case measure => simp [intOf]; omega
    · obtain rfl : k = 8 := by omega
      have HCS := Lib.hid hcs
      have HBEL := Lib.hid hbel
      clear hcs hbel hlt hk
      go_wp2
      go_ret
      refine ⟨?_, ?_, HBEL.out⟩
      · rw [HL.out, HN.out]; rfl
      · rw [HL.out, HN.out]; exact HCS.out
end Go.Proofs.YtcckpkcjekcajaaDoor

namespace Go.Proofs.YtcckpkcjekcajaaDoor
open Go.RowKit

theorem load_bytes {w : World} {g N k : Nat} {l : Nat → UInt8} (h : CellsAt w g 5 N (fun j => B (l j))) (hk : 64 * k + 64 ≤ N) :
    (loadVar 103 ⟨g, 64 * k, none⟩).run Tryd.prog w = .ok (.agg (bytesV fun j => l (64 * k + j))) w := by
  have hl := run_loadCells_list (P := Tryd.prog) w ⟨g, 64 * k, none⟩ (bytesV fun j => l (64 * k + j)).toList (fun j v hv => by
    have hj : j < 64 := by
      have := (List.getElem?_eq_some_iff.1 hv).1
      simpa [bytesV] using this
    have hadd : (⟨g, 64 * k, none⟩ : Addr).add j = ⟨g, 64 * k + j, none⟩ := by simp [Addr.add]
    rw [hadd, h.cell _ (by omega)]
    have : (bytesV fun j => l (64 * k + j)).toList[j]? = some (B (l (64 * k + j))) := by simp [bytesV, hj]
    rw [this] at hv
    exact hv)
  have e : (bytesV fun j => l (64 * k + j)).toList.length = 64 := by simp [bytesV]
  rw [e] at hl
  simp only [Array.toArray_toList] at hl
  have hagg : (isAgg 103).run Tryd.prog w = .ok true w := by
    unfold isAgg
    rw [Sem.run_bind, run_underlying Tryd.underlying103 w]
    rfl
  have hi : (Tryd.prog.info? 103).map (·.size) = some 64 := by kernel_rfl
  cases hq : Tryd.prog.info? 103 with
  | none => simp [hq] at hi
  | some i =>
    have hs : i.size = 64 := by simpa [hq] using hi
    simp [loadVar, Sem.run_bind, hagg, sizeOf, typeInfo, hq, hs, hl]
/-- A load in a region that draws, its run told. -/
theorem wpStill_load {P : Program} {ops : Array Oper} {w : World} {Q : Act → Prop} {a : Act} {o : Oper} {rest : List Oper} (hgd : o.guard = none) (ty : TypeId) (x : Operand) (ho : o.op = .load ty x)
    (p : Addr) (hx : a.eval x = .pointer (some p)) (v : Value) (hrun : (loadVar ty p).run P w = .ok v w) (h : wpStill P ops w Q rest (a.put o.dst v)) : wpStill P ops w Q (o :: rest) a := by
  refine wpStill_step fun K hK => ?_
  rw [if_pos (by unfold Region.wanted; rw [hgd])]
  unfold Oper.still execOp
  simp only [ho, hx, Instr.loadAt, Instr.sureAddr, Sem.run_bind, Sem.run_pure, Result.andThen_ok, hrun]
  exact ⟨rfl, hK _ h⟩

def DigRel (w : World) (l : List UInt8) (N : Nat) (r i : Value) (wr : World) : Prop :=
  ∃ k : Nat, 64 * k ≤ N ∧ i = .int .i64 k ∧ (64 * k < N → r = .slice (some ⟨w.heap.size + 1, 64 * k, none⟩) (N - 64 * k) (N - 64 * k)) ∧ Row8 wr w.heap.size (blocks key (padB l) start k) ∧
    CellsAt wr (w.heap.size + 1) 5 N (fun j => B (padB l j)) ∧ Below w.heap.size w wr

set_option maxHeartbeats 1000000 in
set_option maxRecDepth 100000 in
theorem digest_any (s : ByteArray) (w : World) (h : s.size ≤ 8000) (hl : LaidT w) :
    Calls Tryd.prog 51 #[.string s] w fun e w' => e = .returned (.string ⟨(sha key start s.data.toList).toArray⟩) ∧ Below w.heap.size w w' := by
  obtain ⟨str, hstr⟩ : ∃ str : ByteArray, str = ⟨(sha key start s.data.toList).toArray⟩ := ⟨_, rfl⟩
  rw [← hstr]
  have HSTR := Lib.hid hstr
  clear hstr
  have h2 := hl.two
  have d1 : decide ((8000 : Int) < (s.size : Int)) = false := decide_eq_false (by omega)
  have g0 := hl.start 0 (by decide)
  have g1 := hl.start 1 (by decide)
  have g2 := hl.start 2 (by decide)
  have g3 := hl.start 3 (by decide)
  have g4 := hl.start 4 (by decide)
  have g5 := hl.start 5 (by decide)
  have g6 := hl.start 6 (by decide)
  have g7 := hl.start 7 (by decide)
  have HL := Lib.hid hl
  clear hl
  go_enter Tryd.func51, Tryd.ntmps51
  go_wp2_with fail
  refine (pad_any s _ h).mono ?_
  rintro e w1 ⟨rfl, hc1, hb1⟩
  have hn := (Lib.size_eq s).symm
  rw [hn] at hc1
  rw [hn]
  have hN9 := padN_gt s.size
  have hN72 := padN_le s.size
  have hNM : padN s.size = 64 * (padN s.size / 64) := by unfold padN; omega
  have hrow : Row8 w1 w.heap.size start := (hb1.block _ (by simp)).trans (heap_alloc_new w _)
  have hbw : Below w.heap.size w w1 := ((Below.refl _ w).alloc (Nat.le_refl _) _).trans (hb1.mono (by simp))
  simp only [World.size_alloc] at hc1
  have HFIN := Lib.hid (show bytesUpto (blocks key (padB s.data.toList) start (padN s.size / 64)) 32 = sha key start s.data.toList by rw [← hn]; rfl)
  generalize padN s.size = N at *
  have HNM := Lib.hid hNM
  have HC1 := Lib.hid hc1
  have HROW := Lib.hid hrow
  have HBW := Lib.hid hbw
  clear hc1 hrow hbw hb1 hNM hn g0 g1 g2 g3 g4 g5 g6 g7
  go_wp2_with fail
  go_loopw [4, 14] (fun r i wr => DigRel w s.data.toList N r i wr) (fun _ i _ => N - 64 * (intOf i).toNat)
  case atStart =>
    exact ⟨0, by omega, rfl, fun _ => rfl, HROW.out, HC1.out, HBW.out⟩
  case round =>
    clear HROW HC1 HBW
    obtain ⟨k, hk, rfl, hr, hrow, hcs, hbel⟩ := hrel
    by_cases hlt : 64 * k < N
    · obtain rfl := hr hlt
      have hM : 64 * k + 64 ≤ N := by have := HNM.out; omega
      have HLB := Lib.hid (load_bytes (w := wr.drew) hcs.drew hM)
      generalize hL : N - 64 * k = L at *
      have hL64 : 64 ≤ L := by omega
      have hL64i : (64 : Int) ≤ (L : Int) := by omega
      have HLL := Lib.hid hL
      clear hL
      have hat : ∀ w' : World, (Instr.arrayAt 103 (.slice (some ⟨w.heap.size + 1, 64 * k, none⟩) 64 L)).run Tryd.prog w' = .ok (.pointer (some ⟨w.heap.size + 1, 64 * k, none⟩)) w' := fun w' => run_arrayAt (w := w') 103 _ 64 _ 64 _ Tryd.underlying103 (Nat.le_refl _)
      obtain ⟨s', hs'⟩ : ∃ s', blocks key (padB s.data.toList) start k = s' := ⟨_, rfl⟩
      have HS' := Lib.hid hs'
      rw [hs'] at hrow
      clear hs' hr
      obtain ⟨a0, a1, a2, a3, a4, a5, a6, a7⟩ := s'
      obtain ⟨c0, c1, c2, c3, c4, c5, c6, c7⟩ := hrow.cells
      have HROW := Lib.hid hrow
      have HBEL := Lib.hid hbel
      have HCS := Lib.hid hcs
      clear hrow hbel hcs
      have hd : decide ((k : Int) < (N : Int) / 64) = true := decide_eq_true (by omega)
      go_wp2_with fail
      go_still_tail 5, (by kernel_rfl)
      refine wpStill_load rfl 103 _ rfl ⟨w.heap.size + 1, 64 * k, none⟩ rfl _ HLB.out ?_
      refine wpStill_nil ?_
      change wpList _ _ _ _ _ wr.drew
      clear c0 c1 c2 c3 c4 c5 c6 c7 HLB
      go_wp2_with fail
      have hblk := block_any (fun j => padB s.data.toList (64 * k + j)) ⟨a0, a1, a2, a3, a4, a5, a6, a7⟩ wr.drew (HL.out.below (HBEL.out.drew) h2)
      generalize hres : block key (fun j => padB s.data.toList (64 * k + j)) ⟨a0, a1, a2, a3, a4, a5, a6, a7⟩ = res at hblk
      have HRES := Lib.hid hres
      clear hres
      refine hblk.mono ?_
      clear hblk
      rintro e w2 ⟨rfl, hb2⟩
      have hlt2 : w.heap.size + 1 < wr.drew.heap.size := HCS.out.lt
      have HROW2 := Lib.hid (Row8.below (w := wr.drew) (w' := w2) HROW.out hb2 (by omega))
      have HB2 := Lib.hid (HBEL.out.drew.trans (hb2.mono (by omega)))
      have HCS2 := Lib.hid (CellsAt.below (wr := wr.drew) HCS.out hb2 hlt2)
      clear hb2 hlt2
      by_cases hlast : L = 64
      · subst hlast
        go_wp2_with ((with_reducible show wpList _ _ _ (⟨none, .store 100 (.tmp 3) (.tmp 21), _, _, _, _⟩ :: _) _ _); refine wpList_store_abs rfl 100 _ _ rfl w.heap.size res.vals rfl rfl 100 _ HROW2.out (by kernel_rfl) ((vals_size _).trans (vals_size _).symm) (vals_one _) ?_; intro w3 HW3 ho3; have HO3 := Lib.hid ho3; clear ho3)
        go_roundw
        case rel =>
          have := HLL.out
          refine ⟨k + 1, by omega, by go_num, fun hh => absurd hh (by omega), ?_, ?_, HO3.out.below HB2.out (Nat.le_refl _)⟩
          · rw [blocks_succ, HS'.out, HRES.out]; exact HW3.out
          · exact (HO3.out.block _ (by omega)).trans HCS2.out
        case measure => simp [intOf]; omega
      · have hgt : 65 ≤ L := by omega
        go_wp2_with ((with_reducible show wpList _ _ _ (⟨none, .store 100 (.tmp 3) (.tmp 21), _, _, _, _⟩ :: _) _ _); refine wpList_store_abs rfl 100 _ _ rfl w.heap.size res.vals rfl rfl 100 _ HROW2.out (by kernel_rfl) ((vals_size _).trans (vals_size _).symm) (vals_one _) ?_; intro w3 HW3 ho3; have HO3 := Lib.hid ho3; clear ho3)
        go_roundw
        case rel =>
          have hq := HLL.out
          refine ⟨k + 1, by omega, by go_num, fun hh => ?_, ?_, ?_, HO3.out.below HB2.out (Nat.le_refl _)⟩
          · rw [show 64 * (k + 1) = 64 * k + 64 by omega, show N - (64 * k + 64) = L - 64 by omega]
          · rw [blocks_succ, HS'.out, HRES.out]; exact HW3.out
          · exact (HO3.out.block _ (by omega)).trans HCS2.out
        case measure => simp [intOf]; omega
    · have hkM : k = N / 64 := by have := HNM.out; omega
      rw [hkM] at hrow
      have hd : decide ((k : Int) < (N : Int) / 64) = false := decide_eq_false (by omega)
      clear hkM
      obtain ⟨s', hs'⟩ : ∃ s', blocks key (padB s.data.toList) start (N / 64) = s' := ⟨_, rfl⟩
      rw [hs'] at hrow
      have HX := Lib.hid (show str = ⟨(bytesUpto s' 32).toArray⟩ by rw [HSTR.out, ← HFIN.out, hs'])
      have HROW := Lib.hid hrow
      have HBEL := Lib.hid hbel
      clear hs' hr hrow hbel hcs HFIN HSTR
      go_wp2_with ((with_reducible show wpList _ _ _ (⟨some 25, _, _, _, _, _⟩ :: _) _ _); refine wpList_load_row rfl 100 _ rfl w.heap.size rfl 100 _ (0, 0) _ HROW.out Tryd.underlying100 rfl (by kernel_rfl) ?_)
      refine (stateText_any s' _).mono ?_
      rintro e w2 ⟨rfl, hb2⟩
      have hz : w.heap.size ≤ wr.heap.size := HBEL.out.size
      go_wp2_with fail
      go_ret
      exact ⟨by rw [HX.out]; rfl, HBEL.out.trans (hb2.mono hz)⟩

set_option maxHeartbeats 400000 in
theorem digest_long (s : ByteArray) (w : World) (hs : s.size ≤ maxLen) (h : 8000 < s.size) :
    Calls Tryd.prog 51 #[.string s] w fun e w' => e = .returned (.string ⟨#[]⟩) ∧ w = w' := by
  unfold maxLen at hs
  go_enter Tryd.func51, Tryd.ntmps51
  go_wp2_with fail
  go_ret
  exact ⟨rfl, rfl⟩
end Go.Proofs.YtcckpkcjekcajaaDoor

namespace Go.Proofs.YtcckpkcjekcajaaDoor
open Go.RowKit

theorem Tryd.info2 : (Tryd.prog.info? 2).map (fun i => (i.zero, i.size, i.bytes)) = some (some (.int .i64 0), 1, 8) := by kernel_rfl
theorem Tryd.info31 : (Tryd.prog.info? 99).map (fun i => (i.zero, i.size, i.bytes)) = some (some (.int .u32 0), 1, 4) := by kernel_rfl
def I (x : UInt32) : Value := .int .i64 x.toNat
def list8 (s : Eight) : List Value := [I s.a, I s.b, I s.c, I s.d, I s.e, I s.f, I s.g, I s.h]
theorem list8_at (s : Eight) (j : Nat) (h : j < 8) : (list8 s)[j]? = some (.int .i64 (s.get j).toNat) := by
  match j, h with
  | 0, _ | 1, _ | 2, _ | 3, _ | 4, _ | 5, _ | 6, _ | 7, _ => rfl
  | j + 8, h => omega

def StartPost (w : World) (e : Ending) (w' : World) : Prop := ∃ v, e = .returned v ∧ w'.ownsRow w.heap.size 2 1 v 8 (list8 start) ∧ Below w.heap.size w w'
set_option maxHeartbeats 400000 in
theorem specStart (w : World) : Calls Tryd.prog 90 #[] w (StartPost w) := by
  go_enter Tryd.func90, Tryd.ntmps90
  go_wp2_with fail
  go_ret
  exact ⟨_, rfl, World.ownsRow_lit w _ 8 (Nat.le_refl _) (by decide) rfl, (Below.refl _ _).alloc (Nat.le_refl _) _⟩

def KeysPost (w : World) (e : Ending) (w' : World) : Prop := e = .returned (.slice (some ⟨w.heap.size, 0, none⟩) 64 64) ∧ Words w' w.heap.size 99 64 key ∧ Below w.heap.size w w'
set_option maxHeartbeats 400000 in
set_option maxRecDepth 100000 in
theorem specKeys (w : World) : Calls Tryd.prog 97 #[] w (KeysPost w) := by
  go_enter Tryd.func97, Tryd.ntmps97
  go_wp2_with fail
  go_ret
  exact ⟨rfl, words_new w _ 64 _ key rfl rfl, (Below.refl _ _).alloc (Nat.le_refl _) _⟩

theorem turn_still (x : UInt32) (k : Nat) (ki : Int) (w : World) (hk : ki = k) (h0 : 1 ≤ k) (h1 : k ≤ 31) :
    Calls Tryd.prog 96 #[.int .u32 x.toNat, .int .u64 ki] w fun e w' => e = .returned (.int .u32 (rotr x k).toNat) ∧ w' = w := (turn_at x k ki w hk h0 h1).mono fun _ _ ⟨a, b⟩ => ⟨a, b.symm⟩
theorem w_word (b : ByteArray) (k : Nat) (h : 4 * k + 3 < b.size) :
    bits BinOp.or IntKind.u32 (bits BinOp.or IntKind.u32 (bits BinOp.or IntKind.u32 (((b[4 * k]'(by omega)).toNat : Int) * 16777216 % 4294967296) (((b[4 * k + 1]'(by omega)).toNat : Int) * 65536 % 4294967296)) (((b[4 * k + 2]'(by omega)).toNat : Int) * 256 % 4294967296)) ((b[4 * k + 3]'h).toNat : Int) = ((word (fun j => b.data.toList.getD j 0) k).toNat : Int) := by
  have e (j : Nat) (hj : j < b.size) : b.data.toList.getD j 0 = b[j] := by
    have h' : j < b.data.toList.length := by rw [← Lib.size_eq]; exact hj
    rw [List.getD_eq_getElem?_getD, List.getElem?_eq_getElem h']; rfl
  unfold word
  simp only []
  rw [e _ (by omega), e _ (by omega), e _ (by omega), e _ h]
  have s (x : UInt8) (n : Nat) (hn : n < 32) : (x.toNat : Int) * 2 ^ n % 4294967296 = ((x.toUInt32 <<< UInt32.ofNat n).toNat : Int) := by
    rw [← w_shl x.toUInt32 n hn]; simp
  have s24 := s (b[4 * k]'(by omega)) 24 (by decide)
  have s16 := s (b[4 * k + 1]'(by omega)) 16 (by decide)
  have s8 := s (b[4 * k + 2]'(by omega)) 8 (by decide)
  rw [show (2 : Int) ^ 24 = 16777216 by decide] at s24
  rw [show (2 : Int) ^ 16 = 65536 by decide] at s16
  rw [show (2 : Int) ^ 8 = 256 by decide] at s8
  rw [s24, s16, s8, u32_byte (b[4 * k + 3]'h), u32_or, u32_or, u32_or]
  rfl

end Go.Proofs.YtcckpkcjekcajaaDoor
