/- SHA-256 as plain functions on words; nothing of the program. -/
import Derived.Test.YtcckpkcjekcajaaDoorU32
namespace Go.Proofs.YtcckpkcjekcajaaDoor
open Go

def rotr (x : UInt32) (k : Nat) : UInt32 := x >>> UInt32.ofNat k ||| x <<< UInt32.ofNat (32 - k)
def sig0 (x : UInt32) : UInt32 := rotr x 7 ^^^ rotr x 18 ^^^ x >>> 3
def sig1 (x : UInt32) : UInt32 := rotr x 17 ^^^ rotr x 19 ^^^ x >>> 10
def sum0 (x : UInt32) : UInt32 := rotr x 2 ^^^ rotr x 13 ^^^ rotr x 22
def sum1 (x : UInt32) : UInt32 := rotr x 6 ^^^ rotr x 11 ^^^ rotr x 25
def choose (x y z : UInt32) : UInt32 := (x &&& y) ^^^ (~~~x &&& z)
def major (x y z : UInt32) : UInt32 := (x &&& y) ^^^ (x &&& z) ^^^ (y &&& z)

/-- Word i of a block whose bytes are c 0, c 1, .., big end first. -/
def word (c : Nat → UInt8) (i : Nat) : UInt32 :=
  (c (4 * i)).toUInt32 <<< 24 ||| (c (4 * i + 1)).toUInt32 <<< 16 ||| (c (4 * i + 2)).toUInt32 <<< 8 ||| (c (4 * i + 3)).toUInt32
/-- The schedule. -/
def sched (c : Nat → UInt8) (i : Nat) : UInt32 :=
  if _h : i < 16 then word c i
  else sched c (i - 16) + sig0 (sched c (i - 15)) + sched c (i - 7) + sig1 (sched c (i - 2))
termination_by i
theorem sched_low (c : Nat → UInt8) (i : Nat) (h : i < 16) : sched c i = word c i := by rw [sched, dif_pos h]
theorem sched_high (c : Nat → UInt8) (i : Nat) (h : 16 ≤ i) : sched c i = sched c (i - 16) + sig0 (sched c (i - 15)) + sched c (i - 7) + sig1 (sched c (i - 2)) := by
  rw [sched, dif_neg (by omega)]
/-- Word j when the first k bytes have been shifted in. -/
def part (c : Nat → UInt8) : Nat → Nat → UInt32
  | 0, _ => 0
  | k + 1, j => if k / 4 = j then part c k j <<< 8 ||| (c k).toUInt32 else part c k j
theorem part_zero (c : Nat → UInt8) (j : Nat) : ∀ k, k ≤ 4 * j → part c k j = 0
  | 0, _ => rfl
  | k + 1, h => by rw [part, if_neg (by omega)]; exact part_zero c j k (by omega)
theorem part_stays (c : Nat → UInt8) (j : Nat) : ∀ k, part c (4 * j + 4 + k) j = part c (4 * j + 4) j
  | 0 => rfl
  | k + 1 => by
    show part c (4 * j + 4 + k + 1) j = _
    rw [part, if_neg (by omega)]; exact part_stays c j k
theorem shl_or (x y : UInt32) (k : UInt32) : (x ||| y) <<< k = x <<< k ||| y <<< k := by
  simp [← UInt32.toBitVec_inj, BitVec.shiftLeft_or_distrib]
theorem shl_8_8 (x : UInt32) : x <<< 8 <<< 8 = x <<< 16 := by
  simp [← UInt32.toBitVec_inj, ← BitVec.shiftLeft_add]
theorem shl_16_8 (x : UInt32) : x <<< 16 <<< 8 = x <<< 24 := by
  simp [← UInt32.toBitVec_inj, ← BitVec.shiftLeft_add]
theorem part_word (c : Nat → UInt8) (j k : Nat) (h : 4 * j + 4 ≤ k) : part c k j = word c j := by
  obtain ⟨d, rfl⟩ : ∃ d, k = 4 * j + 4 + d := ⟨k - (4 * j + 4), by omega⟩
  rw [part_stays]
  have e0 : part c (4 * j) j = 0 := part_zero c j _ (Nat.le_refl _)
  have e1 : part c (4 * j + 1) j = (c (4 * j)).toUInt32 := by rw [part, if_pos (by omega), e0]; simp
  have e2 : part c (4 * j + 2) j = (c (4 * j)).toUInt32 <<< 8 ||| (c (4 * j + 1)).toUInt32 := by rw [part, if_pos (by omega), e1]
  have e3 : part c (4 * j + 3) j = (c (4 * j)).toUInt32 <<< 16 ||| (c (4 * j + 1)).toUInt32 <<< 8 ||| (c (4 * j + 2)).toUInt32 := by
    rw [part, if_pos (by omega), e2, shl_or, shl_8_8]
  rw [part, if_pos (by omega), e3, shl_or, shl_or, shl_8_8, shl_16_8]
  rfl

/-- The eight words of a state. -/
structure Eight where
  (a b c d e f g h : UInt32)
def Eight.step (s : Eight) (k w : UInt32) : Eight :=
  let t1 := s.h + sum1 s.e + choose s.e s.f s.g + k + w
  let t2 := sum0 s.a + major s.a s.b s.c
  ⟨t1 + t2, s.a, s.b, s.c, s.d + t1, s.e, s.f, s.g⟩
def Eight.add (s t : Eight) : Eight := ⟨s.a + t.a, s.b + t.b, s.c + t.c, s.d + t.d, s.e + t.e, s.f + t.f, s.g + t.g, s.h + t.h⟩
/-- The state behind the first n rounds of a block. -/
def rounds (K : Nat → UInt32) (c : Nat → UInt8) (s : Eight) : Nat → Eight
  | 0 => s
  | n + 1 => (rounds K c s n).step (K n) (sched c n)
def block (K : Nat → UInt32) (c : Nat → UInt8) (s : Eight) : Eight := s.add (rounds K c s 64)
theorem sched_congr {c c' : Nat → UInt8} (h : ∀ j, j < 64 → c j = c' j) (i : Nat) : sched c i = sched c' i := by
  induction i using Nat.strongRecOn with
  | _ i ih =>
    by_cases hi : i < 16
    · rw [sched_low c i hi, sched_low c' i hi]; unfold word
      rw [h _ (by omega), h _ (by omega), h _ (by omega), h _ (by omega)]
    · rw [sched_high c i (by omega), sched_high c' i (by omega), ih _ (by omega), ih _ (by omega), ih _ (by omega), ih _ (by omega)]
theorem rounds_congr {c c' : Nat → UInt8} (h : ∀ j, j < 64 → c j = c' j) (K : Nat → UInt32) (s : Eight) (n : Nat) : rounds K c s n = rounds K c' s n := by
  induction n with
  | zero => rfl
  | succ n ih => rw [rounds, rounds, ih, sched_congr h]
theorem block_congr {c c' : Nat → UInt8} (h : ∀ j, j < 64 → c j = c' j) (K : Nat → UInt32) (s : Eight) : block K c s = block K c' s := by
  unfold block; rw [rounds_congr h]
/-- The state behind the first n blocks of the bytes c 0, c 1, .. -/
def blocks (K : Nat → UInt32) (c : Nat → UInt8) (s : Eight) : Nat → Eight
  | 0 => s
  | n + 1 => block K (fun k => c (64 * n + k)) (blocks K c s n)

theorem blocks_succ (K : Nat → UInt32) (c : Nat → UInt8) (s : Eight) (n : Nat) : blocks K c s (n + 1) = block K (fun k => c (64 * n + k)) (blocks K c s n) := by rw [blocks]
theorem rounds_succ' (K : Nat → UInt32) (c : Nat → UInt8) (s : Eight) (n : Nat) : rounds K c s (n + 1) = (rounds K c s n).step (K n) (sched c n) := by rw [rounds]
/-- The length behind the padding. -/
def padN (n : Nat) : Nat := 64 * ((n + 72) / 64)
/-- Byte j behind the padding. -/
def padB (l : List UInt8) (j : Nat) : UInt8 :=
  if j < l.length then l.getD j 0 else if j = l.length then 128 else if j < padN l.length - 8 then 0 else (8 * l.length / 2 ^ (8 * (padN l.length - 1 - j))).toUInt8
def Eight.get (s : Eight) : Nat → UInt32
  | 0 => s.a | 1 => s.b | 2 => s.c | 3 => s.d | 4 => s.e | 5 => s.f | 6 => s.g | _ => s.h
/-- Byte k of a state, big end first. -/
def byteAt (s : Eight) (k : Nat) : UInt8 := (s.get (k / 4) >>> UInt32.ofNat (24 - 8 * (k % 4))).toUInt8
def bytesUpto (s : Eight) (n : Nat) : List UInt8 := (List.range n).map (byteAt s)
theorem bytesUpto_length (s : Eight) (n : Nat) : (bytesUpto s n).length = n := by simp [bytesUpto]
theorem bytesUpto_succ (s : Eight) (n : Nat) : bytesUpto s (n + 1) = bytesUpto s n ++ [byteAt s n] := by simp [bytesUpto, List.range_succ]
def sha (K : Nat → UInt32) (H : Eight) (l : List UInt8) : List UInt8 := bytesUpto (blocks K (padB l) H (padN l.length / 64)) 32
theorem sha_length (K : Nat → UInt32) (H : Eight) (l : List UInt8) : (sha K H l).length = 32 := bytesUpto_length _ _
end Go.Proofs.YtcckpkcjekcajaaDoor
