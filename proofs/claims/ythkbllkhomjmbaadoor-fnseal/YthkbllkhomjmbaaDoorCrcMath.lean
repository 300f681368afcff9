/- Plain facts on CRC-32: it goes on from string to string, and a string in which one byte is changed has another CRC. -/
import Derived.Test.YthkbllkhomjmbaaDoorSeal
namespace Go.Proofs.YthkbllkhomjmbaaDoor
open Go.RowKit

theorem xor32 (a b : Nat) (ha : a < 4294967296) (hb : b < 4294967296) : bits BinOp.xor IntKind.u32 (a : Int) (b : Int) = ((a ^^^ b : Nat) : Int) := by
  have ha' : a % 2 ^ 32 = a := Nat.mod_eq_of_lt ha
  have hb' : b % 2 ^ 32 = b := Nat.mod_eq_of_lt hb
  have hx : a ^^^ b < 4294967296 := Nat.xor_lt_two_pow (n := 32) ha hb
  show IntKind.u32.wrap ((BitVec.ofInt 32 (a : Int) ^^^ BitVec.ofInt 32 (b : Int)).toNat : Int) = _
  rw [BitVec.toNat_xor, BitVec.ofInt_natCast, BitVec.ofInt_natCast, BitVec.toNat_ofNat, BitVec.toNat_ofNat, ha', hb', IntKind.wrap_u32]
  omega
theorem and1_32 (a : Nat) (ha : a < 4294967296) : bits BinOp.and IntKind.u32 (a : Int) 1 = ((a % 2 : Nat) : Int) := by
  have := bits_mask .u32 32 (by decide) (fun n h0 h1 => by rw [IntKind.wrap_u32]; omega) 1 (by decide) (a : Int) (by omega) (by omega)
  simpa using this

/-- One bit, one byte, a list of bytes, on plain numbers. -/
def bitN (n : Nat) : Nat := if n % 2 = 1 then (n / 2) ^^^ 3988292384 else n / 2
def bitsN : Nat → Nat → Nat
  | 0, n => n
  | k + 1, n => bitN (bitsN k n)
def byteN (r b : Nat) : Nat := bitsN 8 (r ^^^ b)
def regN (r : Nat) (l : List Nat) : Nat := l.foldl byteN r

theorem bitN_lt (n : Nat) (h : n < 4294967296) : bitN n < 4294967296 := by
  unfold bitN; split
  · exact Nat.xor_lt_two_pow (n := 32) (by omega) (by omega)
  · omega
theorem bitsN_lt (n : Nat) (h : n < 4294967296) : ∀ k, bitsN k n < 4294967296
  | 0 => h
  | k + 1 => bitN_lt _ (bitsN_lt n h k)
theorem byteN_lt (r b : Nat) (hr : r < 4294967296) (hb : b < 256) : byteN r b < 4294967296 :=
  bitsN_lt _ (Nat.xor_lt_two_pow (n := 32) hr (by omega)) 8
theorem bitF_nat (n : Nat) (h : n < 4294967296) : bitF (n : Int) = (bitN n : Int) := by
  unfold bitF bitN
  rw [and1_32 n h]
  have e : (n : Int) / 2 = ((n / 2 : Nat) : Int) := by omega
  by_cases hp : n % 2 = 1
  · rw [if_pos (by simp [hp]), if_pos hp, e]
    exact xor32 (n / 2) 3988292384 (by omega) (by omega)
  · rw [if_neg (by simp; omega), if_neg hp, e]
theorem bitsF_nat (n : Nat) (h : n < 4294967296) : ∀ k, bitsF k (n : Int) = (bitsN k n : Int)
  | 0 => rfl
  | k + 1 => by rw [bitsF, bitsN, bitsF_nat n h k, bitF_nat _ (bitsN_lt n h k)]
theorem byteF_nat (r b : Nat) (hr : r < 4294967296) (hb : b < 256) : byteF (r : Int) (b : Int) = (byteN r b : Int) := by
  unfold byteF byteN
  have e : (b : Int) % 4294967296 = (b : Int) := by omega
  rw [e, xor32 r b hr (by omega)]
  exact bitsF_nat _ (Nat.xor_lt_two_pow (n := 32) hr (by omega)) 8

theorem high_bit (n : Nat) (h : n < 2147483648) : 2147483648 ≤ n ^^^ 3988292384 := by
  have e : (n ^^^ 3988292384).testBit 31 = true := by
    rw [Nat.testBit_xor, Nat.testBit_lt_two_pow (i := 31) (show n < 2 ^ 31 from h)]
    decide
  exact Nat.ge_two_pow_of_testBit e
theorem xor_cancel (a b c : Nat) (h : a ^^^ c = b ^^^ c) : a = b := by
  have := congrArg (· ^^^ c) h
  simpa [Nat.xor_assoc] using this
theorem bitN_inj (a b : Nat) (ha : a < 4294967296) (hb : b < 4294967296) (h : bitN a = bitN b) : a = b := by
  unfold bitN at h
  have ea := high_bit (a / 2) (by omega)
  have eb := high_bit (b / 2) (by omega)
  by_cases h1 : a % 2 = 1 <;> by_cases h2 : b % 2 = 1
  · rw [if_pos h1, if_pos h2] at h
    have := xor_cancel _ _ _ h
    omega
  · rw [if_pos h1, if_neg h2] at h; omega
  · rw [if_neg h1, if_pos h2] at h; omega
  · rw [if_neg h1, if_neg h2] at h; omega
theorem bitsN_inj (a b : Nat) (ha : a < 4294967296) (hb : b < 4294967296) : ∀ k, bitsN k a = bitsN k b → a = b
  | 0, h => h
  | k + 1, h => bitsN_inj a b ha hb k (bitN_inj _ _ (bitsN_lt a ha k) (bitsN_lt b hb k) h)
theorem byteN_inj1 (r r' b : Nat) (hr : r < 4294967296) (hr' : r' < 4294967296) (hb : b < 256) (h : byteN r b = byteN r' b) : r = r' :=
  xor_cancel _ _ b (bitsN_inj _ _ (Nat.xor_lt_two_pow (n := 32) hr (by omega)) (Nat.xor_lt_two_pow (n := 32) hr' (by omega)) 8 h)
theorem byteN_inj2 (r b b' : Nat) (hr : r < 4294967296) (hb : b < 256) (hb' : b' < 256) (h : byteN r b = byteN r b') : b = b' := by
  have e := bitsN_inj _ _ (Nat.xor_lt_two_pow (n := 32) hr (show b < 2 ^ 32 by omega)) (Nat.xor_lt_two_pow (n := 32) hr (show b' < 2 ^ 32 by omega)) 8 h
  rw [Nat.xor_comm r b, Nat.xor_comm r b'] at e
  exact xor_cancel _ _ _ e
theorem regN_lt : ∀ (l : List Nat) (r : Nat), r < 4294967296 → (∀ b ∈ l, b < 256) → regN r l < 4294967296
  | [], r, h, _ => h
  | b :: l, r, h, hl => regN_lt l _ (byteN_lt r b h (hl b (by simp))) (fun x hx => hl x (by simp [hx]))
theorem regN_inj : ∀ (l : List Nat) (r r' : Nat), r < 4294967296 → r' < 4294967296 → (∀ b ∈ l, b < 256) → regN r l = regN r' l → r = r'
  | [], r, r', _, _, _, h => h
  | b :: l, r, r', h1, h2, hl, h => by
    have hb := hl b (by simp)
    exact byteN_inj1 r r' b h1 h2 hb (regN_inj l _ _ (byteN_lt r b h1 hb) (byteN_lt r' b h2 hb) (fun x hx => hl x (by simp [hx])) h)
theorem regN_append (r : Nat) (l m : List Nat) : regN r (l ++ m) = regN (regN r l) m := List.foldl_append ..
/-- One byte changed: another register. -/
theorem regN_set (r : Nat) (l : List Nat) (i x : Nat) (hr : r < 4294967296) (hl : ∀ b ∈ l, b < 256) (hx : x < 256) (hi : i < l.length) (hne : x ≠ l[i]) : regN r (l.set i x) ≠ regN r l := by
  intro h
  have e1 : l.set i x = l.take i ++ x :: l.drop (i + 1) := by rw [List.set_eq_take_append_cons_drop, if_pos hi]
  have e2 : l = l.take i ++ l[i] :: l.drop (i + 1) := by rw [List.getElem_cons_drop, List.take_append_drop]
  have hp : ∀ b ∈ l.take i, b < 256 := fun b hb => hl b (List.mem_of_mem_take hb)
  have hq : ∀ b ∈ l.drop (i + 1), b < 256 := fun b hb => hl b (List.mem_of_mem_drop hb)
  have hli : l[i] < 256 := hl _ (List.getElem_mem hi)
  have hr1 := regN_lt (l.take i) r hr hp
  rw [e1, regN_append] at h
  have h2 : regN (regN r (l.take i)) (x :: l.drop (i + 1)) = regN (regN r (l.take i)) (l[i] :: l.drop (i + 1)) := by
    rw [h, ← regN_append, ← e2]
  have h3 := regN_inj (l.drop (i + 1)) (byteN (regN r (l.take i)) x) (byteN (regN r (l.take i)) l[i]) (byteN_lt _ _ hr1 hx) (byteN_lt _ _ hr1 hli) hq h2
  exact hne (byteN_inj2 _ _ _ hr1 hx hli h3)

/-- The bytes of a string as numbers. -/
def nums (s : ByteArray) : List Nat := s.data.toList.map UInt8.toNat
theorem nums_lt (s : ByteArray) : ∀ b ∈ nums s, b < 256 := by
  intro b hb; simp [nums] at hb; obtain ⟨u, _, rfl⟩ := hb; exact UInt8.toNat_lt u
theorem nums_length (s : ByteArray) : (nums s).length = s.size := by simp [nums]
theorem regF_nat (s : ByteArray) (r : Nat) (hr : r < 4294967296) : ∀ k, k ≤ s.size → regF s (r : Int) k = (regN r ((nums s).take k) : Int)
  | 0, _ => rfl
  | k + 1, h => by
    have hk : k < (nums s).length := by rw [nums_length]; omega
    have hb : bt s k = ((nums s)[k] : Int) := by
      rw [← bt_at s k (by omega)]; simp [nums]; rfl
    have hlt := regN_lt ((nums s).take k) r hr (fun b hb => nums_lt s b (List.mem_of_mem_take hb))
    rw [regF, regF_nat s r hr k (by omega), hb, byteF_nat _ _ hlt (nums_lt s _ (List.getElem_mem hk)), List.take_succ_eq_append_getElem hk, regN_append]
    rfl
theorem regF_all (s : ByteArray) (r : Nat) (hr : r < 4294967296) : regF s (r : Int) s.size = (regN r (nums s) : Int) := by
  rw [regF_nat s r hr s.size (Nat.le_refl _), List.take_of_length_le (by rw [nums_length]; exact Nat.le_refl _)]
/-- The CRC on plain numbers. -/
def crcN (c : Nat) (l : List Nat) : Nat := regN (c ^^^ 4294967295) l ^^^ 4294967295
theorem crcN_lt (c : Nat) (l : List Nat) (hc : c < 4294967296) (hl : ∀ b ∈ l, b < 256) : crcN c l < 4294967296 :=
  Nat.xor_lt_two_pow (n := 32) (regN_lt l _ (Nat.xor_lt_two_pow (n := 32) hc (by omega)) hl) (by omega)
theorem crcF_nat (c : Nat) (s : ByteArray) (hc : c < 4294967296) : crcF (c : Int) s = (crcN c (nums s) : Int) := by
  have hx : c ^^^ 4294967295 < 4294967296 := Nat.xor_lt_two_pow (n := 32) hc (by omega)
  have hl := crcN_lt c (nums s) hc (nums_lt s)
  unfold crcF
  have e1 : bits BinOp.xor IntKind.u32 (c : Int) 4294967295 = ((c ^^^ 4294967295 : Nat) : Int) := xor32 c 4294967295 hc (by omega)
  rw [e1, regF_all s _ hx]
  have e2 : bits BinOp.xor IntKind.u32 (regN (c ^^^ 4294967295) (nums s) : Int) 4294967295 = (crcN c (nums s) : Int) := xor32 _ 4294967295 (regN_lt _ _ hx (nums_lt s)) (by omega)
  rw [e2, IntWalk.wrap64_in _ (by omega)]
theorem nums_append (s t : ByteArray) : nums (s ++ t) = nums s ++ nums t := by simp [nums]
/-- A CRC goes on over concatenated strings. -/
theorem crcF_more (s t : ByteArray) : crcF (crcF 0 s) t = crcF 0 (s ++ t) := by
  have h0 : crcF 0 s = (crcN 0 (nums s) : Int) := crcF_nat 0 s (by omega)
  have h1 : crcF 0 (s ++ t) = (crcN 0 (nums (s ++ t)) : Int) := crcF_nat 0 (s ++ t) (by omega)
  rw [h0, h1, crcF_nat _ t (crcN_lt 0 _ (by omega) (nums_lt s)), nums_append]
  unfold crcN
  rw [regN_append, Nat.xor_assoc, Nat.xor_self, Nat.xor_zero]
theorem crcN_set (l : List Nat) (i x : Nat) (hl : ∀ b ∈ l, b < 256) (hx : x < 256) (hi : i < l.length) (hne : x ≠ l[i]) : crcN 0 (l.set i x) ≠ crcN 0 l := by
  intro h
  exact regN_set _ l i x (by decide) hl hx hi hne (xor_cancel _ _ _ h)
end Go.Proofs.YthkbllkhomjmbaaDoor
