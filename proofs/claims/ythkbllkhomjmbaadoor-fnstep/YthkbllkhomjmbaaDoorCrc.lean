/- CRC-32: the registers of the model and of the program agree. -/
import Derived.Test.YthkbllkhomjmbaaDoorBase
namespace Go.Proofs.YthkbllkhomjmbaaDoor
open Go.RowKit

def bitF (n : Int) : Int := if (bits BinOp.and IntKind.u32 n 1 == 1) = true then bits BinOp.xor IntKind.u32 (n / 2) 3988292384 else n / 2
def bitsF : Nat → Int → Int
  | 0, n => n
  | k + 1, n => bitF (bitsF k n)
def byteF (r b : Int) : Int := bitsF 8 (bits BinOp.xor IntKind.u32 r (b % 4294967296))
def regF (s : ByteArray) (r : Int) : Nat → Int
  | 0 => r
  | k + 1 => byteF (regF s r k) (bt s k)
theorem bitsF_yes (k : Nat) (n : Int) (h : (bits BinOp.and IntKind.u32 (bitsF k n) 1 == 1) = true) : bits BinOp.xor IntKind.u32 (bitsF k n / 2) 3988292384 = bitsF (k + 1) n := by
  simp only [bitsF, bitF]; rw [if_pos h]
theorem bitsF_no (k : Nat) (n : Int) (h : (bits BinOp.and IntKind.u32 (bitsF k n) 1 == 1) = false) : bitsF k n / 2 = bitsF (k + 1) n := by
  simp only [bitsF, bitF]; rw [if_neg (by rw [h]; simp)]
set_option maxHeartbeats 400000 in
theorem shifted_any (r b : Int) (w : World) :
    Calls Tryd.prog 74 #[.int .u32 r, .int .u8 b] w fun e w' => e = .returned (.int .u32 (byteF r b)) ∧ w = w' := by
  go_enter Tryd.func74, Tryd.ntmps74
  go_wp2
  go_loop [0, 10] (fun x i => ∃ k : Nat, k ≤ 8 ∧ i = .int .i64 k ∧ x = .int .u32 (bitsF k (bits BinOp.xor IntKind.u32 r (b % 4294967296)))) (fun _ i => 8 - (intOf i).toNat)
  case atStart => exact ⟨0, by omega, rfl, rfl⟩
  case round =>
    obtain ⟨k, hk, rfl, rfl⟩ := hrel
    by_cases hlt : k < 8
    · cases h : (bits BinOp.and IntKind.u32 (bitsF k (bits BinOp.xor IntKind.u32 r (b % 4294967296))) 1 == 1)
      · have H := Lib.hid (bitsF_no _ _ h)
        go_wp2
        go_round
        case rel => exact ⟨k + 1, by omega, by go_num, val_int H.out⟩
        case measure => simp [intOf]; omega
      · have H := Lib.hid (bitsF_yes _ _ h)
        go_wp2
        go_round
        case rel => exact ⟨k + 1, by omega, by go_num, val_int H.out⟩
        case measure => simp [intOf]; omega
    · obtain rfl : k = 8 := by omega
      go_wp2
      go_ret
      exact ⟨rfl, rfl⟩

theorem xor_comm32 (a b : Int) : bits BinOp.xor IntKind.u32 a b = bits BinOp.xor IntKind.u32 b a := by
  simp only [bits, BitVec.xor_comm]
theorem max32 (a : Int) : bits BinOp.xor IntKind.u32 IntKind.u32.max a = bits BinOp.xor IntKind.u32 a 4294967295 := by
  rw [xor_comm32, show IntKind.u32.max = 4294967295 by decide]
def crcF (c : Int) (s : ByteArray) : Int := wrap64 (bits BinOp.xor IntKind.u32 (regF s (bits BinOp.xor IntKind.u32 c 4294967295) s.size) 4294967295)
theorem regF_succ (s : ByteArray) (r : Int) (k : Nat) (h : k < s.size) : regF s r (k + 1) = bitsF 8 (bits BinOp.xor IntKind.u32 (regF s r k) ((s[k].toNat : Int) % 4294967296)) := by
  rw [bt_at s k h]; rfl
theorem regF_succ' (s : ByteArray) (r : Int) (k : Nat) (h : k < s.size) : byteF (regF s r k) (s[k].toNat : Int) = regF s r (k + 1) := by
  rw [bt_at s k h]; rfl

set_option maxHeartbeats 400000 in
theorem specCrc_any (c : Int) (s : ByteArray) (w : World) (hs : s.size ≤ maxLen) (h0 : 0 ≤ c) (h1 : c ≤ 4294967295) :
    Calls Tryd.prog 69 #[.int .i64 c, .string s] w fun e w' => e = .returned (.int .i64 (crcF c s)) ∧ w = w' := by
  unfold maxLen at hs
  go_enter Tryd.func69, Tryd.ntmps69
  go_wp2
  go_loop [5, 6] (fun x i => ∃ k : Nat, k ≤ s.size ∧ i = .int .i64 k ∧ x = .int .u32 (regF s (bits BinOp.xor IntKind.u32 c 4294967295) k)) (fun _ i => s.size - (intOf i).toNat)
  case atStart => exact ⟨0, by omega, rfl, rfl⟩
  case round =>
    obtain ⟨k, hk, rfl, rfl⟩ := hrel
    by_cases hlt : k < s.size
    · have HR := Lib.hid (regF_succ s (bits BinOp.xor IntKind.u32 c 4294967295) k hlt)
      go_wp2
      go_loop [5, 7] (fun x i => ∃ j : Nat, j ≤ 8 ∧ i = .int .i64 j ∧ x = .int .u32 (bitsF j (bits BinOp.xor IntKind.u32 (regF s (bits BinOp.xor IntKind.u32 c 4294967295) k) ((s[k].toNat : Int) % 4294967296)))) (fun _ i => 8 - (intOf i).toNat)
      case atStart => exact ⟨0, by omega, rfl, rfl⟩
      case round =>
        obtain ⟨j, hj, rfl, rfl⟩ := hrel
        by_cases hjl : j < 8
        · cases h : (bits BinOp.and IntKind.u32 (bitsF j (bits BinOp.xor IntKind.u32 (regF s (bits BinOp.xor IntKind.u32 c 4294967295) k) ((s[k].toNat : Int) % 4294967296))) 1 == 1)
          · have H := Lib.hid (bitsF_no _ _ h)
            go_wp2
            go_round
            case rel => exact ⟨j + 1, by omega, by go_num, val_int H.out⟩
            case measure => simp [intOf]; omega
          · have H := Lib.hid (bitsF_yes _ _ h)
            go_wp2
            go_round
            case rel => exact ⟨j + 1, by omega, by go_num, val_int H.out⟩
            case measure => simp [intOf]; omega
        · obtain rfl : j = 8 := by omega
          go_wp2
          go_round
          case rel => exact ⟨k + 1, by omega, by go_num, val_int HR.out.symm⟩
          case measure => simp [intOf]; omega
    · obtain rfl : k = s.size := by omega
      go_wp2
      go_ret
      exact ⟨rfl, rfl⟩

set_option maxHeartbeats 400000 in
theorem implMore_any (c : Int) (s : ByteArray) (w : World) (hs : s.size ≤ 8000) (h0 : 0 ≤ c) (h1 : c ≤ 4294967295) :
    Calls Tryd.prog 25 #[.int .i64 c, .string s] w fun e w' => e = .returned (.int .i64 (crcF c s)) ∧ w = w' := by
  have d1 : decide (8000 < s.size) = false := decide_eq_false (by omega)
  have d2 : decide (c < 0) = false := decide_eq_false (by omega)
  have d3 : decide (4294967295 < c) = false := decide_eq_false (by omega)
  go_enter Tryd.func25, Tryd.ntmps25
  go_wp2
  go_loop [5, 23] (fun x i => ∃ k : Nat, k ≤ s.size ∧ i = .int .i64 k ∧ x = .int .u32 (regF s (bits BinOp.xor IntKind.u32 c 4294967295) k)) (fun _ i => s.size - (intOf i).toNat)
  case atStart => exact ⟨0, by omega, rfl, val_int (max32 c)⟩
  case round =>
    obtain ⟨k, hk, rfl, rfl⟩ := hrel
    by_cases hlt : k < s.size
    · have HR := Lib.hid (regF_succ' s (bits BinOp.xor IntKind.u32 c 4294967295) k hlt)
      go_wp2_with (go_at_call 74; refine (shifted_any _ _ _).mono ?_; rintro e w' ⟨rfl, rfl⟩)
      go_round
      case rel => exact ⟨k + 1, by omega, by go_num, val_int HR.out⟩
      case measure => simp [intOf]; omega
    · obtain rfl : k = s.size := by omega
      go_wp2
      go_ret
      exact ⟨ret_int (by rw [max32]; rfl), rfl⟩

set_option maxHeartbeats 400000 in
theorem implMore_zero (c : Int) (s : ByteArray) (w : World) (hs : s.size ≤ maxLen) (h : 8000 < s.size ∨ c < 0 ∨ 4294967295 < c) :
    Calls Tryd.prog 25 #[.int .i64 c, .string s] w fun e w' => e = .returned (.int .i64 0) ∧ w = w' := by
  unfold maxLen at hs
  by_cases h1 : 8000 < s.size
  · go_enter Tryd.func25, Tryd.ntmps25
    go_wp2
    go_ret
    exact ⟨rfl, rfl⟩
  · by_cases h2 : c < 0
    · go_enter Tryd.func25, Tryd.ntmps25
      go_wp2
      go_ret
      exact ⟨rfl, rfl⟩
    · have h3 : 4294967295 < c := by omega
      go_enter Tryd.func25, Tryd.ntmps25
      go_wp2
      go_ret
      exact ⟨rfl, rfl⟩

set_option maxHeartbeats 400000 in
theorem specMore_any (c : Int) (s : ByteArray) (w : World) (hs : s.size ≤ 8000) (h0 : 0 ≤ c) (h1 : c ≤ 4294967295) :
    Calls Tryd.prog 26 #[.int .i64 c, .string s] w fun e w' => e = .returned (.int .i64 (crcF c s)) ∧ w = w' := by
  have d1 : decide (8000 < s.size) = false := decide_eq_false (by omega)
  have d2 : decide (c < 0) = false := decide_eq_false (by omega)
  have d3 : decide (4294967295 < c) = false := decide_eq_false (by omega)
  have hm : s.size ≤ maxLen := by unfold maxLen; omega
  go_enter Tryd.func26, Tryd.ntmps26
  go_wp2_with fail
  refine (specCrc_any c s _ hm h0 h1).mono ?_
  rintro e w' ⟨rfl, rfl⟩
  go_wp2_with fail
  go_ret
  exact ⟨rfl, rfl⟩

set_option maxHeartbeats 400000 in
theorem specMore_zero (c : Int) (s : ByteArray) (w : World) (hs : s.size ≤ maxLen) (h : 8000 < s.size ∨ c < 0 ∨ 4294967295 < c) :
    Calls Tryd.prog 26 #[.int .i64 c, .string s] w fun e w' => e = .returned (.int .i64 0) ∧ w = w' := by
  unfold maxLen at hs
  by_cases h1 : 8000 < s.size
  · go_enter Tryd.func26, Tryd.ntmps26
    go_wp2
    go_ret
    exact ⟨rfl, rfl⟩
  · by_cases h2 : c < 0
    · go_enter Tryd.func26, Tryd.ntmps26
      go_wp2
      go_ret
      exact ⟨rfl, rfl⟩
    · have h3 : 4294967295 < c := by omega
      go_enter Tryd.func26, Tryd.ntmps26
      go_wp2
      go_ret
      exact ⟨rfl, rfl⟩

set_option maxHeartbeats 400000 in
theorem specCrc1_any (s : ByteArray) (w : World) (hs : s.size ≤ 8000) :
    Calls Tryd.prog 73 #[.string s] w fun e w' => e = .returned (.int .i64 (crcF 0 s)) ∧ w = w' := by
  have d1 : decide (8000 < s.size) = false := decide_eq_false (by omega)
  have hm : s.size ≤ maxLen := by unfold maxLen; omega
  go_enter Tryd.func73, Tryd.ntmps73
  go_wp2_with fail
  refine (specCrc_any 0 s _ hm (by omega) (by omega)).mono ?_
  rintro e w' ⟨rfl, rfl⟩
  go_wp2_with fail
  go_ret
  exact ⟨rfl, rfl⟩

set_option maxHeartbeats 400000 in
theorem specCrc1_zero (s : ByteArray) (w : World) (hs : s.size ≤ maxLen) (h : 8000 < s.size) :
    Calls Tryd.prog 73 #[.string s] w fun e w' => e = .returned (.int .i64 0) ∧ w = w' := by
  unfold maxLen at hs
  go_enter Tryd.func73, Tryd.ntmps73
  go_wp2
  go_ret
  exact ⟨rfl, rfl⟩

set_option maxHeartbeats 400000 in
theorem implCrc1_any (s : ByteArray) (w : World) (hs : s.size ≤ 8000) :
    Calls Tryd.prog 27 #[.string s] w fun e w' => e = .returned (.int .i64 (crcF 0 s)) ∧ w = w' := by
  go_enter Tryd.func27, Tryd.ntmps27
  go_wp2_with fail
  refine (implMore_any 0 s _ hs (by omega) (by omega)).mono ?_
  rintro e w' ⟨rfl, rfl⟩
  go_wp2_with fail
  go_ret
  exact ⟨rfl, rfl⟩

set_option maxHeartbeats 400000 in
theorem implCrc1_zero (s : ByteArray) (w : World) (hs : s.size ≤ maxLen) (h : 8000 < s.size) :
    Calls Tryd.prog 27 #[.string s] w fun e w' => e = .returned (.int .i64 0) ∧ w = w' := by
  go_enter Tryd.func27, Tryd.ntmps27
  go_wp2_with fail
  refine (implMore_zero 0 s _ hs (.inl h)).mono ?_
  rintro e w' ⟨rfl, rfl⟩
  go_wp2_with fail
  go_ret
  exact ⟨rfl, rfl⟩

end Go.Proofs.YthkbllkhomjmbaaDoor
