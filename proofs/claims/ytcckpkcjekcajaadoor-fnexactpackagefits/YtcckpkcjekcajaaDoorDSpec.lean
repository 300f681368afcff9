/- The model's digest: tables and one block. -/
import Derived.Test.YtcckpkcjekcajaaDoorDDig
import Derived.Deep.RegionHeld3
namespace Go.Proofs.YtcckpkcjekcajaaDoor
open Go.RowKit

theorem Tryd.info2 : (Tryd.prog.info? 2).map (fun i => (i.zero, i.size, i.bytes)) = some (some (.int .i64 0), 1, 8) := by kernel_rfl
theorem Tryd.info31 : (Tryd.prog.info? 99).map (fun i => (i.zero, i.size, i.bytes)) = some (some (.int .u32 0), 1, 4) := by kernel_rfl
def I (x : UInt32) : Value := .int .i64 x.toNat
def list8 (s : Eight) : List Value := [I s.a, I s.b, I s.c, I s.d, I s.e, I s.f, I s.g, I s.h]
theorem list8_at (s : Eight) (j : Nat) (h : j < 8) : (list8 s)[j]? = some (.int .i64 (s.get j).toNat) := by
  match j, h with
  | 0, _ | 1, _ | 2, _ | 3, _ | 4, _ | 5, _ | 6, _ | 7, _ => rfl
  | j + 8, h => omega

def StartPost (w : World) (e : Ending) (w' : World) : Prop := ∃ v, e = .returned v ∧ w'.ownsRow w.heap.size 2 1 v 8 (list8 start) ∧ Below w.heap.size w w'
set_option maxHeartbeats 400000 in
theorem specStart (w : World) : Calls Tryd.prog 90 #[] w (StartPost w) := by
  go_enter Tryd.func90, Tryd.ntmps90
  go_wp2_with fail
  go_ret
  exact ⟨_, rfl, World.ownsRow_lit w _ 8 (Nat.le_refl _) (by decide) rfl, (Below.refl _ _).alloc (Nat.le_refl _) _⟩

def KeysPost (w : World) (e : Ending) (w' : World) : Prop := e = .returned (.slice (some ⟨w.heap.size, 0, none⟩) 64 64) ∧ Words w' w.heap.size 99 64 key ∧ Below w.heap.size w w'
set_option maxHeartbeats 400000 in
set_option maxRecDepth 100000 in
theorem specKeys (w : World) : Calls Tryd.prog 97 #[] w (KeysPost w) := by
  go_enter Tryd.func97, Tryd.ntmps97
  go_wp2_with fail
  go_ret
  exact ⟨rfl, words_new w _ 64 _ key rfl rfl, (Below.refl _ _).alloc (Nat.le_refl _) _⟩

theorem turn_still (x : UInt32) (k : Nat) (ki : Int) (w : World) (hk : ki = k) (h0 : 1 ≤ k) (h1 : k ≤ 31) :
    Calls Tryd.prog 96 #[.int .u32 x.toNat, .int .u64 ki] w fun e w' => e = .returned (.int .u32 (rotr x k).toNat) ∧ w' = w := (turn_at x k ki w hk h0 h1).mono fun _ _ ⟨a, b⟩ => ⟨a, b.symm⟩
theorem w_word (b : ByteArray) (k : Nat) (h : 4 * k + 3 < b.size) :
    bits BinOp.or IntKind.u32 (bits BinOp.or IntKind.u32 (bits BinOp.or IntKind.u32 (((b[4 * k]'(by omega)).toNat : Int) * 16777216 % 4294967296) (((b[4 * k + 1]'(by omega)).toNat : Int) * 65536 % 4294967296)) (((b[4 * k + 2]'(by omega)).toNat : Int) * 256 % 4294967296)) ((b[4 * k + 3]'h).toNat : Int) = ((word (fun j => b.data.toList.getD j 0) k).toNat : Int) := by
  have e (j : Nat) (hj : j < b.size) : b.data.toList.getD j 0 = b[j] := by
    have h' : j < b.data.toList.length := by rw [← Lib.size_eq]; exact hj
    rw [List.getD_eq_getElem?_getD, List.getElem?_eq_getElem h']; rfl
  unfold word
  simp only []
  rw [e _ (by omega), e _ (by omega), e _ (by omega), e _ h]
  have s (x : UInt8) (n : Nat) (hn : n < 32) : (x.toNat : Int) * 2 ^ n % 4294967296 = ((x.toUInt32 <<< UInt32.ofNat n).toNat : Int) := by
    rw [← w_shl x.toUInt32 n hn]; simp
  have s24 := s (b[4 * k]'(by omega)) 24 (by decide)
  have s16 := s (b[4 * k + 1]'(by omega)) 16 (by decide)
  have s8 := s (b[4 * k + 2]'(by omega)) 8 (by decide)
  rw [show (2 : Int) ^ 24 = 16777216 by decide] at s24
  rw [show (2 : Int) ^ 16 = 65536 by decide] at s16
  rw [show (2 : Int) ^ 8 = 256 by decide] at s8
  rw [s24, s16, s8, u32_byte (b[4 * k + 3]'h), u32_or, u32_or, u32_or]
  rfl

end Go.Proofs.YtcckpkcjekcajaaDoor
