/- The bytes of a state: the program's stateText. -/
import Derived.Test.YtcckpkcjekcajaaDoorDTurn
namespace Go.Proofs.YtcckpkcjekcajaaDoor
open Go.RowKit

def Eight.vals (s : Eight) : Array Value := #[V s.a, V s.b, V s.c, V s.d, V s.e, V s.f, V s.g, V s.h]
theorem Eight.vals_at (s : Eight) (j : Nat) (h : j < 8) : s.vals[j]? = some (V (s.get j)) := by
  match j, h with
  | 0, _ | 1, _ | 2, _ | 3, _ | 4, _ | 5, _ | 6, _ | 7, _ => rfl
  | j + 8, h => omega
theorem take_more (xs : List Value) (k : Nat) (l : List UInt8) (v : Value) (u : UInt8) (h : k < xs.length) (hx : xs.take k = l.map B) (_hl : l.length = k) (hv : v = B u) :
    (xs.set k v).take (k + 1) = (l ++ [u]).map B := by
  subst hv
  rw [List.take_succ_eq_append_getElem (by simpa using h), List.take_set_of_le (Nat.le_refl _), hx]
  simp
theorem w_byte (s : Eight) (k : Nat) : ((s.get (k / 4)).toNat : Int) / 2 ^ (24 - 8 * (k % 4)) % 256 = ((byteAt s k).toNat : Int) := by
  unfold byteAt
  rw [w_shr _ _ (by omega), ← u8_word, IntKind.wrap_u8]

theorem owns_new (W : World) (b g n : Nat) (cs : Array Value) (e : TypeId) (hg : W.heap.size = g) (hb : b ≤ g) (hn : cs.size = n) (h0 : n ≤ maxLen) : (W.alloc (.cells cs e)).ownsRow b e 1 (.slice (some ⟨g, 0, none⟩) n n) n cs.toList := by
  subst hg; exact World.ownsRow_lit W cs n hb h0 (by simpa using hn)

def TextRel (w : World) (s : Eight) (i : Value) (wr : World) : Prop :=
  ∃ (k : Nat) (xs : List Value), k ≤ 32 ∧ i = .int .i64 k ∧ wr.ownsRow (w.heap.size + 1) 134 1 (.slice (some ⟨w.heap.size + 1, 0, none⟩) 32 32) 32 xs ∧ xs.take k = (bytesUpto s k).map B ∧ Below (w.heap.size + 1) (w.alloc (.cells s.vals 100)) wr

set_option maxHeartbeats 1000000 in
theorem stateText_any (s : Eight) (w : World) :
    Calls Tryd.prog 74 #[.agg s.vals] w fun e w' => e = .returned (.string ⟨(bytesUpto s 32).toArray⟩) ∧ Below w.heap.size w w' := by
  obtain ⟨vs, hvs⟩ : ∃ vs, vs = s.vals := ⟨_, rfl⟩
  obtain ⟨str, hstr⟩ : ∃ str : ByteArray, str = ⟨(bytesUpto s 32).toArray⟩ := ⟨_, rfl⟩
  rw [← hstr]
  have HSTR := Lib.hid hstr
  clear hstr
  unfold Eight.vals V
  go_enter Tryd.func74, Tryd.ntmps74
  go_wp2_with fail
  go_loopw [5] (fun i wr => TextRel w s i wr) (fun i _ => 32 - (intOf i).toNat)
  case atStart => 
    refine ⟨0, _, by omega, rfl, owns_new (w.alloc (.cells s.vals 100)) _ _ 32 _ _ (by simp) (Nat.le_refl _) rfl (by decide), rfl, ?_⟩
    exact (Below.refl _ _).alloc (by simp) _
  case round =>
    obtain ⟨k, xs, hk, rfl, hown, hxs, hbel⟩ := hrel
    by_cases hlt : k < 32
    · have hc := hown.cellAt k (by omega)
      have hf := hown.frozenAt k
      have hxl : xs.length = 32 := hown.1
      rw [List.getElem?_eq_getElem (by omega)] at hc
      generalize xs[k] = v0 at hc
      have hcs : wr.cell? ⟨w.heap.size, k / 4, none⟩ = some (.int .u32 (s.get (k / 4)).toNat) := by
        rw [hbel.cell (p := ⟨w.heap.size, k / 4, none⟩) (by simp), World.cell?_alloc_new]
        exact s.vals_at _ (by omega)
      have HXS := Lib.hid hxs
      have HO := Lib.hid hown
      have HBL := Lib.hid hbel
      have HXL := Lib.hid hxl
      clear hxs hxl hown hbel
      go_wp2
      go_roundw
      case rel => exact ⟨k + 1, _, by omega, by go_num, (HO.out.stored k _).1, by rw [bytesUpto_succ]; exact take_more xs k _ _ _ (by rw [HXL.out]; omega) HXS.out (bytesUpto_length _ _) (val_int (w_byte s k)), HBL.out.setCell (p := ⟨w.heap.size + 1, k, none⟩) (Nat.le_refl _) _⟩
      case measure => simp [intOf]; omega
    · obtain rfl : k = 32 := by omega
      have conv := conv_row (c := 32) hown (bytesUpto s 32) 32 (by simp [bytesUpto]) (by omega) hxs
      rw [← HSTR.out] at conv
      clear hown hxs
      go_wp2
      go_ret
      exact ⟨rfl, ((Below.refl _ _).alloc (Nat.le_refl _) _).trans (hbel.mono (by simp))⟩
end Go.Proofs.YtcckpkcjekcajaaDoor
