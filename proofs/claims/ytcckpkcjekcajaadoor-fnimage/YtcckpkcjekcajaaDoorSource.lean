/- The source of draws over a slice of bytes that came in: it lies in one new block. -/
import Derived.Test.YtcckpkcjekcajaaDoorDraws
namespace Go.Proofs.YtcckpkcjekcajaaDoor
open Go.RowKit

theorem Bytes.row {w w' : World} {a : Option Addr} {len b : Nat} (h : Bytes w a len) (hk : Below w.heap.size w w') (hb : w.heap.size ≤ b) : Row w' a len b := fun h0 => by
  obtain ⟨x, e, hs, hl, hc⟩ := (h h0)
  exact ⟨x, e, hs, by omega, Nat.lt_of_lt_of_le hl hk.size, fun i hi => by
    obtain ⟨z, hz, hz'⟩ := hc i hi
    exact ⟨z, hz, by rw [hk.cell (p := ⟨x.block, x.off + i, none⟩) hl]; exact hz'⟩⟩

def SourceRel (a : Option Addr) (len cap : Nat) (w : World) (i : Value) (wr : World) : Prop :=
  ∃ (k : Nat) (mix : Int), k ≤ len ∧ i = .int .i64 (k : Int) ∧ wr.heap[w.heap.size]? = some (.cells #[.slice a len cap, .int .i64 0, .int .u64 mix, .int .i64 0] 89 (0, 0)) ∧ Below w.heap.size w wr
/-- What making a source gives. -/
def Made (a : Option Addr) (len cap : Nat) (w : World) (e : Ending) (w' : World) : Prop :=
  e = .returned (.pointer (some ⟨w.heap.size, 0, none⟩)) ∧ Src w' w.heap.size a len cap ∧ Below w.heap.size w w'

set_option maxHeartbeats 1000000 in
set_option maxRecDepth 100000 in
theorem source_any (a : Option Addr) (len cap : Nat) (w : World) (hB : Bytes w a len) (hl : len ≤ 1048576) :
    Calls Tryd.prog 28 #[.slice a len cap] w (Made a len cap w) := by
  have HB := Lib.hid hB
  clear hB
  go_enter Tryd.func28, Tryd.ntmps28
  go_wp2_with fail
  go_loopw [4] (fun i wr => SourceRel a len cap w i wr) (fun i _ => len - (intOf i).toNat)
  case atStart => exact ⟨0, _, Nat.zero_le _, rfl, heap_alloc_new w _, (Below.refl _ _).alloc (Nat.le_refl _) _⟩
  case round =>
    obtain ⟨k, mix, hk, rfl, hb, hbel⟩ := hrel
    obtain ⟨⟨c0, c1, c2, c3⟩, f0, f1, f2, f3⟩ := Src.cells hb
    have HW := Lib.hid hb
    have HBEL := Lib.hid hbel
    clear hb hbel
    by_cases hgo : k < len ∧ k < 64
    · obtain ⟨hkl, hk64⟩ := hgo
      obtain ⟨x, rfl, hs, hxl, hc⟩ := HB.out (by omega)
      obtain ⟨xb, xo, xs⟩ := x
      simp only at hs hxl hc
      subst hs
      obtain ⟨z, hz, hcz0⟩ := hc k hkl
      have hcz : wr.cell? ⟨xb, xo + k, none⟩ = some (.int .u8 (z : Int)) := by rw [HBEL.out.cell (p := ⟨xb, xo + k, none⟩) hxl]; exact hcz0
      have hne : ¬ xb = w.heap.size := by omega
      clear hc hcz0
      have d0 : (k : Int) < (len : Int) := by omega
      have d1 : (k : Int) < 64 := by omega
      have d2 : (0 : Int) ≤ (k : Int) := by omega
      go_wp2_with fail
      go_region
      go_wp2_with fail
      go_roundw
      case rel => exact ⟨k + 1, _, by omega, by go_num, set_two HW.out _, (HBEL.out.setCell (p := ⟨w.heap.size, 2, none⟩) (Nat.le_refl _) _).drew⟩
      case measure => simp [intOf]; omega
    · have hend : len ≤ k ∨ k < len ∧ 64 ≤ k := by omega
      clear hgo
      by_cases h12 : (len : Int) / 20 ≤ 12
      · rcases hend with e0 | ⟨e0, e1⟩
        all_goals go_wp2_with fail
        all_goals go_ret
        all_goals exact ⟨rfl, ⟨0, _, _, Nat.zero_le _, set_three HW.out _, hl⟩, HBEL.out.setCell (p := ⟨w.heap.size, 3, none⟩) (Nat.le_refl _) _⟩
      · rcases hend with e0 | ⟨e0, e1⟩
        all_goals go_wp2_with fail
        all_goals go_ret
        all_goals exact ⟨rfl, ⟨0, _, _, Nat.zero_le _, set_three (set_three HW.out _) _, hl⟩, (HBEL.out.setCell (p := ⟨w.heap.size, 3, none⟩) (Nat.le_refl _) _).setCell (p := ⟨w.heap.size, 3, none⟩) (Nat.le_refl _) _⟩
end Go.Proofs.YtcckpkcjekcajaaDoor
