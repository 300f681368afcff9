/- A number at some limit. -/
import Derived.Test.YthkbllkhomjmbaaDoorDraws
namespace Go.Proofs.YthkbllkhomjmbaaDoor
open Go.RowKit

def edgeCells : Array Value := #[.int .i64 0, .int .i64 1, .int .i64 (-1), .int .i64 2, .int .i64 1000, .int .i64 1001, .int .i64 2147483648, .int .i64 2147483647, .int .i64 (-2147483648), .int .i64 4611686018427387904, .int .i64 9223372036854775807, .int .i64 (-9223372036854775808), .int .i64 1000000, .int .i64 1000001]
theorem edge_at : ∀ v : Nat, v < 14 → ∃ x : Int, -9223372036854775808 ≤ x ∧ x ≤ 9223372036854775807 ∧ edgeCells[v]? = some (.int .i64 x)
  | 0, _ => ⟨_, by omega, by omega, rfl⟩
  | 1, _ => ⟨_, by omega, by omega, rfl⟩
  | 2, _ => ⟨_, by omega, by omega, rfl⟩
  | 3, _ => ⟨_, by omega, by omega, rfl⟩
  | 4, _ => ⟨_, by omega, by omega, rfl⟩
  | 5, _ => ⟨_, by omega, by omega, rfl⟩
  | 6, _ => ⟨_, by omega, by omega, rfl⟩
  | 7, _ => ⟨_, by omega, by omega, rfl⟩
  | 8, _ => ⟨_, by omega, by omega, rfl⟩
  | 9, _ => ⟨_, by omega, by omega, rfl⟩
  | 10, _ => ⟨_, by omega, by omega, rfl⟩
  | 11, _ => ⟨_, by omega, by omega, rfl⟩
  | 12, _ => ⟨_, by omega, by omega, rfl⟩
  | 13, _ => ⟨_, by omega, by omega, rfl⟩
  | n + 14, h => by omega

set_option maxHeartbeats 1000000 in
set_option maxRecDepth 100000 in
theorem edge_any (b : Nat) (a : Option Addr) (len cap : Nat) (w : World) (hS : Src w b a len cap) (hR : Row w a len b) :
    Calls Tryd.prog 72 #[.pointer (some ⟨b, 0, none⟩)] w (Drawn b a len cap (fun v => -9223372036854775808 ≤ v ∧ v ≤ 9223372036854775807) w) := by
  have hbl := hS.lt
  have HS := Lib.hid (hS.grown (World.grownBy_alloc w (.cells edgeCells 2) none) (by simp))
  have HR := Lib.hid (hR.kept ((Kept.refl b w).alloc (.cells edgeCells 2)))
  have HN := Lib.hid (n_any b a len cap 14 (w.alloc (.cells edgeCells 2)) HS.out HR.out (by omega) (by omega))
  clear hS hR
  go_enter Tryd.func72, Tryd.ntmps72
  go_wp2_with fail
  refine HN.out.mono ?_
  rintro e w1 ⟨v, ⟨hv0, hv1⟩, rfl, hs1, hk1⟩
  obtain ⟨k, rfl⟩ := Int.eq_ofNat_of_zero_le hv0
  obtain ⟨x, hx0, hx1, hxc⟩ := edge_at k (by omega)
  have hc : w1.cell? ⟨w.heap.size, k, none⟩ = some (.int .i64 x) := by
    rw [hk1.cell (p := ⟨w.heap.size, k, none⟩) (by simp) (by simp; omega), World.cell?_alloc_new]; exact hxc
  have HS1 := Lib.hid hs1
  have HK1 := Lib.hid (((Kept.refl b w).alloc (.cells edgeCells 2)).trans hk1)
  clear hs1 hk1 hxc
  go_wp2_with fail
  go_ret
  exact ⟨x, ⟨hx0, hx1⟩, rfl, HS1.out, HK1.out⟩
end Go.Proofs.YthkbllkhomjmbaaDoor
