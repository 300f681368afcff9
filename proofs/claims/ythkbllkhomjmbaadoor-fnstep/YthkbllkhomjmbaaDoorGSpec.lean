/- spec.GetNum decodes as the plain function goN says. -/
import Derived.Test.YthkbllkhomjmbaaDoorRows
import Derived.Test.YthkbllkhomjmbaaDoorBase
import Derived.WalkKit
import Derived.WalkSpells
import Derived.WalkLawsBesides
import Derived.Lib.Hide
import Derived.ScopeJumps
import Derived.WalkMore
import Derived.Test.YthkbllkhomjmbaaDoorGNum
namespace Go.Proofs.YthkbllkhomjmbaaDoor
open Go.RowKit

/-- The block of a result of three fields. -/
def outB (x y z : Int) : Obj := .cells #[.int .i64 x, .int .i64 y, .int .i64 z] 26
def GSpecRel (s : ByteArray) (a : Nat) (w : World) (R : Int × Int × Int) (x i : Value) (wr : World) : Prop :=
  ∃ k u : Nat, k ≤ 9 ∧ u < 2 ^ (7 * k) ∧ i = .int .i64 k ∧ x = .int .u64 u ∧ wr = w.alloc (.cells #[.int .i64 0, .int .i64 0, .int .i64 0] 26) ∧ goN s a (9 - k + 1) k u = R

def numV (R : Int × Int × Int) : Value := .agg #[.int .i64 R.1, .int .i64 R.2.1, .int .i64 R.2.2]

set_option maxHeartbeats 2000000 in
set_option maxRecDepth 100000 in
theorem specGet_mid (s : ByteArray) (a : Nat) (w : World) (hs : s.size ≤ 8000) (ha : (a : Int) ≤ 9223372036854775807) (R : Int × Int × Int) (hR : goN s a 10 0 0 = R) :
    Calls Tryd.prog 87 #[.string s, .int .i64 a] w fun e w' => e = .returned (numV R) ∧ Below w.heap.size w w' := by
  have HR := Lib.hid hR
  clear hR
  go_enter Tryd.func87, Tryd.ntmps87
  go_wp2
  go_loopw [5, 6] (fun x i wr => GSpecRel s a w R x i wr) (fun _ i _ => 10 - (intOf i).toNat)
  case atStart => exact ⟨0, 0, by omega, by simp, rfl, rfl, rfl, HR.out⟩
  case round =>
    obtain ⟨k, u, hk, hu, rfl, rfl, rfl, hgo⟩ := hrel
    have HU := Lib.hid hu
    have HG := Lib.hid hgo
    clear hu hgo HR
    by_cases h1 : a + k < s.size
    · have h2 : (a : Int) < (s.size : Int) - (k : Int) := by omega
      have hcc := byt_at s (a + k) h1
      have hc := byt_lt s (a + k)
      by_cases h9 : k = 9 ∧ 1 < byt s (a + k)
      · have HN := Lib.hid ((goN_ten (f := 9 - k) (u := u) (by omega) h9.1 h9.2).symm.trans HG.out)
        obtain ⟨h91, c1⟩ := h9
        have k9 : ((k : Int) == 9) = true := by simp; omega
        clear h91
        generalize byt s (a + k) = c at *
        go_wp2
        exact bodyPost_ret (v := numV (0, 0, 3)) (by simp [numV, results, Tryd.results87, go_sem]) rfl ⟨by rw [HN.out], (Below.refl _ _).alloc (Nat.le_refl _) _⟩
      · have hk9 : k < 9 ∨ k = 9 ∧ byt s (a + k) ≤ 1 := by omega
        have t9 : ((k : Int) == 9) = false ∨ ((k : Int) == 9) = true ∧ byt s (a + k) ≤ 1 := by
          rcases hk9 with z | z
          · left; simp; omega
          · right; exact ⟨by simp; omega, by omega⟩
        have hacc := acc_spec u (byt s (a + k)) k HU.out hk9
        have hvl := half_le _ (addU_all u (byt s (a + k)) k HU.out hk9)
        by_cases c128 : 128 ≤ byt s (a + k)
        · have hlt : k < 9 := by omega
          have k9 : ((k : Int) == 9) = false := by simp; omega
          have HN := Lib.hid ((goN_more (f := 9 - k) (u := u) (by omega) hlt c128).symm.trans HG.out)
          have HV := Lib.hid (addU_lt u (byt s (a + k)) k HU.out)
          clear t9 hk9 h9
          generalize addU u (byt s (a + k)) k = v at *
          generalize byt s (a + k) = c at *
          go_wp2
          go_roundw
          case rel => exact ⟨k + 1, v, by omega, HV.out, by go_num, rfl, rfl, by rw [show 9 - (k + 1) + 1 = 9 - k by omega]; exact HN.out⟩
          case measure => simp [intOf]; omega
        · by_cases c0 : byt s (a + k) = 0 ∧ 0 < k
          · have HN := Lib.hid ((goN_long (f := 9 - k) (u := u) (by omega) c0.1 c0.2).symm.trans HG.out)
            have HE := Lib.hid c0.1
            obtain ⟨_, c1⟩ := c0
            clear hk9 h9
            generalize addU u (byt s (a + k)) k = v at *
            generalize byt s (a + k) = c at *
            have e0 : ((c : Int) == 0) = true := by simp; exact HE.out
            have e1 : decide (0 < k) = true := by simp; omega
            rcases t9 with k9 | ⟨k9, c9⟩
            all_goals go_wp2
            all_goals exact bodyPost_ret (v := numV (0, 0, 3)) (by simp [numV, results, Tryd.results87, go_sem]) rfl ⟨by rw [HN.out], (Below.refl _ _).alloc (Nat.le_refl _) _⟩
          · have HN := Lib.hid ((goN_last (f := 9 - k) (u := u) (by omega) h9 (by omega) c0).symm.trans HG.out)
            have hv : (addU u (byt s (a + k)) k) % 2 = 1 ∨ ¬ (addU u (byt s (a + k)) k) % 2 = 1 := by omega
            have e0 : ((byt s (a + k) : Int) == 0) = true ∧ decide (0 < k) = false ∨ ((byt s (a + k) : Int) == 0) = false := by
              by_cases z : byt s (a + k) = 0
              · left; exact ⟨by simp [z], decide_eq_false (by omega)⟩
              · right; simp; omega
            clear c0 hk9 h9
            generalize addU u (byt s (a + k)) k = v at *
            generalize byt s (a + k) = c at *
            rcases hv with hv | hv
            · have HZ := Lib.hid (unz_odd v hv)
              have p1 : ((v : Int) % 2 == 1) = true := by simp; omega
              clear hv
              rcases e0 with ⟨e0, e1⟩ | e0 <;> rcases t9 with k9 | ⟨k9, c9⟩
              all_goals go_wp2
              all_goals exact bodyPost_ret (v := numV (-((v : Int) / 2) - 1, (a : Int) + k + 1, 0)) (by simp [numV, results, Tryd.results87, go_sem]) rfl ⟨by rw [HZ.out, HN.out], (Below.refl _ _).alloc (Nat.le_refl _) _⟩
            · have HZ := Lib.hid (unz_even v hv)
              have p1 : ((v : Int) % 2 == 1) = false := by simp; omega
              clear hv
              rcases e0 with ⟨e0, e1⟩ | e0 <;> rcases t9 with k9 | ⟨k9, c9⟩
              all_goals go_wp2
              all_goals exact bodyPost_ret (v := numV ((v : Int) / 2, (a : Int) + k + 1, 0)) (by simp [numV, results, Tryd.results87, go_sem]) rfl ⟨by rw [HZ.out, HN.out], (Below.refl _ _).alloc (Nat.le_refl _) _⟩
    · have h2 : (s.size : Int) - (k : Int) ≤ (a : Int) := by omega
      have HN := Lib.hid ((goN_short (f := 9 - k) (u := u) (by omega)).symm.trans HG.out)
      go_wp2
      exact bodyPost_ret (v := numV (0, 0, 4)) (by simp [numV, results, Tryd.results87, go_sem]) rfl ⟨by rw [HN.out], (Below.refl _ _).alloc (Nat.le_refl _) _⟩
end Go.Proofs.YthkbllkhomjmbaaDoor
