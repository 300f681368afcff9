/- The program's FlashNew. -/
import Derived.Test.YtkeimgglikdbfaaM1
namespace Go.Proofs.Ytkeimgglikdbfaa
open Go.RowKit

set_option maxHeartbeats 1000000 in
set_option maxRecDepth 100000 in
theorem implNew (n : Int) (w : World) : Calls Try.prog 19 #[.int .i64 n] w (FMade w (freshOf n)) := by
  obtain ⟨i0, hi, hz0, hz1, hz2⟩ := info_parts Try.info9
  by_cases h : 1 ≤ n ∧ n ≤ 40
  · have e : freshOf n = ⟨List.replicate n.toNat ByteArray.empty, []⟩ := if_pos h
    rw [e]
    obtain ⟨h0, h1⟩ := h
    obtain ⟨m, rfl⟩ : ∃ m : Nat, n = m := ⟨n.toNat, by omega⟩
    clear e
    have d0 : decide ((m : Int) < 1) = false := decide_eq_false (by omega)
    have d1 : decide ((40 : Int) < (m : Int)) = false := decide_eq_false (by omega)
    go_enter Try.func19, Try.ntmps19
    go_wp2_with (at_make; refine wpList_make_full _ rfl _ _ 23 rfl (w.heap.size + 1) 9 i0 (.string ByteArray.empty) 1 Try.underlying23 hi hz0 hz1 .i64 .i64 _ _ m rfl rfl rfl rfl (by rw [hz2]; omega) (by unfold maxLen; omega) (by simp) ?_)
    intro w1 hown1 hgrow1
    have hb1 : Below (w.heap.size + 1) (w.alloc (.cells #[.slice none 0 0, .slice none 0 0] 26)) w1 := (Below.refl _ _).grown hgrow1 (by simp) (by simp)
    obtain ⟨k0, k1⟩ := two_cells hb1 (Nat.lt_succ_self _)
    have z0 : w1.frozen? ⟨w.heap.size, 0, none⟩ = false := (hb1.frozen (p := ⟨w.heap.size, 0, none⟩) (Nat.lt_succ_self _)).trans (frozen_of_row _ w.heap.size 0 _ _ (heap_alloc_new w _))
    have z1 : w1.frozen? ⟨w.heap.size, 1, none⟩ = false := (hb1.frozen (p := ⟨w.heap.size, 1, none⟩) (Nat.lt_succ_self _)).trans (frozen_of_row _ w.heap.size 1 _ _ (heap_alloc_new w _))
    have ho := own_of_row hown1
    rw [toList_madeCells_one] at ho
    have HO := Lib.hid ho
    have HB := Lib.hid (((Below.refl w.heap.size w).alloc (Nat.le_refl _) (.cells #[.slice none 0 0, .slice none 0 0] 26)).trans (hb1.mono (Nat.le_succ _)))
    have en : (w.alloc (.cells #[.slice none 0 0, .slice none 0 0] 26)).heap.size = w.heap.size + 1 := by simp
    clear hown1 hgrow1 hb1 ho hi hz0 hz1 hz2
    go_wp2_with fail
    refine bodyPost_ret (v := .agg #[.slice (some ⟨w.heap.size + 1, 0, none⟩) m m, .slice none 0 0]) (by simp [results, Try.results19, go_sem, k0, k1]) rfl ⟨_, _, rfl, ⟨?_, own_nil _ _ 2 none 0, ?_⟩, (HB.out.setCell (p := ⟨w.heap.size, 0, none⟩) (Nat.le_refl _) _).setCell (p := ⟨w.heap.size, 1, none⟩) (Nat.le_refl _) _⟩
    · have ho := HO.out
      simp only [Int.toNat_natCast, List.length_replicate, strs, List.map_replicate]
      refine Own.other (Own.other (ho.lower (Nat.le_succ _)) _ _ (fun k hk => ?_)) _ _ (fun k hk => ?_) <;> (have := (ho.blk k hk).1; simp; omega)
    · intro k hk; simp [blk]
  · have e : freshOf n = noFlash := if_neg h
    rw [e]
    clear e
    by_cases h0 : n < 1
    · have d0 : decide (n < 1) = true := decide_eq_true h0
      clear h
      go_enter Try.func19, Try.ntmps19
      go_wp2_with fail
      refine bodyPost_ret (v := .agg #[.slice none 0 0, .slice none 0 0]) (by simp [results, Try.results19, go_sem]) rfl ⟨_, _, rfl, noFlash_own _ _, (Below.refl _ w).alloc (Nat.le_refl _) _⟩
    · have d0 : decide (n < 1) = false := decide_eq_false h0
      have d1 : decide (40 < n) = true := decide_eq_true (by omega)
      clear h
      go_enter Try.func19, Try.ntmps19
      go_wp2_with fail
      refine bodyPost_ret (v := .agg #[.slice none 0 0, .slice none 0 0]) (by simp [results, Try.results19, go_sem]) rfl ⟨_, _, rfl, noFlash_own _ _, (Below.refl _ w).alloc (Nat.le_refl _) _⟩
end Go.Proofs.Ytkeimgglikdbfaa
