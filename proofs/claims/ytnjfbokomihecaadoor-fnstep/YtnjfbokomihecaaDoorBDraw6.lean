/- spec.DrawStepsCode. -/
import Derived.Test.YtnjfbokomihecaaDoorBDraw4
namespace Go.Proofs.YtnjfbokomihecaaDoor
open Go.RowKit

theorem Gr.cap {w : World} {lo e sz n c : Nat} {a : Option Addr} {xs : List Value} (h : Gr w lo e sz (.slice a n c) n xs) : n ≤ c := by
  rcases h with ⟨h0, h1, ⟨h2, h3⟩ | ⟨g, cap, cur, h2, h3, h4, h5, h6⟩⟩ | ⟨rfl, -, -⟩
  · omega
  · simp only [Value.slice.injEq] at h2
    obtain ⟨-, -, rfl⟩ := h2
    exact h5
  · exact Nat.zero_le _
/-- A list of steps and a number drawn from bytes. -/
def DrawnLN (w : World) (e : Ending) (w' : World) : Prop := ∃ (l : List stpT) (v : Value) (n : Int), l.length ≤ 21 ∧ (∀ d ∈ l, d.2.2.2.size ≤ 10) ∧ e = .returned (.tuple #[v, .int .i64 n]) ∧ Gr w' w.heap.size 24 4 v l.length (stpCs l) ∧ Below w.heap.size w w'
set_option maxRecDepth 100000 in
set_option maxHeartbeats 4000000 in
theorem drawCode_any (a : Option Addr) (len cap : Nat) (w : World) (hB : Bytes w a len) (hl : len ≤ 1048576) :
    Calls Tryd.prog 9 #[.slice a len cap] w (DrawnLN w) := by
  have HB := Lib.hid hB
  clear hB
  go_enter Tryd.func9, Tryd.ntmps9
  go_wp2_with fail
  refine (source_any a len cap w HB.out hl).mono ?_
  rintro e w1 ⟨rfl, hs1, hb1⟩
  have hbl := hs1.lt
  have HS1 := Lib.hid hs1
  have HR := Lib.hid (HB.out.row hb1 (Nat.le_refl _))
  have HB1 := Lib.hid hb1
  have hz1 := hb1.size
  clear hs1 hb1
  go_wp2_with fail
  refine (odd_any w.heap.size a len cap w1 HS1.out HR.out).mono ?_
  rintro e W2 ⟨l, v, hlen, rfl, hst⟩
  obtain ⟨x3, c3, rfl⟩ := gr_form hst.gr
  have ST2 := Lib.hid hst
  have HRK := Lib.hid (HR.out.kept hst.kept)
  clear hst HS1
  go_wp2_with fail
  have STa := Lib.hid (ST2.out.next (below_alloc1 W2 (.cells #[.int .i64 4, .int .i64 4, .int .i64 4, .int .i64 8, .int .i64 3, .int .i64 0, .int .i64 9] 2)) hbl)
  have RWa := Lib.hid (HRK.out.kept ((Kept.refl w.heap.size W2).alloc (.cells #[.int .i64 4, .int .i64 4, .int .i64 4, .int .i64 8, .int .i64 3, .int .i64 0, .int .i64 9] 2)))
  have BX := Lib.hid (bx_new W2 2 #[.int .i64 4, .int .i64 4, .int .i64 4, .int .i64 8, .int .i64 3, .int .i64 0, .int .i64 9])
  have hgb : W2.heap.size ≠ w.heap.size := by have := ST2.out.src.lt; omega
  go_region_with
    ((first
      | (go_at_call 21; (with_reducible show Calls _ _ _ (W2.alloc (.cells #[.int .i64 4, .int .i64 4, .int .i64 4, .int .i64 8, .int .i64 3, .int .i64 0, .int .i64 9] 2)).drew _); refine (n_any w.heap.size a len cap 7 (W2.alloc (.cells #[.int .i64 4, .int .i64 4, .int .i64 4, .int .i64 8, .int .i64 3, .int .i64 0, .int .i64 9] 2)).drew (STa.out.keep (Kept.refl _ _).drew STa.out.src hbl).src (RWa.out.kept (Kept.refl _ _).drew) (by omega) (by omega)).mono ?_; rintro e w5 ⟨v, ⟨hv0, hv1⟩, rfl, hs5, hk5⟩; obtain ⟨j, rfl⟩ := Int.eq_ofNat_of_zero_le hv0; obtain ⟨zz, hzz⟩ := ints7 4 4 4 8 3 0 9 j (by omega); have hcell := (BX.out.kept ((Kept.refl w.heap.size (W2.alloc (.cells #[.int .i64 4, .int .i64 4, .int .i64 4, .int .i64 8, .int .i64 3, .int .i64 0, .int .i64 9] 2))).drew.trans hk5) hgb).cell j; rw [hzz] at hcell; have T6 := Lib.hid (STa.out.keep ((Kept.refl _ _).drew.trans hk5) hs5 hbl); clear hs5 hk5)
      | (go_at_call 21; (with_reducible show Calls _ _ _ W2.drew _); refine (n_any w.heap.size a len cap 7 W2.drew (ST2.out.keep (Kept.refl _ _).drew ST2.out.src hbl).src (HRK.out.kept (Kept.refl _ _).drew) (by omega) (by omega)).mono ?_; rintro e w5 ⟨v, ⟨hv0, hv1⟩, rfl, hs5, hk5⟩; obtain ⟨j, rfl⟩ := Int.eq_ofNat_of_zero_le hv0; obtain ⟨zz, hzz⟩ := ints7 4 4 4 8 3 0 9 j (by omega); have hcell := (bx_new w5 2 #[.int .i64 4, .int .i64 4, .int .i64 4, .int .i64 8, .int .i64 3, .int .i64 0, .int .i64 9]).cell j; rw [hzz] at hcell; have T6 := Lib.hid ((ST2.out.keep ((Kept.refl _ _).drew.trans hk5) hs5 hbl).next (below_alloc1 w5 (.cells #[.int .i64 4, .int .i64 4, .int .i64 4, .int .i64 8, .int .i64 3, .int .i64 0, .int .i64 9] 2)) hbl); clear hs5 hk5)))
  all_goals (
    go_wp2_with fail
    refine bodyPost_ret (v := .tuple #[.slice x3 l.length c3, .int .i64 zz]) (by simp [results, Tryd.results9, go_sem]) rfl ⟨l, _, zz, hlen, T6.out.small, rfl, T6.out.gr.lower hz1, ?_⟩
    exact HB1.out.trans (T6.out.kept.below (Nat.le_refl _) hz1))
end Go.Proofs.YtnjfbokomihecaaDoor
