/- The model's l03Copy, with what an append to the copy wants; l03Put. -/
import Derived.Test.YtocjjkjjojdpdaaLOut
namespace Go.Proofs.Ytocjjkjjojdpdaa
open Go.RowKit

/-- What a slice of the call's own may be appended to by. -/
def Grow (w : World) (lo e sz : Nat) (v : Value) (n : Nat) (xs : List Value) : Prop := (0 < n → w.ownsRow lo e sz v n xs) ∧ (n = 0 → ∃ a, v = .slice (some a) 0 0)
theorem Grow.lower {w : World} {lo lo' e sz n : Nat} {v : Value} {xs : List Value} (h : Grow w lo e sz v n xs) (hl : lo' ≤ lo) : Grow w lo' e sz v n xs := by
  refine ⟨fun h0 => ?_, h.2⟩
  obtain ⟨h1, h2 | ⟨g, cap, cur, q1, q2, q3⟩⟩ := h.1 h0
  · exact ⟨h1, .inl h2⟩
  · exact ⟨h1, .inr ⟨g, cap, cur, q1, by omega, q3⟩⟩
theorem Grow.keep {w w' : World} {lo e sz n : Nat} {v : Value} {xs : List Value} (h : Grow w lo e sz v n xs) (hk : ∀ k, lo ≤ k → k < w.heap.size → w'.heap[k]? = w.heap[k]?) : Grow w' lo e sz v n xs := by
  refine ⟨fun h0 => ?_, h.2⟩
  obtain ⟨h1, h2 | ⟨g, cap, cur, q1, q2, q3, q4⟩⟩ := h.1 h0
  · exact ⟨h1, .inl h2⟩
  · exact ⟨h1, .inr ⟨g, cap, cur, q1, q2, (hk g q2 (Array.getElem?_eq_some_iff.1 q3).1).trans q3, q4⟩⟩
theorem Grow.below {w w' : World} {lo e sz n B : Nat} {v : Value} {xs : List Value} (h : Grow w lo e sz v n xs) (hb : Below B w w') (hB : w.heap.size ≤ B) : Grow w' lo e sz v n xs :=
  h.keep fun k _ hk => hb.block k (by omega)
theorem Grow.set {w : World} {lo e sz n b i : Nat} {v x : Value} {xs : List Value} (h : Grow w lo e sz v n xs) (hp : b < lo) : Grow (w.setCell ⟨b, i, none⟩ x) lo e sz v n xs :=
  h.keep fun k h1 h2 => (grown_set (World.grownBy.refl w (some b)) (i := i) (x := x)).block k h2 (by simp; omega)
theorem run_append_copyA {P : Program} (w : World) (t ty e : TypeId) (i : TypeInfo) (z : Value) (sz bytes : Nat) (ht : P.underlying t = some (.slice e)) (hi : P.info? e = some i) (hz : i.zero = some z) (hsize : i.size = sz) (hby : i.bytes = bytes) (hzs : z.cells.size = sz) (hsz : 0 < sz)
    (g : Addr) (src : Value) (n : Nat) (xs : List Value) (hr : Rd w src n sz xs) (h63 : n ≤ maxLen) (hbytes : n * bytes ≤ 140737488355328) :
    ∃ v' w', (Builtin.append_ #[t, t] ty #[.slice (some g) 0 0, src]).run P w = .ok v' w' ∧ Own w' w.heap.size v' n sz xs ∧ Grow w' w.heap.size e sz v' n xs ∧ w.grownBy w' none := by
  obtain ⟨hl, a, c, rfl, hc⟩ := hr
  by_cases h0 : 0 < n
  · obtain ⟨b, off, rfl, hbl, hcell⟩ := hc h0
    obtain ⟨v', w', h1, h2, h3⟩ := run_append_arg_grows (P := P) w t ty e i z sz bytes ht hi hz hsize hby hzs hsz g 0 0 [] (by simp) (by simp) ⟨b, off, none⟩ n c xs hl (fun j u hj => by
      have hj' : j < n * sz := by have := (List.getElem?_eq_some_iff.1 hj).1; omega
      rw [Addr.add_lit, hcell j hj', hj]) (by omega) (by omega) (by rw [Nat.zero_add]; exact hbytes)
    rw [Nat.zero_add, List.nil_append] at h2
    exact ⟨v', w', h1, own_of_row h2, ⟨fun _ => h2, fun e => absurd e (by omega)⟩, h3⟩
  · obtain rfl : n = 0 := by omega
    have hx : xs = [] := List.eq_nil_of_length_eq_zero (by omega)
    subst hx
    refine ⟨.slice (some g) 0 0, w, ?_, ⟨by simp, _, _, rfl, fun h => absurd h (Nat.lt_irrefl 0)⟩, ⟨fun h => absurd h (Nat.lt_irrefl 0), fun _ => ⟨_, rfl⟩⟩, World.grownBy.refl w none⟩
    cases hsize
    have hfc : (Builtin.firstCells i.size 0 (.slice a 0 c)).run P w = .ok #[] w := by
      cases a with
      | none => exact run_firstCells_none w i.size 0 0 c
      | some a => exact run_firstCells_some w i.size 0 a 0 c [] (by simp) (by simp)
    simp [Builtin.append_, run_underlying ht, sizeOf, typeInfo, hi, Builtin.lenOf, Result.andThen, hfc, storeCells]
def FMadeA (e : TypeId) (w : World) (F : FM) (x : Ending) (w' : World) : Prop := ∃ sv dv, x = .returned (.agg #[sv, dv]) ∧ FOwn w' w.heap.size sv dv F ∧ Grow w' w.heap.size e 2 dv F.dir.length (dirs F.dir) ∧ Below w.heap.size w w'
/-- For a region that draws. -/
theorem step_append_copyA {P : Program} {w : World} {ops : Array Oper} {o : Oper} {a : Act} {K : Act → World → Prop} {Q : Exit → Act → World → Prop} {E : Prop} (hgd : o.guard = none) (s x : Operand) (t : TypeId)
    (ho : o.op = .call { callee := .builtin .append, args := #[s, x], argTypes := #[t, t] })
    (e : TypeId) (i : TypeInfo) (z : Value) (sz bytes : Nat) (ht : P.underlying t = some (.slice e)) (hi : P.info? e = some i) (hz : i.zero = some z) (hsize : i.size = sz) (hby : i.bytes = bytes) (hzs : z.cells.size = sz) (hsz : 0 < sz)
    (g : Addr) (hs : a.eval s = .slice (some g) 0 0) (src : Value) (hx : a.eval x = src) (n : Nat) (xs : List Value) (hr : Rd w src n sz xs) (h63 : n ≤ maxLen) (hbytes : n * bytes ≤ 140737488355328)
    (h : ∀ ad cap w', Own w' w.heap.size (.slice ad n cap) n sz xs → Grow w' w.heap.size e sz (.slice ad n cap) n xs → Below w.heap.size w w' → K (a.put o.dst (.slice ad n cap)) w') :
    if Region.wanted o (yielded ops a.tmps) = true then Oper.wp P o a w K Q else E := by
  have hw : Region.wanted o (yielded ops a.tmps) = true := by simp [Region.wanted, hgd]
  rw [if_pos hw]
  obtain ⟨v', w', hrun, h1, h3, h2⟩ := run_append_copyA (P := P) w t o.type e i z sz bytes ht hi hz hsize hby hzs hsz g src n xs hr h63 hbytes
  obtain ⟨ad, cap, rfl, _⟩ := id h1.2
  unfold Oper.wp
  simp [execOp, ho, resolve, invoke, builtin, hs, hx, hrun, Result.andThen]
  exact h ad cap w' h1 h3 ⟨h2.os, h2.tape, h2.output, h2.size, fun k hk => h2.block k hk (by simp)⟩

set_option maxHeartbeats 2000000 in
set_option maxRecDepth 100000 in
theorem specCopyA (sv dv : Value) (F : FM) (w : World) (h : FRd w sv dv F) (hf : FFits F) :
    Calls Try.prog 55 #[.agg #[sv, dv]] w (FMadeA 82 w F) := by
  obtain ⟨i0, hi, hz0, hz1, hz2⟩ := info_parts Try.info9
  obtain ⟨j0, hj, hy0, hy1, hy2⟩ := info_parts Try.infoD
  obtain ⟨f1, f2⟩ := hf
  have HR := Lib.hid h
  clear h
  go_enter Try.func55, Try.ntmps55
  go_wp2_with fail
  have hb2 : Below w.heap.size w ((w.alloc (.cells #[sv, dv] 33)).alloc (.cells #[.slice none 0 0, .slice none 0 0] 33)) := ((Below.refl _ w).alloc (Nat.le_refl _) _).alloc (by simp) _
  have c0 : ((w.alloc (.cells #[sv, dv] 33)).alloc (.cells #[.slice none 0 0, .slice none 0 0] 33)).cell? ⟨w.heap.size, 0, none⟩ = some sv := by rw [cell_of_row _ _ _ _ _ _ (heap_alloc2_old w _ _)]; rfl
  have c1 : ((w.alloc (.cells #[sv, dv] 33)).alloc (.cells #[.slice none 0 0, .slice none 0 0] 33)).cell? ⟨w.heap.size, 1, none⟩ = some dv := by rw [cell_of_row _ _ _ _ _ _ (heap_alloc2_old w _ _)]; rfl
  have r0 : ((w.alloc (.cells #[sv, dv] 33)).alloc (.cells #[.slice none 0 0, .slice none 0 0] 33)).cell? ⟨w.heap.size + 1, 0, none⟩ = some (.slice none 0 0) := by rw [cell_of_row _ _ _ _ _ _ (heap_alloc2_new w _ _)]; rfl
  have r1 : ((w.alloc (.cells #[sv, dv] 33)).alloc (.cells #[.slice none 0 0, .slice none 0 0] 33)).cell? ⟨w.heap.size + 1, 1, none⟩ = some (.slice none 0 0) := by rw [cell_of_row _ _ _ _ _ _ (heap_alloc2_new w _ _)]; rfl
  have s0 := frozen_of_row _ (w.heap.size + 1) 0 _ _ (heap_alloc2_new w (.cells #[sv, dv] 33) (.cells #[.slice none 0 0, .slice none 0 0] 33))
  have s1 := frozen_of_row _ (w.heap.size + 1) 1 _ _ (heap_alloc2_new w (.cells #[sv, dv] 33) (.cells #[.slice none 0 0, .slice none 0 0] 33))
  have hzW : w.heap.size + 2 ≤ ((w.alloc (.cells #[sv, dv] 33)).alloc (.cells #[.slice none 0 0, .slice none 0 0] 33)).heap.size := by simp
  generalize ((w.alloc (.cells #[sv, dv] 33)).alloc (.cells #[.slice none 0 0, .slice none 0 0] 33)) = W at *
  have HB2 := Lib.hid hb2
  clear hb2
  go_region_held3 (fun w' => w'.cell? ⟨w.heap.size, 0, none⟩ = some sv ∧ w'.cell? ⟨w.heap.size, 1, none⟩ = some dv ∧ (w'.cell? ⟨w.heap.size + 1, 0, none⟩).isSome = true ∧ (w'.cell? ⟨w.heap.size + 1, 1, none⟩).isSome = true ∧ w'.frozen? ⟨w.heap.size + 1, 0, none⟩ = false ∧ w'.frozen? ⟨w.heap.size + 1, 1, none⟩ = false ∧ Below (w.heap.size + 1) W w')
    (first | (exact keepN hzW (drew_below W) ⟨c0, c1, by rw [r0]; rfl, by rw [r1]; rfl, s0, s1, Below.refl _ _⟩) | (go_split_ands; first | (exact keepN hzW hbm ⟨by assumption, by assumption, by assumption, by assumption, by assumption, by assumption, by assumption⟩) | (exact keepN hzW hbn ⟨by assumption, by assumption, by assumption, by assumption, by assumption, by assumption, by assumption⟩) | (exact keepN hzW (alloc_below _ _) ⟨by assumption, by assumption, by assumption, by assumption, by assumption, by assumption, by assumption⟩) | (exact keepSet ⟨by assumption, by assumption, by assumption, by assumption, by assumption, by assumption, by assumption⟩)))
    (first | (go_split_ands; refine step_append_copyA (by rfl) (.tmp 3) (.tmp 5) _ (by rfl) 9 i0 _ 1 16 Try.underlying24 hi hz0 hz1 hz2 rfl (by decide) _ (by rfl) sv (by rfl) F.sec.length (strs F.sec) (HR.out.1.below (HB2.out.trans (Below.mono (B := w.heap.size + 1) (by assumption) (Nat.le_succ _))) (Nat.le_refl _)) (by unfold maxLen; omega) (by omega) ?_; intro ad1 cap1 w1 ho1' hg1' hbn; clear hg1'; have ho1 := ho1'.lower (show w.heap.size + 2 ≤ _ from Nat.le_trans hzW (Below.size (B := w.heap.size + 1) (by assumption))); clear ho1') | (go_split_ands; refine step_append_copyA (by rfl) (.tmp 7) (.tmp 9) _ (by rfl) 82 j0 _ 2 24 Try.underlying31 hj hy0 hy1 hy2 rfl (by decide) _ (by rfl) dv (by rfl) F.dir.length (dirs F.dir) (HR.out.2.below (HB2.out.trans (Below.mono (B := w.heap.size + 1) (by assumption) (Nat.le_succ _))) (Nat.le_refl _)) (by unfold maxLen; omega) (by omega) ?_; intro ad2 cap2 w2 ho2' hg2 hbm; have HG2 := Lib.hid (hg2.lower (show w.heap.size + 2 ≤ _ from Nat.le_trans hzW (Below.size (B := w.heap.size + 1) (by assumption)))); clear hg2; have ho2 := ho2'.lower (show w.heap.size + 2 ≤ _ from Nat.le_trans hzW (Below.size (B := w.heap.size + 1) (by assumption))); obtain ⟨-, -, q0, q1, -, -, -⟩ := keepN hzW hbm ⟨by assumption, by assumption, by assumption, by assumption, by assumption, by assumption, by assumption⟩; obtain ⟨x0, hx0⟩ := Option.isSome_iff_exists.1 q0; obtain ⟨x1, hx1⟩ := Option.isSome_iff_exists.1 q1; have hne : ∀ k, blk (.slice ad1 F.sec.length cap1) F.sec.length = some k → blk (.slice ad2 F.dir.length cap2) F.dir.length ≠ some k := (fun k h1 h2 => by (have e1 := (ho1.blk k h1).2; have e2 := (ho2'.blk k h2).1; first | omega | (simp at e2; omega))); have ho1w : Own w2 (w.heap.size + 2) (.slice ad1 F.sec.length cap1) F.sec.length 1 (strs F.sec) := (by first | exact ho1.below hbm (Nat.le_refl _) | exact (ho1.below (alloc_below _ _) (Nat.le_refl _)).below hbm (Nat.le_refl _)); have HNE := Lib.hid hne; have HO1 := Lib.hid ho1w; have HO2 := Lib.hid ho2; clear hne ho1w ho2 ho2' q0 q1))
  all_goals (
    go_split_ands
    have HBF := Lib.hid (show Below w.heap.size w ((w2.setCell ⟨w.heap.size + 1, 0, none⟩ (.slice ad1 F.sec.length cap1)).setCell ⟨w.heap.size + 1, 1, none⟩ (.slice ad2 F.dir.length cap2)) from HB2.out.trans (Below.mono (B := w.heap.size + 1) (by assumption) (Nat.le_succ _)))
    go_wp2_with fail
    refine bodyPost_ret (v := .agg #[.slice ad1 F.sec.length cap1, .slice ad2 F.dir.length cap2]) (by simp [results, Try.results55, go_sem, hx0, hx1]) rfl ⟨_, _, rfl, ⟨?_, ?_, HNE.out⟩, ((HG2.out.set (by simp)).set (by simp)).lower (by omega), HBF.out⟩
    · refine Own.other (Own.other (HO1.out.lower (by omega)) _ _ (fun k hk => ?_)) _ _ (fun k hk => ?_) <;> (have := (HO1.out.blk k hk).1; simp; omega)
    · refine Own.other (Own.other (HO2.out.lower (by omega)) _ _ (fun k hk => ?_)) _ _ (fun k hk => ?_) <;> (have := (HO2.out.blk k hk).1; simp; omega))
end Go.Proofs.Ytocjjkjjojdpdaa
