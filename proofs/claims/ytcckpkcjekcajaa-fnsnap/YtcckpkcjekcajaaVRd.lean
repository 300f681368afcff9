/- The program's snapshot.read. -/
import Derived.Test.YtcckpkcjekcajaaVWr
import Derived.Test.YtcckpkcjekcajaaCIAp
namespace Go.Proofs.Ytcckpkcjekcajaa
open Go.RowKit

theorem keepRd {V W' : World} {n bb o : Nat} {x0 x1 x2 : Value} {y0 y1 y2 y3 : Value} (X : Bx V n 69 #[x0, x1, x2]) (hb : bb < V.heap.size) (r0 : V.cell? ⟨bb, o, none⟩ = some y0) (r1 : V.cell? ⟨bb, o + 1, none⟩ = some y1) (r2 : V.cell? ⟨bb, o + 2, none⟩ = some y2) (r3 : V.cell? ⟨bb, o + 3, none⟩ = some y3) (k : Below V.heap.size V W') :
    W'.cell? ⟨n, 0, none⟩ = some x0 ∧ W'.cell? ⟨n, 1, none⟩ = some x1 ∧ W'.cell? ⟨bb, o, none⟩ = some y0 ∧ W'.cell? ⟨bb, o + 1, none⟩ = some y1 ∧ W'.cell? ⟨bb, o + 2, none⟩ = some y2 ∧ W'.cell? ⟨bb, o + 3, none⟩ = some y3 ∧ Below V.heap.size V W' :=
  ⟨(X.next k).t0, (X.next k).t1, (k.cell (p := ⟨bb, o, none⟩) hb).trans r0, (k.cell (p := ⟨bb, o + 1, none⟩) hb).trans r1, (k.cell (p := ⟨bb, o + 2, none⟩) hb).trans r2, (k.cell (p := ⟨bb, o + 3, none⟩) hb).trans r3, k⟩
set_option maxRecDepth 100000 in
set_option maxHeartbeats 4000000 in
theorem implRead (a a' : Option Addr) (c c' g N i : Nat) (base : List ByteArray) (l : List stpT) (w : World) (h : Rd w (.slice a base.length c) base.length 1 (strs base)) (hl : Rd w (.slice a' l.length c') l.length 4 (stpCs l)) (hm : MapI w g N (mapT l)) (hn : base.length ≤ 1048576) (hn' : l.length ≤ 1048576) (ha : applyC base l = 0) (hi : i < base.length) :
    Calls Try.prog 46 #[.agg #[.slice a base.length c, .slice a' l.length c', .map (some g)], .int .i64 (i : Int)] w fun e w' => e = .returned (.string (snapB base l i)) ∧ Below w.heap.size w w' := by
  obtain ⟨R, hR⟩ : ∃ R, R = snapB base l i := ⟨_, rfl⟩
  rw [← hR]
  have HR := Lib.hid hR
  clear hR
  have G0 := Lib.hid (below_alloc1 w (.cells #[.slice a base.length c, .slice a' l.length c', .map (some g)] 69))
  have X0 := Lib.hid (bx_new w 69 #[.slice a base.length c, .slice a' l.length c', .map (some g)])
  have RB := Lib.hid (h.below G0.out (Nat.le_refl _))
  have RL := Lib.hid (hl.below G0.out (Nat.le_refl _))
  have MM := Lib.hid (hm.below G0.out (Nat.le_refl _))
  have HA := Lib.hid ha
  clear h hl hm ha
  obtain ⟨W0, hW0⟩ : ∃ W0, W0 = w.alloc (.cells #[.slice a base.length c, .slice a' l.length c', .map (some g)] 69) := ⟨_, rfl⟩
  rw [← hW0] at G0 X0 RB RL MM
  have HW0 := Lib.hid hW0
  clear hW0
  have hsz := G0.out.size
  have c0 := X0.out.t0
  have c1 := X0.out.t1
  have c2 := X0.out.t2
  cases hj : mapT l (i : Int) with
  | none =>
    have hlk := lookI_no MM.out (i : Int) hj (by omega) (by omega)
    have hr : R = base[i] := HR.out.trans (snapB_base (by rw [mapT_no hj]; decide) hi)
    subst hr
    obtain ⟨bb, off, hp, hbl, hcell⟩ := RB.out.get (by omega)
    have r0 : W0.cell? ⟨bb, off + i, none⟩ = some (.string base[i]) := by rw [hcell i (by omega), strs_at base i hi]
    have e0 : (i : Int) < (base.length : Int) := by omega
    have e1 : (0 : Int) ≤ (i : Int) := by omega
    cases hp
    clear hcell hj HR
    generalize base[i] = s at *
    go_enter Try.func46, Try.ntmps46
    rw [HW0.out] at c0 c1 c2 hlk r0
    go_wp2_with fail
    go_ret
    refine ⟨rfl, ?_⟩
    rw [← HW0.out]; exact G0.out
  | some j =>
    have hlk := lookI_yes MM.out (i : Int) j hj (by omega) (by omega)
    obtain ⟨j0, j1, ht⟩ := mapT_lt hj
    obtain ⟨k, rfl⟩ := Int.eq_ofNat_of_zero_le j0
    obtain ⟨hk, h5, he⟩ := snapB_made HA.out ht
    have HE := Lib.hid (HR.out.trans he)
    obtain ⟨bb, off, hp, hbl, hcell⟩ := RL.out.get (by omega)
    have r0 : W0.cell? ⟨bb, off + k * 4, none⟩ = some (.int .i64 l[k].1) := by rw [hcell (k * 4) (by omega), stpCs_0 l k hk]
    have r1 : W0.cell? ⟨bb, off + k * 4 + 1, none⟩ = some (.int .i64 l[k].2.1) := by rw [Nat.add_assoc, hcell (k * 4 + 1) (by omega), stpCs_1 l k hk]
    have r2 : W0.cell? ⟨bb, off + k * 4 + 2, none⟩ = some (.int .i64 l[k].2.2.1) := by rw [Nat.add_assoc, hcell (k * 4 + 2) (by omega), stpCs_2 l k hk]
    have r3 : W0.cell? ⟨bb, off + k * 4 + 3, none⟩ = some (.string l[k].2.2.2) := by rw [Nat.add_assoc, hcell (k * 4 + 3) (by omega), stpCs_3 l k hk]
    have e0 : (k : Int) < (l.length : Int) := by omega
    have e1 : (0 : Int) ≤ (k : Int) := by omega
    cases hp
    clear hcell hj HR h5 he ht j0 j1
    obtain ⟨x, hx⟩ : ∃ x, x = l[k] := ⟨_, rfl⟩
    rw [← hx] at r0 r1 r2 r3 HE
    clear hx
    obtain ⟨x1, x2, x3, x4⟩ := x
    simp only at r0 r1 r2 r3
    have HC := Lib.hid (show ∀ w', Below W0.heap.size W0 w' → Calls Try.prog 73 #[.slice a base.length c, .agg #[.int .i64 x1, .int .i64 x2, .int .i64 x3, .string x4]] w' fun e w'' => e = .returned (.string R) ∧ Below w'.heap.size w' w'' from fun w' hb' => by rw [HE.out]; exact implMadeBy _ base x1 x2 x3 x4 w' (RB.out.below hb' (Nat.le_refl _)) hn)
    have KP := Lib.hid (fun w' (hb' : Below W0.heap.size W0 w') => keepRd X0.out hbl r0 r1 r2 r3 hb')
    have K0 := Lib.hid (KP.out W0 (Below.refl _ _))
    have K1 := Lib.hid (KP.out W0.drew (Below.refl _ _).drew)
    rw [HW0.out] at c0 c1 c2 hlk
    go_enter Try.func46, Try.ntmps46
    go_wp2_with fail
    rw [← HW0.out] at c0 c1 c2 hlk ⊢
    clear hlk c2
    go_region_held3 (fun w' => w'.cell? ⟨w.heap.size, 0, none⟩ = some (.slice a base.length c) ∧ w'.cell? ⟨w.heap.size, 1, none⟩ = some (.slice (some ⟨bb, off, none⟩) l.length c') ∧ w'.cell? ⟨bb, off + k * 4, none⟩ = some (.int .i64 x1) ∧ w'.cell? ⟨bb, off + k * 4 + 1, none⟩ = some (.int .i64 x2) ∧ w'.cell? ⟨bb, off + k * 4 + 2, none⟩ = some (.int .i64 x3) ∧ w'.cell? ⟨bb, off + k * 4 + 3, none⟩ = some (.string x4) ∧ Below W0.heap.size W0 w')
      (first | (with_reducible exact K1.out) | (with_reducible exact KP.out _ hb9))
      ((go_at_call 73; go_split_ands; refine (HC.out _ (by assumption)).mono ?_; rintro e w2 ⟨rfl, hb2⟩; have hb9 : Below W0.heap.size W0 w2 := below_more (by assumption) hb2))
    all_goals (
      have HB := Lib.hid (G0.out.trans (hb9.mono hsz))
      clear hb2 hb9
      go_wp2_with fail
      go_ret
      exact ⟨rfl, HB.out⟩)
end Go.Proofs.Ytcckpkcjekcajaa
