/- Scan: the specification's and the program's. -/
import Derived.Test.YthkbllkhomjmbaaDoorQRead
import Derived.Test.YthkbllkhomjmbaaDoorQKept
import Derived.Test.YthkbllkhomjmbaaDoorBWrites
import Derived.Test.YthkbllkhomjmbaaDoorCZ
import Derived.Test.YthkbllkhomjmbaaDoorAOb
import Derived.RangeFuncNested
import Derived.RangeFuncBound
import Derived.RangeFuncCalls
import Derived.RangeFuncLeaves
import Derived.RangeFuncBox
import Derived.Shelf.Abstract
import Derived.Shelf.RegionOpen
import Derived.WalkKit
import Derived.OwnWalkIn
import Derived.TacticsInMore
import Derived.LoopNIn
import Derived.LoopIn
import Derived.Maps.AppendAt
import Derived.RangeFuncFrom
import Derived.RangeFuncWrites
namespace Go.Proofs.YthkbllkhomjmbaaDoor
open Go.RowKit Go.Shelf
attribute [local go_sem] Oper.semAt_some

/-- An answer of Scan. -/
def MadeC (R : List stpT × Int) (w : World) (e : Ending) (w' : World) : Prop := ∃ v, e = .returned (.agg #[v, .int .i64 R.2]) ∧ Own w' w.heap.size v R.1.length 4 (stpCs R.1) ∧ Below w.heap.size w w'
def ScRel (l : List ByteArray) (w : World) (v i : Value) (wr : World) : Prop :=
  ∃ (k : Nat) (pre : List stpT), k ≤ l.length ∧ pre.length = k ∧ i = .int .i64 k ∧ scanF l 0 = pre ++ scanF (l.drop k) k ∧ Gr wr w.heap.size 41 4 v pre.length (stpCs pre) ∧ Below w.heap.size w wr

set_option maxRecDepth 100000 in
set_option maxHeartbeats 2000000 in
theorem specL09 (v : Value) (l : List ByteArray) (w : World) (h : Rd w v l.length 1 (strs l)) (hn : l.length ≤ 1048576) (hz : FitZ l) :
    Calls Tryd.prog 95 #[v] w (MadeS w (scanF l 0)) := by
  obtain ⟨i0, hi, hz0, hz1, hz2⟩ := info_parts Tryd.infostp
  obtain ⟨a, c, rfl, -⟩ := id h.2
  have HV := Lib.hid h
  have HF := Lib.hid hz
  clear h hz
  obtain ⟨R, hR⟩ : ∃ R, R = scanF l 0 := ⟨_, rfl⟩
  rw [← hR]
  have HR := Lib.hid hR
  clear hR
  go_enter Tryd.func95, Tryd.ntmps95
  go_wp2_with fail
  go_loopw [3, 4] (fun lv i wr => ScRel l w lv i wr) (fun _ i _ => l.length - (intOf i).toNat)
  case atStart => exact ⟨0, [], Nat.zero_le _, rfl, rfl, by simp, .inr ⟨rfl, rfl, .inr ⟨_, rfl⟩⟩, below_alloc1 w _⟩
  case round =>
    obtain ⟨k, pre, hk, hpl, rfl, hsc, hg, hb⟩ := hrel
    rw [hpl] at hg
    obtain ⟨a3, c3, rfl⟩ := gr_form hg
    have HPL := Lib.hid hpl
    have HG := Lib.hid hg
    have HB := Lib.hid hb
    have HSC := Lib.hid hsc
    have hsz := hb.size
    clear hpl hsc
    by_cases hlt : k < l.length
    · obtain ⟨b, off, rfl, hbl, hcell⟩ := HV.out.get (by omega)
      have r0 : wr.cell? ⟨b, off + k, none⟩ = some (.string l[k]) := by rw [hb.cell (p := ⟨b, off + k, none⟩) hbl, hcell k (by omega), strs_at l k hlt]
      have e0 : (k : Int) < (l.length : Int) := by omega
      have e1 : (0 : Int) ≤ (k : Int) := by omega
      have HRR := Lib.hid (fun w => specRecRead l[k] (k : Int) w (HF.out _ (List.getElem_mem hlt)))
      have GO := Lib.hid (scanF_go HSC.out hlt)
      have ST := Lib.hid (scanF_stop HSC.out hlt)
      have hbl2 : ∀ b, blk (.slice a3 k c3) k = some b → w.heap.size ≤ b := fun b hb => by
        have := (HG.out.own.blk b hb).1; exact this
      have HBL := Lib.hid hbl2
      clear hcell hb hg hbl2
      obtain ⟨X, hX⟩ : ∃ X, X = recRd l[k] (k : Int) := ⟨_, rfl⟩
      rw [← hX] at HRR GO ST
      clear hX
      obtain ⟨⟨sk, st, sf, sd⟩, sc⟩ := X
      unfold soV at HRR
      dsimp only at HRR GO ST
      generalize l[k] = x at *
      go_wp2_with fail
      refine (HRR.out _).mono ?_
      rintro e w2 ⟨rfl, hb2⟩
      have bz := below_alloc1 w2 (.cells #[.int .i64 sk, .int .i64 st, .int .i64 sf, .string sd, .int .i64 sc] 46)
      have z2 := size_alloc1 w2 (.cells #[.int .i64 sk, .int .i64 st, .int .i64 sf, .string sd, .int .i64 sc] 46)
      have hbb := below_more hb2 bz
      have hs2 := hb2.size
      have XX := Lib.hid (bx_new w2 46 #[.int .i64 sk, .int .i64 st, .int .i64 sf, .string sd, .int .i64 sc])
      have B2 := Lib.hid (below_nx HB.out hbb)
      have G2 := Lib.hid (HG.out.below hbb (Nat.le_refl _))
      clear hb2 bz hbb HRR r0
      obtain ⟨x0, x1, x2, x3, x4⟩ := XX.out.s0
      by_cases hc : sc = 0
      · subst hc
        replace GO := Lib.hid (GO.out (by first | rfl | trivial))
        clear ST
        go_wp2_with ((with_reducible show wpList _ _ _ (⟨some 26, _, _, _, _, _⟩ :: _) _ _); refine wpList_append_gr (lo := w.heap.size) (e := 41) (sz := 4) (v := .slice a3 k c3) (n := k) (xs := stpCs pre) rfl (.tmp 22) (.tmp 25) 48 rfl i0 _ 40 Tryd.underlying48 hi hz0 hz1 hz2 rfl (by decide) rfl (by rw [stpCs_length, HPL.out]) ?_ ⟨w2.heap.size + 1, 0, none⟩ 1 1 rfl [.int .i64 sk, .int .i64 st, .int .i64 sf, .string sd] (by decide) rfl ?_ ?_ (by unfold maxLen; omega) (by omega) (by simp; omega) ?_)
        · exact G2.out.below (below_alloc1 _ _) (Nat.le_refl _)
        · have h9 := four_new (w2.alloc (.cells #[.int .i64 sk, .int .i64 st, .int .i64 sf, .string sd, .int .i64 0] 46)) (.int .i64 sk) (.int .i64 st) (.int .i64 sf) (.string sd) 41
          rw [z2] at h9
          exact h9
        · intro u hu; simp at hu; rcases hu with rfl | rfl | rfl | rfl <;> rfl
        · intro gg cc w4 hgn hgr hloc
          have hbw : Below w.heap.size w w4 := (B2.out.trans ((below_alloc1 _ _).mono B2.out.size)).grown hgr (by simp; omega) HBL.out
          have G4 := Lib.hid hgn
          have HB4 := Lib.hid hbw
          clear hgn hgr hloc hbw x0 x1 x2 x3 x4
          go_wp2_with fail
          go_roundw
          case rel =>
            refine ⟨k + 1, pre ++ [(sk, st, sf, sd)], by omega, by rw [List.length_append, HPL.out]; rfl, by go_num, GO.out, ?_, HB4.out⟩
            rw [stpCs_snoc, List.length_append, HPL.out]
            have := G4.out
            simpa using this
          case measure => simp [intOf]; omega
      · have dc : (sc != 0) = true := by simpa using hc
        have hr := HR.out.trans (ST.out hc)
        clear GO ST hc
        go_wp2_with fail
        go_ret
        refine ⟨_, rfl, ?_, B2.out⟩
        rw [hr, HPL.out]
        exact G2.out
    · obtain rfl : k = l.length := by omega
      have hr := HR.out.trans (scanF_end HSC.out)
      clear hg hb
      go_wp2_with fail
      go_ret
      refine ⟨_, rfl, ?_, HB.out⟩
      rw [hr, HPL.out]
      exact HG.out

theorem two_setC {w w' : World} {g : Nat} (h : Below g w w') (a b : Value) : Below g w ((w'.setCell ⟨g, 0, none⟩ a).setCell ⟨g, 1, none⟩ b) :=
  (h.setCell (p := ⟨g, 0, none⟩) (Nat.le_refl _) a).setCell (p := ⟨g, 1, none⟩) (Nat.le_refl _) b
theorem Bx.c2 {w : World} {n : Nat} {T : TypeId} {a b : Value} (h : Bx w n T #[a, b]) : (w.cell? ⟨n, 0, none⟩ = some a ∧ w.cell? ⟨n, 1, none⟩ = some b) ∧ (w.frozen? ⟨n, 0, none⟩ = false ∧ w.frozen? ⟨n, 1, none⟩ = false) :=
  ⟨⟨h.cell 0, h.cell 1⟩, h.frozen 0, h.frozen 1⟩
theorem own_two {w : World} {g lo n sz : Nat} {v : Value} {xs : List Value} (h : Own w lo v n sz xs) (hg : g < lo) (a b : Value) : Own ((w.setCell ⟨g, 0, none⟩ a).setCell ⟨g, 1, none⟩ b) g v n sz xs := by
  have h1 := h.other ⟨g, 0, none⟩ a (fun k hk => by have := (h.blk k hk).1; simp; omega)
  have h2 := h1.other ⟨g, 1, none⟩ b (fun k hk => by have := (h.blk k hk).1; simp; omega)
  exact h2.lower (by omega)

set_option maxRecDepth 100000 in
set_option maxHeartbeats 2000000 in
theorem specScan (v : Value) (l : List ByteArray) (w : World) (h : Rd w v l.length 1 (strs l)) (hn : l.length ≤ 1048576) (hz : FitZ l) :
    Calls Tryd.prog 50 #[v] w (MadeC (scanR l) w) := by
  obtain ⟨a, c, rfl, -⟩ := id h.2
  have HV := Lib.hid h
  clear h
  have Y := Lib.hid (bx_new w 66 #[.slice none 0 0, .int .i64 0])
  have B := Lib.hid (below_alloc1 w (.cells #[.slice none 0 0, .int .i64 0] 66))
  have z0 := size_alloc1 w (.cells #[.slice none 0 0, .int .i64 0] 66)
  obtain ⟨R, hR⟩ : ∃ R, R = scanR l := ⟨_, rfl⟩
  rw [← hR]
  unfold scanR at hR
  by_cases hbig : 24 < l.length
  · rw [if_pos hbig] at hR
    subst hR
    have d0 : decide ((24 : Int) < (l.length : Int)) = true := decide_eq_true (by omega)
    go_enter Tryd.func50, Tryd.ntmps50
    go_wp2_with fail
    refine bodyPost_ret (v := .agg #[.slice none 0 0, .int .i64 0]) (by simp [results, Tryd.results50, go_sem]) rfl ⟨_, rfl, own_nil _ _ _ _ _, ?_⟩
    exact below_alloc1 w _
  rw [if_neg hbig] at hR
  have d0 : decide ((24 : Int) < (l.length : Int)) = false := decide_eq_false (by omega)
  have hlen := scanF_len l 0
  have HL := Lib.hid (fun w h => specL09 (.slice a l.length c) l w h hn hz)
  obtain ⟨F, hF⟩ : ∃ F, F = scanF l 0 := ⟨_, rfl⟩
  rw [← hF] at hR hlen HL
  have HR := Lib.hid hR
  clear hR hF
  go_enter Tryd.func50, Tryd.ntmps50
  go_wp2_with fail
  generalize w.alloc (.cells #[.slice none 0 0, .int .i64 0] 66) = W0 at *
  refine (HL.out W0 (HV.out.below B.out (Nat.le_refl _))).mono ?_
  rintro e w1 ⟨v1, rfl, hg, hb⟩
  obtain ⟨a1, c1, rfl⟩ := gr_form hg
  have G := Lib.hid hg.own
  replace Y := Lib.hid (Y.out.next hb)
  replace B := Lib.hid (below_more B.out hb)
  clear hg hb HL
  go_wp2_with fail
  refine (specKept _ F w1 G.out.rd (by omega)).mono ?_
  rintro e w2 ⟨rfl, hb⟩
  replace Y := Lib.hid (Y.out.next hb)
  replace B := Lib.hid (below_more B.out hb)
  replace G := Lib.hid (G.out.below hb (Nat.le_refl _))
  clear hb
  obtain ⟨⟨y0, y1⟩, f0, f1⟩ := Y.out.c2
  generalize (keptS F : Int) = K at *
  go_wp2_with fail
  refine bodyPost_ret (v := .agg #[.slice a1 F.length c1, .int .i64 K]) (by simp [results, Tryd.results50, go_sem, y0, y1]) rfl ⟨.slice a1 F.length c1, by rw [HR.out], ?_, two_setC B.out _ _⟩
  rw [HR.out]
  exact own_two G.out (by omega) _ _

def stpA (x : stpT) : Array Value := #[.agg #[.int .i64 x.1, .int .i64 x.2.1, .int .i64 x.2.2.1, .string x.2.2.2]]
/-- Texts in a block below n₀. -/
def LowZ (n₀ : Nat) (W : World) (sv : Value) (l : List ByteArray) : Prop :=
  ∃ a c, sv = .slice a l.length c ∧ (0 < l.length → ∃ b off, a = some ⟨b, off, none⟩ ∧ b < n₀ ∧ ∀ j (hj : j < l.length), W.cell? ⟨b, off + j, none⟩ = some (.string l[j]))
theorem LowZ.below {n₀ : Nat} {A B : World} {sv : Value} {l : List ByteArray} (h : LowZ n₀ A sv l) (hb : Below n₀ A B) : LowZ n₀ B sv l := by
  obtain ⟨a, c, rfl, h⟩ := h
  refine ⟨a, c, rfl, fun h0 => ?_⟩
  obtain ⟨b, off, rfl, h1, h2⟩ := h h0
  exact ⟨b, off, rfl, h1, fun j hj => (hb.cell (p := ⟨b, off + j, none⟩) h1).trans (h2 j hj)⟩
theorem lowZ_of_rd {W : World} {sv : Value} {l : List ByteArray} (h : Rd W sv l.length 1 (strs l)) : LowZ W.heap.size W sv l := by
  obtain ⟨_, a, c, rfl, h⟩ := h
  refine ⟨a, c, rfl, fun h0 => ?_⟩
  obtain ⟨b, off, rfl, h1, h2⟩ := h h0
  exact ⟨b, off, rfl, h1, fun j hj => by rw [h2 j (by omega), strs_at l j hj]⟩
def RcRel (l : List ByteArray) (n₀ : Nat) (W : World) (J : List stpT → World → Prop) (i : Value) (wr : World) : Prop :=
  ∃ (k : Nat) (pre : List stpT), k ≤ l.length ∧ pre.length = k ∧ i = .int .i64 k ∧ scanF l 0 = pre ++ scanF (l.drop k) k ∧ J pre wr ∧ Below n₀ W wr
set_option maxRecDepth 100000 in
set_option maxHeartbeats 4000000 in
theorem records1_in (n : Nat) (hn : 1 ≤ n) (lp Bs n₀ B0 : Nat) (sv : Value) (l : List ByteArray) (hz : l.length ≤ 1048576) (J Jx : List stpT → World → Prop) (hJ : AbidesFrom B0 J) (W : World)
    (hRR : ∀ (j : Nat) (hj : j < l.length) (W' : World), Below n₀ W W' → Calls Tryd.prog 48 #[.string l[j], .int .i64 (j : Int)] W' fun e w' => e = .returned (soV (recRd l[j] (j : Int))) ∧ Below W'.heap.size W' w')
    (hY : ∀ pre x W, J pre W → pre.length < l.length → YieldAt Fence.wide (n - 1) Tryd.prog lp (stpA x) W fun e W' =>
      (e = .returned (.bool true) ∧ J (pre ++ [x]) W' ∧ Below n₀ W W') ∨ (e = .returned (.bool false) ∧ Jx (pre ++ [x]) W'))
    (hBs : W.cell? ⟨Bs, 0, none⟩ = some sv) (hlow : Bs < n₀) (hn₀ : n₀ ≤ W.heap.size) (hL : LowZ n₀ W sv l) (h0 : J [] W) :
    CallsIn Fence.wide n Tryd.prog 115 #[.func (.yield lp) #[] #[], .pointer (some ⟨Bs, 0, none⟩)] W fun e W' => (∃ v, e = .returned v) ∧
      ((∃ ys, ys = scanF l 0 ∧ J ys W') ∨ (∃ pre, pre <+: scanF l 0 ∧ Jx pre W')) := by
  obtain ⟨a, c, rfl, hcl⟩ := id hL
  have HL := Lib.hid hL
  have HC := Lib.hid hcl
  have HRR := Lib.hid hRR
  have HJ := Lib.hid hJ
  clear hL hcl hRR hJ
  refine callsIn_of_wp Tryd.func115 rfl trivial ?_ rfl
  simp only [Tryd.ntmps115, List.size_toArray, List.length_cons, List.length_nil, Nat.reduceAdd, Nat.reduceSub, Array.replicate_succ, Array.replicate_zero, List.push_toArray, List.append_toArray, List.nil_append, List.cons_append]
  gi_wp2
  gi_loopw [8] (fun i wr => RcRel l n₀ W J i wr) (fun i _ => l.length - (intOf i).toNat)
  case atStart => exact ⟨0, [], Nat.zero_le _, rfl, rfl, by simp, h0, Below.refl _ _⟩
  case round =>
    obtain ⟨k, pre, hk, hpl, rfl, hsc, hJ, hb⟩ := hrel
    have HPL := Lib.hid hpl
    have HSC := Lib.hid hsc
    have HB := Lib.hid hb
    have HJ1 := Lib.hid hJ
    clear hsc hpl
    by_cases hlt : k < l.length
    · obtain ⟨b, off, rfl, hb0, hcell⟩ := HC.out (by omega)
      have hck : wr.cell? ⟨b, off + k, none⟩ = some (.string l[k]) := (hb.cell (p := ⟨b, off + k, none⟩) hb0).trans (hcell k hlt)
      have e0 : (k : Int) < (l.length : Int) := by omega
      have e1 : (0 : Int) ≤ (k : Int) := by omega
      have RR := Lib.hid (fun W' => HRR.out k hlt W')
      have GO := Lib.hid (scanF_go HSC.out hlt)
      have ST := Lib.hid (scanF_stop HSC.out hlt)
      have hpre : pre.length < l.length := by have := HPL.out; omega
      clear hcell hb hJ
      obtain ⟨X, hX⟩ : ∃ X, X = recRd l[k] (k : Int) := ⟨_, rfl⟩
      rw [← hX] at RR GO ST
      clear hX
      obtain ⟨⟨sk, st, sf, sd⟩, sc⟩ := X
      unfold soV at RR
      dsimp only at RR GO ST
      generalize l[k] = x at *
      by_cases hc : sc = 0
      · subst hc
        replace GO := Lib.hid (GO.out (by first | rfl | trivial))
        clear ST
        gi_wp2_with (refine ⟨trivial, ?_⟩; gi_at_call 48; refine (callsIn_wide.2 (RR.out _ HB.out)).mono ?_; rintro e w2 ⟨rfl, hb2⟩; have bz := below_alloc1 w2 (.cells #[.int .i64 sk, .int .i64 st, .int .i64 sf, .string sd, .int .i64 0] 46); have hbb := below_more hb2 bz; have XX := Lib.hid (bx_new w2 46 #[.int .i64 sk, .int .i64 st, .int .i64 sf, .string sd, .int .i64 0]); have B2 := Lib.hid (HB.out.trans (hbb.mono (Nat.le_trans hn₀ HB.out.size))); have J2 := Lib.hid (HJ.out _ _ _ none HJ1.out (grown_of_below hbb) (fun r e => by cases e)); clear hb2 bz hbb; obtain ⟨x0, x1, x2, x3, x4⟩ := XX.out.s0; obtain ⟨fn, tmps, assign, body, hy, hR⟩ := hY pre (sk, st, sf, sd) _ J2.out hpre; unfold stpA at hy; dsimp only at hy)
        refine hR.mono ?_
        rintro e W3 (⟨rfl, hJ3, hk3⟩ | ⟨rfl, hJx3⟩)
        · have J3 := Lib.hid hJ3
          have B3 := Lib.hid (B2.out.trans hk3)
          clear hJ3 hk3
          gi_wp2
          go_roundw
          case rel => exact ⟨k + 1, _, by omega, by rw [List.length_append, HPL.out]; rfl, by go_num, GO.out, J3.out, B3.out⟩
          case measure => simp [intOf]; omega
        · have J3 := Lib.hid hJx3
          clear hJx3
          gi_wp2
          refine bodyPost_ret (results_none rfl _ _ _) rfl ?_
          exact ⟨⟨_, rfl⟩, .inr ⟨_, ⟨_, GO.out.symm⟩, J3.out⟩⟩
      · have dc : (sc != 0) = true := by simpa using hc
        have hall := ST.out hc
        clear GO ST hc
        gi_wp2_with (refine ⟨trivial, ?_⟩; gi_at_call 48; refine (callsIn_wide.2 (RR.out _ HB.out)).mono ?_; rintro e w2 ⟨rfl, hb2⟩; have bz := below_alloc1 w2 (.cells #[.int .i64 sk, .int .i64 st, .int .i64 sf, .string sd, .int .i64 sc] 46); have hbb := below_more hb2 bz; have XX := Lib.hid (bx_new w2 46 #[.int .i64 sk, .int .i64 st, .int .i64 sf, .string sd, .int .i64 sc]); have B2 := Lib.hid (HB.out.trans (hbb.mono (Nat.le_trans hn₀ HB.out.size))); have J2 := Lib.hid (HJ.out _ _ _ none HJ1.out (grown_of_below hbb) (fun r e => by cases e)); clear hb2 bz hbb; obtain ⟨x0, x1, x2, x3, x4⟩ := XX.out.s0)
        refine ⟨fun f h => (by cases h), ?_⟩
        gi_wp2
        refine bodyPost_ret (results_none rfl _ _ _) rfl ?_
        exact ⟨⟨_, rfl⟩, .inl ⟨pre, hall.symm, J2.out⟩⟩
    · obtain rfl : k = l.length := by omega
      have hall := scanF_end HSC.out
      gi_wp2
      go_end0
      exact ⟨⟨_, rfl⟩, .inl ⟨pre, hall.symm, HJ1.out⟩⟩
set_option maxHeartbeats 1000000 in
theorem records_in (n : Nat) (a : Option Addr) (len cap : Nat) (w : World) :
    CallsIn Fence.wide n Tryd.prog 98 #[.slice a len cap] w fun e w' => e = .returned (.func (.func 115) #[] #[.pointer (some ⟨w.heap.size, 0, none⟩)]) ∧ w' = w.alloc (.cells #[.slice a len cap] 63) := by
  refine callsIn_of_wp Tryd.func98 rfl trivial ?_ rfl
  simp only [Tryd.ntmps98, List.size_toArray, List.length_cons, List.length_nil, Nat.reduceAdd, Nat.reduceSub, Array.replicate_succ, Array.replicate_zero, List.push_toArray, List.append_toArray, List.nil_append, List.cons_append]
  gi_wp2
  go_ret
  exact ⟨rfl, rfl⟩
theorem records_stops (n : Nat) (hn : 1 ≤ n) (Bs n₀ : Nat) (sv : Value) (l : List ByteArray) (hz : l.length ≤ 1048576) (w : World) (hBs : Bs < n₀) (hn₀ : n₀ ≤ w.heap.size)
    (hRR : ∀ (j : Nat) (hj : j < l.length) (W' : World), Below n₀ w W' → Calls Tryd.prog 48 #[.string l[j], .int .i64 (j : Int)] W' fun e w' => e = .returned (soV (recRd l[j] (j : Int))) ∧ Below W'.heap.size W' w')
    (hc : w.cell? ⟨Bs, 0, none⟩ = some sv) (hL : LowZ n₀ w sv l) :
    SeqStopsK Fence.wide n Tryd.prog 115 #[.pointer (some ⟨Bs, 0, none⟩)] stpA (Below n₀) (fun ys => ys = scanF l 0) (fun pre => pre <+: scanF l 0) l.length w := fun lp J Jx W hW hJ _ hY h0 =>
  records1_in n hn lp Bs n₀ W.heap.size sv l hz J Jx hJ W (fun j hj W' hb => hRR j hj W' ((hW.mono hn₀).trans hb)) hY ((hW.cell (p := ⟨Bs, 0, none⟩) (Nat.lt_of_lt_of_le hBs hn₀)).trans hc) hBs (Nat.le_trans hn₀ hW.size) (hL.below (hW.mono hn₀)) h0
theorem bx_keptS {W W' : World} {b : Nat} {T : TypeId} {vs : Array Value} {row : Option Nat} (h : Bx W b T vs) (hg : W.grownBy W' row) (hr : ∀ r, row = some r → ∃ o : Obj, W.heap[r]? = some o ∧ o.isCells = false) : Bx W' b T vs :=
  h.grown hg (fun e => by obtain ⟨o, ho, hc⟩ := hr b e.symm; rw [show W.heap[b]? = _ from h] at ho; cases ho; cases hc)
set_option maxRecDepth 100000 in
set_option maxHeartbeats 4000000 in
theorem appendSteps_in (n : Nat) (hn : 3 ≤ n) (Bs : Nat) (sv : Value) (l : List ByteArray) (hz : l.length ≤ 1048576) (w : World) (hBs : Bs < w.heap.size)
    (hRR : ∀ (j : Nat) (hj : j < l.length) (W' : World), Below w.heap.size w W' → Calls Tryd.prog 48 #[.string l[j], .int .i64 (j : Int)] W' fun e w' => e = .returned (soV (recRd l[j] (j : Int))) ∧ Below W'.heap.size W' w')
    (hc : w.cell? ⟨Bs, 0, none⟩ = some sv) (hL : LowZ w.heap.size w sv l) :
    CallsIn Fence.wide n Tryd.prog 114 #[.slice none 0 0, .func (.func 115) #[] #[.pointer (some ⟨Bs, 0, none⟩)]] w fun e W' => ∃ v, e = .returned v ∧ W'.ownsRow w.heap.size 41 4 v (scanF l 0).length (stpCs (scanF l 0)) ∧ Below w.heap.size w W' := by
  have h1 : 1 ≤ n := by omega
  have HRR := Lib.hid hRR
  clear hRR
  obtain ⟨i0, hi, hz0, hz1, hz2⟩ := info_parts Tryd.infostp
  refine callsIn_of_wp_marks Tryd.func114 rfl trivial ?_ rfl
  simp only [Tryd.ntmps114, List.size_toArray, List.length_cons, List.length_nil, Nat.reduceAdd, Nat.reduceSub, Array.replicate_succ, Array.replicate_zero, List.push_toArray, List.append_toArray, List.nil_append, List.cons_append]
  gi_wp2
  have bS := Boxed.new w 48 (.slice none 0 0)
  have hB0 := below_alloc1 w (.cells #[.slice none 0 0] 48)
  have hsz := size_alloc1 w (.cells #[.slice none 0 0] 48)
  obtain ⟨W0, hW0⟩ : ∃ W0, w.alloc (.cells #[.slice none 0 0] 48) = W0 := ⟨_, rfl⟩
  rw [hW0] at bS hB0 hsz ⊢
  clear hW0
  refine wpIn_rangeFunc_ownH rfl h1 (gf := 115) (lb := #[.pointer (some ⟨Bs, 0, none⟩)]) rfl trivial (enters_of Tryd.func115 (by kernel_rfl) rfl)
    (records_stops (n - 1) (by omega) Bs w.heap.size sv l hz W0 hBs hB0.size (fun j hj W' hb => HRR.out j hj W' (hB0.trans hb)) ((hB0.cell (p := ⟨Bs, 0, none⟩) hBs).trans hc) (hL.below hB0)) belowK_t (belowK_b (by omega)) (Below.refl _ _) (fun _ => rfl)
    (fun pre W => (∃ v, Boxed W w.heap.size 48 v ∧ W.ownsRow w.heap.size 41 4 v pre.length (stpCs pre) ∧ True) ∧ Below w.heap.size w W)
    (fun _ _ _ => False)
    (OwnFrom.and ((holdsRow_own w.heap.size w.heap.size 48 41 4 (fun pre : List stpT => pre.length) (fun pre => stpCs pre) (fun _ _ => True)).from _) (ownFrom_below (Nat.le_refl _) (by omega)))
    (fun _ _ _ _ _ hs _ _ => hs)
    ⟨⟨_, bS, World.ownsRow_nil _ _ _ _, trivial⟩, hB0⟩
    (fun x a' W => ∃ b, w.heap.size < b ∧ Bx W b 41 #[.int .i64 x.1, .int .i64 x.2.1, .int .i64 x.2.2.1, .string x.2.2.2] ∧ a' = { tmps := #[.slice none 0 0, .func (.func 115) #[] #[.pointer (some ⟨Bs, 0, none⟩)], .pointer (some ⟨w.heap.size, 0, none⟩), undef, .slice none 0 0, .pointer (some ⟨b, 0, none⟩), .func (.func 115) #[] #[.pointer (some ⟨Bs, 0, none⟩)], .agg #[.int .i64 x.1, .int .i64 x.2.1, .int .i64 x.2.2.1, .string x.2.2.2], undef, undef, undef, undef, undef], defers := [] })
    (fun x a' _ X Y row hs hg hr => by obtain ⟨b, h1, h2, h3⟩ := hs; exact ⟨b, h1, bx_keptS h2 hg (fun r e => (hr r e).2), h3⟩)
    ?assign ?body ?done ?stop
  case assign =>
    rintro lp pre x W K ⟨⟨v, hv, hrow, -⟩, hB1⟩ hK
    unfold stpA
    gi_wp2
    refine hK _ _ ((KeepsOthers.alloc _ _).from _) ((Below.refl _ W).alloc hB1.size _) ⟨⟨v, hv.alloc _, hrow.alloc _, trivial⟩, hB1.alloc hB1.size _⟩ ⟨W.heap.size, hv.lt, bx_new W 41 #[.int .i64 x.1, .int .i64 x.2.1, .int .i64 x.2.2.1, .string x.2.2.2], rfl⟩
  case body =>
    rintro lp pre x a' W hl ⟨r, hr⟩ ⟨⟨v, hv, hrow, -⟩, hB1⟩ ⟨b, hb, bX, rfl⟩ hlt
    have cv := hv.cell
    have c0 := bX.q0
    have c1 := bX.q1
    have c2 := bX.q2
    have c3 := bX.q3
    gi_wp2_with (gi_at_builtin; refine wpListIn_append_own _ rfl _ _ 48 rfl w.heap.size 41 i0 _ 4 40 Tryd.underlying48 hi hz0 hz1 hz2 rfl (by decide) _ _ _ rfl (hrow.alloc _) ⟨W.heap.size, 0, none⟩ 1 1 [.int .i64 x.1, .int .i64 x.2.1, .int .i64 x.2.2.1, .string x.2.2.2] rfl rfl (four_new _ _ _ _ _ _) (by simp [Value.oneCell']) (by unfold maxLen; omega) (by omega) (by have := hB1.size; simp; omega) ?_; intro v' w1 hown' hgrow _; obtain ⟨g', cap', rfl⟩ := ownsRow_succ hown'; obtain ⟨hv1, hv2, hr2, hk2, hb2⟩ := hv.appended (by decide) hrow hB1.size (Nat.le_refl _) hown' hgrow; have hc1 := hv1.cell; have hf1 := hv1.frozen)
    refine ⟨hk2.from _, hb2, ⟨_, hv2, ?_, trivial⟩, hB1.trans hb2⟩
    rw [stpCs_snoc]
    simpa using hr2
  case done =>
    rintro D ys W hD rfl ⟨⟨v, hv, hrow, -⟩, hB⟩ hK
    have hc := hv.cell
    gi_wp2
    refine ⟨by simp, .inl ⟨_, _, rfl, run_takeDeferred hK, ?_⟩⟩
    exact ⟨_, results_tmp rfl _ _ _, v, rfl, ownsRow_putObj hrow _ hK rfl, hB.trans (belowK_b (w := w) (Nat.le_refl _) W D _ _ (by omega) hK rfl rfl)⟩
  case stop =>
    rintro D c pre W _ _ h _
    exact h.elim
set_option maxRecDepth 100000 in
set_option maxHeartbeats 1000000 in
theorem collectSteps (Bs : Nat) (sv : Value) (l : List ByteArray) (hz : l.length ≤ 1048576) (w : World) (hBs : Bs < w.heap.size)
    (hRR : ∀ (j : Nat) (hj : j < l.length) (W' : World), Below w.heap.size w W' → Calls Tryd.prog 48 #[.string l[j], .int .i64 (j : Int)] W' fun e w' => e = .returned (soV (recRd l[j] (j : Int))) ∧ Below W'.heap.size W' w')
    (hc : w.cell? ⟨Bs, 0, none⟩ = some sv) (hL : LowZ w.heap.size w sv l) :
    Calls Tryd.prog 97 #[.func (.func 115) #[] #[.pointer (some ⟨Bs, 0, none⟩)]] w (MadeRow w (scanF l 0).length 4 (stpCs (scanF l 0))) := by
  have H := Lib.hid ((callsIn_wide (n := 3)).1 (appendSteps_in 3 (by omega) Bs sv l hz w hBs hRR hc hL))
  clear hc hL hRR
  go_enter Tryd.func97, Tryd.ntmps97
  go_wp2_with fail
  refine H.out.mono ?_
  rintro e w1 ⟨v, rfl, hr, hb⟩
  have HR := Lib.hid (own_of_row hr)
  have HB := Lib.hid hb
  obtain ⟨a, c, rfl, -⟩ := id HR.out.2
  clear hr hb
  go_wp2_with fail
  go_ret
  exact ⟨_, rfl, HR.out, HB.out⟩
set_option maxRecDepth 100000 in
set_option maxHeartbeats 2000000 in
theorem implScan (v : Value) (l : List ByteArray) (aE : Nat → Addr) (w : World) (h : Rd w v l.length 1 (strs l)) (hn : l.length ≤ 1048576) (hz : FitZ l) (hL : Laid w) (hE : Sent w sealG aE) :
    Calls Tryd.prog 52 #[v] w (MadeC (scanR l) w) := by
  obtain ⟨a, c, rfl, -⟩ := id h.2
  have HV := Lib.hid h
  have HL := Lib.hid hL
  have HE := Lib.hid hE
  clear h hL hE
  have Y := Lib.hid (bx_new w 66 #[.slice none 0 0, .int .i64 0])
  have B := Lib.hid (below_alloc1 w (.cells #[.slice none 0 0, .int .i64 0] 66))
  have z0 := size_alloc1 w (.cells #[.slice none 0 0, .int .i64 0] 66)
  obtain ⟨R, hR⟩ : ∃ R, R = scanR l := ⟨_, rfl⟩
  rw [← hR]
  unfold scanR at hR
  by_cases hbig : 24 < l.length
  · rw [if_pos hbig] at hR
    subst hR
    have d0 : decide ((24 : Int) < (l.length : Int)) = true := decide_eq_true (by omega)
    go_enter Tryd.func52, Tryd.ntmps52
    go_wp2_with fail
    refine bodyPost_ret (v := .agg #[.slice none 0 0, .int .i64 0]) (by simp [results, Tryd.results52, go_sem]) rfl ⟨_, rfl, own_nil _ _ _ _ _, ?_⟩
    exact below_alloc1 w _
  rw [if_neg hbig] at hR
  have d0 : decide ((24 : Int) < (l.length : Int)) = false := decide_eq_false (by omega)
  have hlen := scanF_len l 0
  have RRA := Lib.hid (fun (j : Nat) (hj : j < l.length) (w : World) (hL : Laid w) (hE : Sent w sealG aE) => implRecRead l[j] (j : Int) aE w (hz _ (List.getElem_mem hj)) hL hE)
  have CS := Lib.hid (fun Bs w => collectSteps Bs (.slice a l.length c) l hn w)
  obtain ⟨F, hF⟩ : ∃ F, F = scanF l 0 := ⟨_, rfl⟩
  rw [← hF] at hR hlen CS
  have HR := Lib.hid hR
  clear hR hF
  go_enter Tryd.func52, Tryd.ntmps52
  go_wp2_with fail
  generalize w.alloc (.cells #[.slice none 0 0, .int .i64 0] 66) = W0 at *
  refine ((callsIn_wide (n := 3)).1 (records_in 3 a l.length c W0)).mono ?_
  rintro e w1 ⟨rfl, rfl⟩
  have bx := bx_new W0 63 #[.slice a l.length c]
  have hb := below_alloc1 W0 (.cells #[.slice a l.length c] 63)
  have hs1 := size_alloc1 W0 (.cells #[.slice a l.length c] 63)
  have bx0 := bx.cell 0
  rw [z0] at bx0
  have BXL := Lib.hid bx0
  clear bx0
  replace Y := Lib.hid (Y.out.next hb)
  replace B := Lib.hid (below_more B.out hb)
  clear hb bx
  go_wp2_with fail
  generalize W0.alloc (.cells #[.slice a l.length c] 63) = W1 at *
  refine (CS.out (w.heap.size + 1) W1 (by omega) (fun j hj W' hb => RRA.out j hj W' (HL.out.below (below_more B.out hb)) (HE.out.next (below_more B.out hb))) BXL.out (lowZ_of_rd (HV.out.below B.out (Nat.le_refl _)))).mono ?_
  rintro e w2 ⟨v2, rfl, ho2, hb⟩
  obtain ⟨a1, c1, rfl, -⟩ := id ho2.2
  have G := Lib.hid ho2
  have hsB := B.out.size
  replace Y := Lib.hid (Y.out.next hb)
  replace B := Lib.hid (below_more B.out hb)
  clear hb ho2 CS RRA BXL
  go_wp2_with fail
  refine (implKept _ F w2 G.out.rd (by omega)).mono ?_
  rintro e w3 ⟨rfl, hb⟩
  replace Y := Lib.hid (Y.out.next hb)
  replace B := Lib.hid (below_more B.out hb)
  replace G := Lib.hid (G.out.below hb (Nat.le_refl _))
  clear hb
  obtain ⟨⟨y0, y1⟩, f0, f1⟩ := Y.out.c2
  generalize (keptS F : Int) = K at *
  go_wp2_with fail
  refine bodyPost_ret (v := .agg #[.slice a1 F.length c1, .int .i64 K]) (by simp [results, Tryd.results52, go_sem, y0, y1]) rfl ⟨.slice a1 F.length c1, by rw [HR.out], ?_, two_setC B.out _ _⟩
  rw [HR.out]
  exact own_two G.out (by omega) _ _
end Go.Proofs.YthkbllkhomjmbaaDoor
