/- impl.runs: the iterator over the runs of a right list. -/
import Derived.RangeFuncNested
import Derived.RangeFuncBound
import Derived.RangeFuncCalls
import Derived.RangeFuncLeaves
import Derived.RangeFuncBox
import Derived.Shelf.Abstract
import Derived.Shelf.RegionOpen
import Derived.WalkKit
import Derived.OwnWalkIn
import Derived.TacticsInMore
import Derived.LoopNIn
import Derived.LoopIn
import Derived.Maps.AppendAt
import Derived.Test.YtmhmjofmafeidaaARunM
namespace Go.Proofs.Ytmhmjofmafeidaa
open Go.RowKit Go.Shelf
attribute [local go_sem] Oper.semAt_some

def extV (x : extT) : Array Value := #[.agg #[.int .i64 x.1, .int .i64 x.2]]
/-- The slice of numbers l, in a block below n₀ (or empty). -/
def LowL (n₀ : Nat) (W : World) (sv : Value) (l : List Int) : Prop :=
  ∃ a c, sv = .slice a l.length c ∧ (0 < l.length → ∃ b off, a = some ⟨b, off, none⟩ ∧ b < n₀ ∧ ∀ j, j < l.length → W.cell? ⟨b, off + j, none⟩ = some (.int .i64 (atL l j)))
theorem LowL.below {n₀ : Nat} {A B : World} {sv : Value} {l : List Int} (h : LowL n₀ A sv l) (hb : Below n₀ A B) : LowL n₀ B sv l := by
  obtain ⟨a, c, rfl, h⟩ := h
  refine ⟨a, c, rfl, fun h0 => ?_⟩
  obtain ⟨b, off, rfl, h1, h2⟩ := h h0
  exact ⟨b, off, rfl, h1, fun j hj => (hb.cell (p := ⟨b, off + j, none⟩) h1).trans (h2 j hj)⟩
theorem lowL_of_rd {W : World} {sv : Value} {l : List Int} (h : Rd W sv l.length 1 (ints l)) : LowL W.heap.size W sv l := by
  obtain ⟨_, a, c, rfl, h⟩ := h
  refine ⟨a, c, rfl, fun h0 => ?_⟩
  obtain ⟨b, off, rfl, h1, h2⟩ := h h0
  exact ⟨b, off, rfl, h1, fun j hj => by rw [h2 j (by omega), ints_at l j hj, atL_eq l j hj]⟩
def RunRel (l : List Int) (n₀ : Nat) (W : World) (J : List extT → World → Prop) (s i : Value) (wr : World) : Prop :=
  ∃ (k st : Nat) (pre : List extT), k ≤ l.length ∧ s = .int .i64 st ∧ i = .int .i64 k ∧ RunSt l k st pre ∧ J pre wr ∧ Below n₀ W wr
set_option maxRecDepth 100000 in
set_option maxHeartbeats 4000000 in
theorem runs1_in (F : Fence) (n : Nat) (hF : F.fn 64) (hro : F.round = none) (hn : 1 ≤ n) (lp Bs n₀ : Nat) (sv : Value) (l : List Int) (ho : okL l = true) (J Jx : List extT → World → Prop)
    (hY : ∀ pre x W, goodE x = true → J pre W → pre.length < l.length → YieldAt F (n - 1) Try.prog lp (extV x) W fun e W' =>
      (e = .returned (.bool true) ∧ J (pre ++ [x]) W' ∧ Below n₀ W W') ∨ (e = .returned (.bool false) ∧ Jx (pre ++ [x]) W'))
    (W : World) (hBs : W.cell? ⟨Bs, 0, none⟩ = some sv) (hlow : Bs < n₀) (hL : LowL n₀ W sv l) (h0 : J [] W) :
    CallsIn F n Try.prog 64 #[.func (.yield lp) #[] #[], .pointer (some ⟨Bs, 0, none⟩)] W fun e W' => (∃ v, e = .returned v) ∧
      ((∃ ys, ys = runsL l ∧ J ys W') ∨ (∃ pre, pre <+: runsL l ∧ Jx pre W')) := by
  obtain ⟨a, c, rfl, hcl⟩ := id hL
  have hlen := okL_len l ho
  have HL := Lib.hid hL
  have HC := Lib.hid hcl
  clear hL hcl
  refine callsIn_of_wp Try.func64 rfl hF ?_ hro
  simp only [Try.ntmps64, List.size_toArray, List.length_cons, List.length_nil, Nat.reduceAdd, Nat.reduceSub, Array.replicate_succ, Array.replicate_zero, List.push_toArray, List.append_toArray, List.nil_append, List.cons_append]
  gi_wp2
  gi_loopw [3, 9] (fun s i wr => RunRel l n₀ W J s i wr) (fun _ i _ => l.length - (intOf i).toNat)
  case atStart => exact ⟨0, 0, [], Nat.zero_le _, rfl, rfl, RunSt.zero l, h0, Below.refl _ _⟩
  case round =>
    obtain ⟨k, st, pre, hk, rfl, rfl, hst, hJ, hb⟩ := hrel
    have HST := Lib.hid hst
    have hbs : wr.cell? ⟨Bs, 0, none⟩ = some (.slice a l.length c) := (hb.cell (p := ⟨Bs, 0, none⟩) hlow).trans hBs
    have hle := hst.le
    by_cases hlt : k < l.length
    · obtain ⟨b, off, rfl, hb0, hcell⟩ := HC.out (by omega)
      have hck : wr.cell? ⟨b, off + k, none⟩ = some (.int .i64 (atL l k)) := (hb.cell (p := ⟨b, off + k, none⟩) hb0).trans (hcell k hlt)
      have hcs : wr.cell? ⟨b, off + st, none⟩ = some (.int .i64 (atL l st)) := (hb.cell (p := ⟨b, off + st, none⟩) hb0).trans (hcell st (by omega))
      have hbk := okL_at l ho k hlt
      rw [← atL_eq l k hlt] at hbk
      have e0 : (k : Int) < (l.length : Int) := by omega
      have e1 : (0 : Int) ≤ (k : Int) := by omega
      have e2 : (0 : Int) ≤ (st : Int) := by omega
      have e3 : (st : Int) < (l.length : Int) := by omega
      have HB := Lib.hid hb
      by_cases hcon : k + 1 < l.length ∧ atL l (k + 1) = atL l k + 1
      · obtain ⟨h1, h2⟩ := hcon
        have hc1 : wr.cell? ⟨b, off + (k + 1), none⟩ = some (.int .i64 (atL l (k + 1))) := (hb.cell (p := ⟨b, off + (k + 1), none⟩) hb0).trans (hcell (k + 1) h1)
        rw [h2] at hc1
        have HS := Lib.hid (hst.go hlt h1 ((contB_iff l (k + 1)).2 ⟨by omega, by simpa using h2.symm⟩))
        clear hcell hb hst h2
        generalize atL l k = x at *
        have d1 : decide ((k : Int) + 1 < (l.length : Int)) = true := decide_eq_true (by omega)
        have d2 : (0 : Int) ≤ (k : Int) + 1 := by omega
        have d4 : ((k : Int) + 1).toNat = k + 1 := by omega
        gi_wp2
        go_roundw
        case rel => exact ⟨k + 1, st, pre, by omega, rfl, by go_num, HS.out, hJ, HB.out⟩
        case measure => simp [intOf]; omega
      · have hcut : k + 1 < l.length → contB l (k + 1) = false := fun h => by
          cases hx : contB l (k + 1) with
          | false => rfl
          | true => exact absurd ⟨h, (by simpa using ((contB_iff l (k + 1)).1 hx).2.symm)⟩ hcon
        have HS := Lib.hid (hst.cut hlt hcut)
        have hfew := hst.few hlt
        have hgx : goodE (atL l st, ((k + 1 - st : Nat) : Int)) = true := (rT_ends l ho (k + 1) (by omega)).1 _ (by rw [hst.step hlt]; simp)
        rw [show ((k + 1 - st : Nat) : Int) = (k : Int) + 1 - (st : Int) by omega] at HS hgx
        obtain ⟨fn, tmps, assign, body, hy, hR⟩ := hY pre (atL l st, (k : Int) + 1 - (st : Int)) wr hgx hJ hfew
        clear hgx
        unfold extV at hy
        dsimp only at hy
        have hw : wrap64 ((k : Int) + 1 - (st : Int)) = (k : Int) + 1 - (st : Int) := IntWalk.wrap64_in _ (by omega)
        by_cases h1 : k + 1 < l.length
        · have hc1 : wr.cell? ⟨b, off + (k + 1), none⟩ = some (.int .i64 (atL l (k + 1))) := (hb.cell (p := ⟨b, off + (k + 1), none⟩) hb0).trans (hcell (k + 1) h1)
          have d1 : decide ((k : Int) + 1 < (l.length : Int)) = true := decide_eq_true (by omega)
          have d2 : (0 : Int) ≤ (k : Int) + 1 := by omega
          have d4 : ((k : Int) + 1).toNat = k + 1 := by omega
          have d3 : decide (atL l (k + 1) = atL l k + 1) = false := decide_eq_false (fun h => hcon ⟨h1, h⟩)
          have d5 : (atL l (k + 1) == atL l k + 1) = false := by simp; exact fun h => hcon ⟨h1, h⟩
          clear hcell hb hst hcut hcon
          gi_wp2
          refine hR.mono ?_
          rintro e W3 (⟨rfl, hJ3, hk3⟩ | ⟨rfl, hJx3⟩)
          · gi_wp2
            go_roundw
            case rel => exact ⟨k + 1, k + 1, _, by omega, by go_num, by go_num, HS.out, hJ3, HB.out.trans hk3⟩
            case measure => simp [intOf]; omega
          · gi_wp2
            refine bodyPost_ret (results_none rfl _ _ _) rfl ?_
            exact ⟨⟨_, rfl⟩, .inr ⟨_, HS.out.pre (by omega), hJx3⟩⟩
        · have d1 : decide ((k : Int) + 1 < (l.length : Int)) = false := decide_eq_false (by omega)
          clear hcell hb hst hcut hcon
          gi_wp2
          refine hR.mono ?_
          rintro e W3 (⟨rfl, hJ3, hk3⟩ | ⟨rfl, hJx3⟩)
          · gi_wp2
            go_roundw
            case rel => exact ⟨k + 1, k + 1, _, by omega, by go_num, by go_num, HS.out, hJ3, HB.out.trans hk3⟩
            case measure => simp [intOf]; omega
          · gi_wp2
            refine bodyPost_ret (results_none rfl _ _ _) rfl ?_
            exact ⟨⟨_, rfl⟩, .inr ⟨_, HS.out.pre (by omega), hJx3⟩⟩
    · obtain rfl : k = l.length := by omega
      have hall := hst.all
      gi_wp2
      go_end0
      exact ⟨⟨_, rfl⟩, .inl ⟨pre, hall, hJ⟩⟩
set_option maxHeartbeats 1000000 in
theorem runs_in (F : Fence) (n : Nat) (hF : F.fn 47) (hro : F.round = none) (a : Option Addr) (len cap : Nat) (w : World) :
    CallsIn F n Try.prog 47 #[.slice a len cap] w fun e w' => e = .returned (.func (.func 64) #[] #[.pointer (some ⟨w.heap.size, 0, none⟩)]) ∧ w' = w.alloc (.cells #[.slice a len cap] 23) := by
  refine callsIn_of_wp Try.func47 rfl hF ?_ hro
  simp only [Try.ntmps47, List.size_toArray, List.length_cons, List.length_nil, Nat.reduceAdd, Nat.reduceSub, Array.replicate_succ, Array.replicate_zero, List.push_toArray, List.append_toArray, List.nil_append, List.cons_append]
  gi_wp2
  go_ret
  exact ⟨rfl, rfl⟩
theorem runs_stops (F : Fence) (n : Nat) (hF : F.fn 64) (hro : F.round = none) (hn : 1 ≤ n) (Bs n₀ : Nat) (sv : Value) (l : List Int) (ho : okL l = true) (w : World) (hBs : Bs < n₀) (hn₀ : n₀ ≤ w.heap.size)
    (hc : w.cell? ⟨Bs, 0, none⟩ = some sv) (hL : LowL n₀ w sv l) :
    SeqStopsK F n Try.prog 64 #[.pointer (some ⟨Bs, 0, none⟩)] extV (Below n₀) (fun ys => ys = runsL l) (fun pre => pre <+: runsL l) l.length w := fun lp J Jx W hW _ _ hY h0 =>
  runs1_in F n hF hro hn lp Bs n₀ sv l ho J Jx (fun pre x W _ => hY pre x W) W ((hW.cell (p := ⟨Bs, 0, none⟩) (Nat.lt_of_lt_of_le hBs hn₀)).trans hc) hBs (hL.below (hW.mono hn₀)) h0
abbrev gE := { x : extT // goodE x = true }
/-- The same over good extents. -/
theorem runs_stopsG (F : Fence) (n : Nat) (hF : F.fn 64) (hro : F.round = none) (hn : 1 ≤ n) (Bs n₀ : Nat) (sv : Value) (l : List Int) (ho : okL l = true) (w : World) (hBs : Bs < n₀) (hn₀ : n₀ ≤ w.heap.size)
    (hc : w.cell? ⟨Bs, 0, none⟩ = some sv) (hL : LowL n₀ w sv l) :
    SeqStopsK F n Try.prog 64 #[.pointer (some ⟨Bs, 0, none⟩)] (fun x : gE => extV x.1) (Below n₀) (fun ys => ys.map Subtype.val = runsL l) (fun pre => pre.map Subtype.val <+: runsL l) l.length w := fun lp J Jx W hW _ _ hY h0 => by
  refine (runs1_in F n hF hro hn lp Bs n₀ sv l ho (fun pre W => ∃ q : List gE, q.map Subtype.val = pre ∧ J q W) (fun pre W => ∃ q : List gE, q.map Subtype.val = pre ∧ Jx q W) ?_ W ((hW.cell (p := ⟨Bs, 0, none⟩) (Nat.lt_of_lt_of_le hBs hn₀)).trans hc) hBs (hL.below (hW.mono hn₀)) ⟨[], rfl, h0⟩).mono ?_
  · rintro pre x W2 hg ⟨q, rfl, hq⟩ hlen
    refine (hY q ⟨x, hg⟩ W2 hq (by simpa using hlen)).mono ?_
    rintro e W' (⟨rfl, hj, hb⟩ | ⟨rfl, hj⟩)
    · exact .inl ⟨rfl, ⟨_, by simp, hj⟩, hb⟩
    · exact .inr ⟨rfl, ⟨_, by simp, hj⟩⟩
  · rintro e W' ⟨he, ⟨ys, rfl, q, hq, hj⟩ | ⟨pre, hp, q, rfl, hj⟩⟩
    · exact ⟨he, .inl ⟨q, hq, hj⟩⟩
    · exact ⟨he, .inr ⟨q, hp, hj⟩⟩
end Go.Proofs.Ytmhmjofmafeidaa
