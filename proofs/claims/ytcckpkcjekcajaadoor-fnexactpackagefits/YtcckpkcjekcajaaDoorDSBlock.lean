/- The model's digest: one block. -/
import Derived.Test.YtcckpkcjekcajaaDoorM4
import Derived.Deep.AppendLies
namespace Go.Proofs.YtcckpkcjekcajaaDoor
open Go.RowKit

theorem w_word' (b : ByteArray) (k : Nat) (h : 4 * k + 3 < b.size) :
    bits BinOp.or IntKind.u32 (bits BinOp.or IntKind.u32 (bits BinOp.or IntKind.u32 (IntKind.u32.wrap (IntKind.u32.wrap ((b[4 * k]'(by omega)).toNat : Int) * 16777216)) (IntKind.u32.wrap (IntKind.u32.wrap ((b[4 * k + 1]'(by omega)).toNat : Int) * 65536))) (IntKind.u32.wrap (IntKind.u32.wrap ((b[4 * k + 2]'(by omega)).toNat : Int) * 256))) (IntKind.u32.wrap ((b[4 * k + 3]'h).toNat : Int)) = ((word (fun j => b.data.toList.getD j 0) k).toNat : Int) := by
  have e (x : UInt8) : IntKind.u32.wrap (x.toNat : Int) = (x.toNat : Int) := by
    have := x.toNat_lt; rw [IntKind.wrap_u32]; omega
  rw [e, e, e, e, IntKind.wrap_u32, IntKind.wrap_u32, IntKind.wrap_u32]
  exact w_word b k h
theorem _root_.Go.World.ownsRow.blt {w : World} {base e g n cap : Nat} {xs : List Value} (h : w.ownsRow base e 1 (.slice (some ⟨g, 0, none⟩) n cap) n xs) : g < w.heap.size := (h.lt g rfl).2
theorem u32_sum (x y : UInt32) : IntKind.u32.wrap ((x.toNat : Int) + (y.toNat : Int)) = ((wsum x y).toNat : Int) := u32_add x y
def SB1 (w : World) (c : Nat → UInt8) (i : Value) (wr : World) : Prop :=
  ∃ k : Nat, k ≤ 16 ∧ i = .int .i64 k ∧ Words wr w.heap.size 99 64 (fun j => if j < k then sched c j else 0) ∧ Below w.heap.size w wr
def SB2 (w : World) (c : Nat → UInt8) (i : Value) (wr : World) : Prop :=
  ∃ k : Nat, 16 ≤ k ∧ k ≤ 64 ∧ i = .int .i64 k ∧ Words wr w.heap.size 99 64 (fun j => if j < k then sched c j else 0) ∧ Below w.heap.size w wr
def SB3 (w2 : World) (c : Nat → UInt8) (s : Eight) (v0 v1 v2 v3 v4 v5 v6 v7 i : Value) (wr : World) : Prop :=
  ∃ k m : Nat, k ≤ 64 ∧ i = .int .i64 k ∧ wr = w2.drewN m ∧ v0 = .int .u32 (rounds key c s k).a.toNat ∧ v1 = .int .u32 (rounds key c s k).b.toNat ∧ v2 = .int .u32 (rounds key c s k).c.toNat ∧ v3 = .int .u32 (rounds key c s k).d.toNat ∧
    v4 = .int .u32 (rounds key c s k).e.toNat ∧ v5 = .int .u32 (rounds key c s k).f.toNat ∧ v6 = .int .u32 (rounds key c s k).g.toNat ∧ v7 = .int .u32 (rounds key c s k).h.toNat
def SB4 (wA : World) (res : Eight) (v i : Value) (wr : World) : Prop :=
  ∃ k : Nat, k ≤ 8 ∧ i = .int .i64 k ∧ wr.ownsRow wA.heap.size 2 1 v k ((list8 res).take k) ∧ Below wA.heap.size wA wr
theorem one_cell' (wr : World) (a b : Value) (T : TypeId) (h : a = b) : ∀ j u, [b][j]? = some u → (wr.alloc (.cells #[a] T)).cell? ((⟨wr.heap.size, 0, none⟩ : Addr).add j) = some u := by
  intro j u hj
  match j, hj with
  | 0, hj => simp at hj; subst hj; subst h; simp [Addr.add]
theorem Eight.add_get (s r : Eight) (k : Nat) (h : k < 8) : (s.add r).get k = wsum (s.get k) (r.get k) := by
  match k, h with
  | 0, _ | 1, _ | 2, _ | 3, _ | 4, _ | 5, _ | 6, _ | 7, _ => rfl
  | j + 8, h => omega
theorem list8_take (s : Eight) (k : Nat) (h : k < 8) : (list8 s).take (k + 1) = (list8 s).take k ++ [I (s.get k)] := by
  rw [List.take_add_one, list8_at s k h]; rfl
theorem _root_.Go.World.ownsRow.base_le {w : World} {b b' e n : Nat} {v : Value} {xs : List Value} (h : w.ownsRow b e 1 v n xs) (hb : b' ≤ b) : w.ownsRow b' e 1 v n xs := by
  rcases h with ⟨h1, h2⟩
  refine ⟨h1, ?_⟩
  rcases h2 with h2 | ⟨g, cap, cur, a1, a2, a3⟩
  · exact .inl h2
  · exact .inr ⟨g, cap, cur, a1, Nat.le_trans hb a2, a3⟩
def BlockPost (w : World) (s : Eight) (e : Ending) (w' : World) : Prop := ∃ v, e = .returned v ∧ w'.ownsRow w.heap.size 2 1 v 8 (list8 s) ∧ Below w.heap.size w w'

theorem cellsWords {w1 : World} {g : Nat} {T : TypeId} (h : w1.heap[g]? = some (.cells (List.replicate 64 (Value.int IntKind.u32 0)).toArray T (0, 0))) : Words w1 g T 64 (fun _ => 0) := by
  unfold Words; rw [h]; rfl

set_option maxHeartbeats 2000000 in
set_option maxRecDepth 100000 in
theorem specBlock (s : Eight) (b : ByteArray) (w : World) (g cap base : Nat) (hs : w.ownsRow base 2 1 (.slice (some ⟨g, 0, none⟩) 8 cap) 8 (list8 s)) (hb : b.size = 64) :
    Calls Tryd.prog 91 #[.slice (some ⟨g, 0, none⟩) 8 cap, .string b] w (BlockPost w (block key (fun j => b.data.toList.getD j 0) s)) := by
  obtain ⟨i0, hi, hz0, hz1, hz2⟩ := info_parts Tryd.info31
  generalize hres : block key (fun j => b.data.toList.getD j 0) s = res
  generalize hc : (fun j => b.data.toList.getD j 0) = c at hres
  have HRES := Lib.hid hres
  have HC := Lib.hid hc
  have hbs : (64 : Int) ≤ (b.size : Int) := by omega
  have HBS := Lib.hid hb
  have HS := Lib.hid hs
  clear hres hc hb hs
  go_enter Tryd.func91, Tryd.ntmps91
  go_wp2_with (at_make; refine wpList_make_full _ rfl _ _ 144 rfl w.heap.size 99 i0 (.int .u32 0) 1 Tryd.underlying144 hi hz0 hz1 .i64 .i64 _ _ 64 rfl rfl (by omega) (by omega) (by rw [hz2]; omega) (by unfold maxLen; omega) (Nat.le_refl _) ?_)
  intro w1 hown1 hgrow1
  have hb1 : Below w.heap.size w w1 := (Below.refl _ w).grown hgrow1 (Nat.le_refl _) (by simp)
  have hg1 := own_block hown1
  rw [toList_madeCells_one] at hg1
  have hw1 : Words w1 w.heap.size 99 64 (fun _ => 0) := cellsWords hg1
  have HW1 := Lib.hid hw1
  have HB1 := Lib.hid hb1
  clear hown1 hgrow1 hg1 hi hz0 hz1 hz2 hw1 hb1
  go_wp2_with fail
  go_loopw [6] (fun i wr => SB1 w c i wr) (fun i _ => 16 - (intOf i).toNat)
  case atStart => exact ⟨0, by omega, rfl, HW1.out.congr (fun i _ => rfl), HB1.out⟩
  case round =>
    clear HW1 HB1
    obtain ⟨k, hk, rfl, hwd, hbel⟩ := hrel
    by_cases hlt : k < 16
    · have hc := hwd.cell k (by omega)
      have hf := hwd.frozen k
      have q0 : (4 * (k : Int)) < (b.size : Int) := by omega
      have q1 : (4 * (k : Int) + 1) < (b.size : Int) := by omega
      have q2 : (4 * (k : Int) + 2) < (b.size : Int) := by omega
      have q3 : (4 * (k : Int) + 3) < (b.size : Int) := by omega
      have k64 : (k : Int) < 64 := by omega
      have p0 : 0 ≤ 4 * (k : Int) := by omega
      have p1 : 0 ≤ 4 * (k : Int) + 1 := by omega
      have p2 : 0 ≤ 4 * (k : Int) + 2 := by omega
      have p3 : 0 ≤ 4 * (k : Int) + 3 := by omega
      have n0 : (4 * (k : Int)).toNat = 4 * k := by omega
      have n1 : (4 * (k : Int) + 1).toNat = 4 * k + 1 := by omega
      have n2 : (4 * (k : Int) + 2).toNat = 4 * k + 2 := by omega
      have n3 : (4 * (k : Int) + 3).toNat = 4 * k + 3 := by omega
      have m0 : IntKind.i64.wrap (4 * (k : Int)) = 4 * (k : Int) := IntWalk.i64_in _ (by omega)
      have m1 : IntKind.i64.wrap (4 * (k : Int) + 1) = 4 * (k : Int) + 1 := IntWalk.i64_in _ (by omega)
      have m2 : IntKind.i64.wrap (4 * (k : Int) + 2) = 4 * (k : Int) + 2 := IntWalk.i64_in _ (by omega)
      have m3 : IntKind.i64.wrap (4 * (k : Int) + 3) = 4 * (k : Int) + 3 := IntWalk.i64_in _ (by omega)
      have hww := w_word' b k (by omega)
      rw [HC.out] at hww
      have HWW := Lib.hid hww
      clear hww
      have HW := Lib.hid hwd
      have HBL := Lib.hid hbel
      clear hwd hbel
      go_wp2_with fail
      go_still_tail 32, (by kernel_rfl)
      change wpList _ _ _ _ _ wr.drew
      rw [HWW.out]
      go_wp2_with fail
      go_roundw
      case rel =>
        refine ⟨k + 1, by omega, by go_num, ?_, ?_⟩
        · refine HW.out.set k (word c k) ?_ ?_
          · show (if k < k + 1 then sched c k else 0) = word c k
            rw [if_pos (by omega), sched_low c k (by omega)]
          · intro i hi
            show (if i < k + 1 then sched c i else 0) = if i < k then sched c i else 0
            by_cases h1 : i < k
            · rw [if_pos h1, if_pos (by omega)]
            · rw [if_neg h1, if_neg (by omega)]
        · exact (HBL.out.setCell (p := ⟨w.heap.size, k, none⟩) (Nat.le_refl _) _).drew
      case measure => simp [intOf]; omega
    · obtain rfl : k = 16 := by omega
      have HW := Lib.hid hwd
      have HBL := Lib.hid hbel
      clear hwd hbel hlt hk
      go_wp2_with fail
      go_loopw [7] (fun i wr => SB2 w c i wr) (fun i _ => 64 - (intOf i).toNat)
      case atStart => exact ⟨16, by omega, by omega, rfl, HW.out, HBL.out⟩
      case round =>
        clear HW HBL
        rename_i wr0
        obtain ⟨k, hk0, hk, rfl, hwd, hbel⟩ := hrel
        by_cases hlt : k < 64
        · have hc1 := hwd.cell (k - 15) (by omega)
          have hc2 := hwd.cell (k - 2) (by omega)
          have hc3 := hwd.cell (k - 16) (by omega)
          have hc4 := hwd.cell (k - 7) (by omega)
          rw [if_pos (by omega)] at hc1 hc2 hc3 hc4
          have hc5 := hwd.cell k (by omega)
          have hf := hwd.frozen k
          have HW := Lib.hid hwd
          have HBL := Lib.hid hbel
          clear hwd hbel
          go_wp2_with fail
          have q0 : (k : Int) - 16 < 64 := by omega
          have q1 : (k : Int) - 7 < 64 := by omega
          have q2 : (k : Int) < 64 := by omega
          have p0 : 0 ≤ (k : Int) - 16 := by omega
          have p2 : 16 ≤ (k : Int) := by omega
          have p3 : 7 ≤ (k : Int) := by omega
          have p1 : 0 ≤ (k : Int) - 7 := by omega
          have n0 : ((k : Int) - 16).toNat = k - 16 := by omega
          have n1 : ((k : Int) - 7).toNat = k - 7 := by omega
          have m0 : IntKind.i64.wrap ((k : Int) - 16) = (k : Int) - 16 := IntWalk.i64_in _ (by omega)
          have m1 : IntKind.i64.wrap ((k : Int) - 7) = (k : Int) - 7 := IntWalk.i64_in _ (by omega)
          have h1 := w_sig0 (sched c (k - 15))
          have h2 := w_sig1 (sched c (k - 2))
          have h3 := u32_sum (sched c (k - 16)) (sig0 (sched c (k - 15)))
          have h4 := u32_sum (wsum (sched c (k - 16)) (sig0 (sched c (k - 15)))) (sched c (k - 7))
          have h5 := u32_sum (wsum (wsum (sched c (k - 16)) (sig0 (sched c (k - 15)))) (sched c (k - 7))) (sig1 (sched c (k - 2)))
          go_still_tail 32, (by kernel_rfl)
          still_call (turn_still _ 7 7 _ rfl (by decide) (by decide))
          repeat still_step
          still_call (turn_still _ 18 18 _ rfl (by decide) (by decide))
          repeat still_step
          still_call (turn_still _ 17 17 _ rfl (by decide) (by decide))
          repeat still_step
          still_call (turn_still _ 19 19 _ rfl (by decide) (by decide))
          repeat still_step
          refine wpStill_nil ?_
          change wpList _ _ _ _ _ wr.drew
          go_wp2_with fail
          go_roundw
          case rel =>
            (repeat apply Exists.intro)
            refine ⟨⟨k + 1, by omega, by omega, by go_num, ?_, ?_⟩, rfl⟩
            · refine HW.out.set k _ ?_ ?_
              · show (if k < k + 1 then sched c k else 0) = _
                rw [if_pos (by omega), sched_high c k hk0]; rfl
              · intro i hi
                show (if i < k + 1 then sched c i else 0) = if i < k then sched c i else 0
                by_cases h1 : i < k
                · rw [if_pos h1, if_pos (by omega)]
                · rw [if_neg h1, if_neg (by omega)]
            · exact (HBL.out.setCell (p := ⟨w.heap.size, k, none⟩) (Nat.le_refl _) _).drew
          case measure => simp [intOf]; omega
        · obtain rfl : k = 64 := by omega
          have hwd1 := hwd.congr (f' := sched c) fun i hi => (if_pos hi).symm
          have hgl : g < w.heap.size := HS.out.blt
          have e0 := (hbel.cell (p := ⟨g, 0, none⟩) hgl).trans (HS.out.cellAt 0 (by decide))
          have e1 := (hbel.cell (p := ⟨g, 1, none⟩) hgl).trans (HS.out.cellAt 1 (by decide))
          have e2 := (hbel.cell (p := ⟨g, 2, none⟩) hgl).trans (HS.out.cellAt 2 (by decide))
          have e3 := (hbel.cell (p := ⟨g, 3, none⟩) hgl).trans (HS.out.cellAt 3 (by decide))
          have e4 := (hbel.cell (p := ⟨g, 4, none⟩) hgl).trans (HS.out.cellAt 4 (by decide))
          have e5 := (hbel.cell (p := ⟨g, 5, none⟩) hgl).trans (HS.out.cellAt 5 (by decide))
          have e6 := (hbel.cell (p := ⟨g, 6, none⟩) hgl).trans (HS.out.cellAt 6 (by decide))
          have e7 := (hbel.cell (p := ⟨g, 7, none⟩) hgl).trans (HS.out.cellAt 7 (by decide))
          rw [list8_at s _ (by decide)] at e0 e1 e2 e3 e4 e5 e6 e7
          have hid1 : ∀ x : UInt32, IntKind.u32.wrap (x.toNat : Int) = (x.toNat : Int) := u32_id
          have hid2 : ∀ x : UInt32, (x.toNat : Int) % 4294967296 = (x.toNat : Int) := fun x => by rw [← IntKind.wrap_u32]; exact u32_id x
          have HW := Lib.hid hwd1
          have HBL := Lib.hid hbel
          clear hwd hbel hlt hk hk0 hwd1
          go_wp2_with fail
          go_quiet (fail)
          go_wp2_with fail
          go_quiet (fail)
          go_wp2_with fail
          clear e0 e1 e2 e3 e4 e5 e6 e7 hid1 hid2
          refine (specKeys _).mono ?_
          rintro e w2 ⟨rfl, hk2, hb2⟩
          have hlt2 : w.heap.size < wr.heap.size := (Array.getElem?_eq_some_iff.1 HW.out).1
          have HK2 : Hid (Words w2 wr.heap.size 99 64 key) := Lib.hid hk2
          have HW2 : Hid (Words w2 w.heap.size 99 64 (sched c)) := Lib.hid ((hb2.block _ hlt2).trans HW.out)
          have HB2 : Hid (Below w.heap.size w w2) := Lib.hid ((below_drewN HBL.out _).trans (hb2.mono (Nat.le_of_lt hlt2)))
          clear hk2 hb2
          go_wp2_with fail
          generalize wr.heap.size = G at *
          go_loopw [10, 11, 12, 13, 14, 15, 16, 17, 19] (fun v0 v1 v2 v3 v4 v5 v6 v7 i wr => SB3 w2 c s v0 v1 v2 v3 v4 v5 v6 v7 i wr) (fun _ _ _ _ _ _ _ _ i _ => 64 - (intOf i).toNat)
          case atStart => exact ⟨0, 0, by omega, rfl, rfl, rfl, rfl, rfl, rfl, rfl, rfl, rfl, rfl⟩
          case round =>
            obtain ⟨k, m, hk, rfl, hwr, rfl, rfl, rfl, rfl, rfl, rfl, rfl, rfl⟩ := hrel
            by_cases hlt : k < 64
            · have hc1 : wr.cell? ⟨w.heap.size, k, none⟩ = _ := (congrArg (World.cell? · _) hwr).trans (HW2.out.cell k hlt)
              have hc2 : wr.cell? ⟨G, k, none⟩ = _ := (congrArg (World.cell? · _) hwr).trans (HK2.out.cell k hlt)
              have HWR := Lib.hid hwr
              clear hwr
              have q2 : (k : Int) < 64 := by omega
              obtain ⟨r, hr⟩ : ∃ r, rounds key c s k = r := ⟨_, rfl⟩
              have HR := Lib.hid hr
              rw [hr]
              clear hr
              obtain ⟨a0, a1, a2, a3, a4, a5, a6, a7⟩ := r
              have h0 : (if IntKind.u32.signed = true then (-1 : Int) else IntKind.u32.max) = IntKind.u32.max := rfl
              have h1 := w_choose a4 a5 a6
              have h2 := w_sum1 a4
              have h3 := u32_sum a7 (sum1 a4)
              have h4 := u32_sum (wsum a7 (sum1 a4)) (choose a4 a5 a6)
              have h5 := u32_sum (wsum (wsum a7 (sum1 a4)) (choose a4 a5 a6)) (key k)
              have h6 := u32_sum (wsum (wsum (wsum a7 (sum1 a4)) (choose a4 a5 a6)) (key k)) (sched c k)
              go_wp2_with fail
              refine wp_region_still_lit (by kernel_rfl) (by kernel_rfl) ?_
              repeat still_step
              still_call (turn_still _ 6 6 _ rfl (by decide) (by decide))
              repeat still_step
              still_call (turn_still _ 11 11 _ rfl (by decide) (by decide))
              repeat still_step
              still_call (turn_still _ 25 25 _ rfl (by decide) (by decide))
              repeat still_step
              refine wpStill_nil ?_
              have g1 := w_major a0 a1 a2
              have g2 := w_sum0 a0
              have g3 := w_roundU a0 a1 a2
              have g4 := w_sum a3 (wsum (wsum (wsum (wsum a7 (sum1 a4)) (choose a4 a5 a6)) (key k)) (sched c k))
              have g5 := w_sum (wsum (wsum (wsum (wsum a7 (sum1 a4)) (choose a4 a5 a6)) (key k)) (sched c k)) (roundU a0 a1 a2)
              show Exit.then _ _ _ _ wr.drew
              go_wp2_with ((go_at_call 96); (first | (with_reducible refine (turn_at _ 2 2 _ rfl (by decide) (by decide)).mono ?_) | (with_reducible refine (turn_at _ 13 13 _ rfl (by decide) (by decide)).mono ?_) | (with_reducible refine (turn_at _ 22 22 _ rfl (by decide) (by decide)).mono ?_)); rintro r w' ⟨rfl, rfl⟩)
              clear h0 h1 h2 h3 h4 h5 h6 g1 g2 g3 g4 g5
              go_roundw
              case rel =>
                refine ⟨k + 1, m + 1, by omega, by go_num, by rw [HWR.out]; rfl, ?_, ?_, ?_, ?_, ?_, ?_, ?_, ?_⟩ <;> rw [rounds_succ', HR.out]
                · exact val_int (w_sum _ _)
                · rfl
                · rfl
                · rfl
                · exact val_int (w_sum _ _)
                · rfl
                · rfl
                · rfl
              case measure => simp [intOf]; omega
            · obtain rfl : k = 64 := by omega
              obtain ⟨r, hr⟩ : ∃ r, rounds key c s 64 = r := ⟨_, rfl⟩
              rw [hr]
              have HRES2 := Lib.hid (show res = s.add r by rw [← HRES.out, ← hr]; rfl)
              clear hr HRES
              have hbw : Below w.heap.size w wr := by rw [hwr]; exact below_drewN HB2.out m
              have HWR := Lib.hid hwr
              clear hwr hlt hk
              go_wp2_with fail
              generalize hwA : wr.alloc (Obj.cells #[Value.int IntKind.u32 r.a.toNat, Value.int IntKind.u32 r.b.toNat, Value.int IntKind.u32 r.c.toNat, Value.int IntKind.u32 r.d.toNat, Value.int IntKind.u32 r.e.toNat, Value.int IntKind.u32 r.f.toNat, Value.int IntKind.u32 r.g.toNat, Value.int IntKind.u32 r.h.toNat] 99) = wA
              have hzA : wr.heap.size + 1 = wA.heap.size := by rw [← hwA]; simp
              have hbA : Below w.heap.size w wA := by rw [← hwA]; exact hbw.alloc hbw.size _
              have hrA : wA.heap[wr.heap.size]? = some (.cells r.vals 99 (0, 0)) := by rw [← hwA]; exact heap_alloc_new wr _
              have hwz : w.heap.size ≤ wr.heap.size := hbw.size
              rw [hzA]
              have hzL : wr.heap.size < wA.heap.size := by omega
              generalize wr.heap.size = R at *
              have HBA := Lib.hid hbA
              have HRA := Lib.hid hrA
              have HI := Lib.hid (info_parts Tryd.info2)
              clear hwA hzA hbA hrA hbw
              go_loopw [23, 24] (fun v i wr => SB4 wA res v i wr) (fun _ i _ => 8 - (intOf i).toNat)
              case atStart => exact ⟨0, by omega, rfl, World.ownsRow_lit wA #[] 0 (Nat.le_refl _) (by decide) rfl, (Below.refl _ _).alloc (Nat.le_refl _) _⟩
              case round =>
                obtain ⟨k, hk, rfl, hown, hbel⟩ := hrel
                by_cases hlt : k < 8
                · obtain ⟨i2, hi, hz0, hz1, hz2⟩ := HI.out
                  have q8 : (k : Int) < 8 := by omega
                  have hc1 : wr.cell? ⟨g, k, none⟩ = some (.int .i64 (s.get k).toNat) := by
                    rw [hbel.cell (p := ⟨g, k, none⟩) (by simp; omega), HBA.out.cell (p := ⟨g, k, none⟩) hgl, HS.out.cellAt k (by omega), list8_at s k hlt]
                  have hc2 : wr.cell? ⟨R, k, none⟩ = some (.int .u32 (r.get k).toNat) := by
                    rw [hbel.cell (p := ⟨R, k, none⟩) hzL, cell_of_row wA R k _ _ (0, 0) HRA.out, r.vals_at k hlt]; rfl
                  have h1 := u32_id (s.get k)
                  have h2 := u32_sum (s.get k) (r.get k)
                  have h3 := u32_i64 (wsum (s.get k) (r.get k))
                  have hsz := hbel.size
                  have ag : u23.ownBlock ≠ some g := fun e => absurd (hown.lt g e).1 (by omega)
                  have aR : u23.ownBlock ≠ some R := fun e => absurd (hown.lt R e).1 (by omega)
                  have hgz : g < wr.heap.size := by omega
                  have hRz : R < wr.heap.size := by omega
                  have HBEL := Lib.hid hbel
                  have HOWN := Lib.hid hown
                  clear hown hbel
                  go_wp2_with fail
                  go_region_held3 (fun w' => w'.cell? ⟨g, k, none⟩ = some (.int .i64 (s.get k).toNat) ∧ w'.cell? ⟨R, k, none⟩ = some (.int .u32 (r.get k).toNat)) (first | go_keep | (go_split_ands; refine ⟨?_, ?_⟩ <;> first | (rw [hgrow.cell_far _ (by simp; omega) (Ne.symm ag)]; assumption) | (rw [hgrow.cell_far _ (by simp; omega) (Ne.symm aR)]; assumption))) ((refine step_append_lies _ (by rfl) _ _ _ (by rfl) wA.heap.size 2 i2 _ 1 8 Tryd.underlying94 hi hz0 hz1 hz2 rfl (by omega) u23 k ((list8 res).take k) (by rfl) ((HOWN.out.alloc _).drew) ⟨wr.heap.size, 0, none⟩ 1 1 [I (wsum (s.get k) (r.get k))] (by rfl) (by rfl) (World.news_of_block (cs := #[I (wsum (s.get k) (r.get k))]) (t := 2) (fr := (0, 0)) (heap_alloc_new wr _)) (by simp [I, Value.oneCell']) (by omega) (by unfold maxLen; omega) (by omega) (by simp; omega) (wr.heap.size + 1) (by simp) ?_; intro gg cap w3 hown3 hgrow hat hlt))
                  have HB3 := Lib.hid ((HBEL.out.alloc hsz _).drew.grown hgrow (by simp; omega) (fun j hj => (HOWN.out.lt j hj).1))
                  have HO3 := Lib.hid hown3
                  have hkk : k < 8 := by omega
                  clear hown3 hgrow hat hlt hi hz0 hz1 hz2 h1 h2 h3 hc1 hc2 ag aR
                  go_wp2
                  go_roundw
                  case rel =>
                    have fin : SB4 wA res (.slice (some ⟨gg, 0, none⟩) (k + 1) cap) (.int .i64 ((k : Int) + 1)) w3 :=
                      ⟨k + 1, by omega, by go_num, by rw [list8_take res k hkk, HRES2.out, Eight.add_get s r k hkk]; rw [HRES2.out] at HO3; exact HO3.out, HB3.out⟩
                    first | exact fin | ((repeat apply Exists.intro); exact ⟨fin, rfl⟩)
                  case measure => simp [intOf]; omega
                · obtain rfl : k = 8 := by omega
                  have hsz := hbel.size
                  have HOWN := Lib.hid hown
                  have HBEL := Lib.hid hbel
                  clear hown hbel hlt hk
                  go_wp2
                  go_ret
                  refine ⟨_, rfl, ?_, HBA.out.trans (HBEL.out.mono (by omega))⟩
                  exact HOWN.out.base_le (by omega)
end Go.Proofs.YtcckpkcjekcajaaDoor
