/- The model's l03Sync, with what an append wants. -/
import Derived.Test.YtkeimgglikdbfaaGBase
import Derived.Test.YtkeimgglikdbfaaSSync
namespace Go.Proofs.Ytkeimgglikdbfaa
open Go.RowKit

theorem wpList_append_copyA {P : Program} (w : World) {ops : Array Oper} {rest : List Oper} {o : Oper} {a : Act} {Q : Exit → Act → World → Prop} (hg : o.guard = none) (s x : Operand) (t : TypeId)
    (hop : o.op = Op.call { callee := Callee.builtin Builtin.append, args := #[s, x], argTypes := #[t, t] })
    (e : TypeId) (i : TypeInfo) (z : Value) (sz bytes : Nat) (ht : P.underlying t = some (.slice e)) (hi : P.info? e = some i) (hz : i.zero = some z) (hsize : i.size = sz) (hby : i.bytes = bytes) (hzs : z.cells.size = sz) (hsz : 0 < sz)
    (g : Addr) (hs : a.eval s = .slice (some g) 0 0) (src : Value) (hx : a.eval x = src) (n : Nat) (xs : List Value) (hr : Rd w src n sz xs) (h63 : n ≤ maxLen) (hbytes : n * bytes ≤ 140737488355328)
    (hK : ∀ ad cap w', Own w' w.heap.size (.slice ad n cap) n sz xs → Grow w' w.heap.size e sz (.slice ad n cap) n xs → Below w.heap.size w w' → wpList P ops Q rest (a.put o.dst (.slice ad n cap)) w') :
    wpList P ops Q (o :: rest) a w := by
  refine wpList_plain hg fun K hK' => ?_
  obtain ⟨v', w', hrun, h1, h3, h2⟩ := run_append_copyA (P := P) w t o.type e i z sz bytes ht hi hz hsize hby hzs hsz g src n xs hr h63 hbytes
  obtain ⟨ad, cap, rfl, _⟩ := id h1.2
  unfold Oper.wp
  simp [execOp, hop, resolve, invoke, builtin, hs, hx, hrun, Result.andThen]
  exact hK' _ _ (hK ad cap w' h1 h3 ⟨h2.os, h2.tape, h2.output, h2.size, fun k hk => h2.block k hk (by simp)⟩)
def SyncRelG (F : FM) (W : World) (lo b off cap : Nat) (i : Value) (wr : World) : Prop :=
  ∃ k : Nat, k ≤ F.dir.length ∧ i = .int .i64 k ∧ Own wr lo (.slice (some ⟨b, off, none⟩) F.sec.length cap) F.sec.length 1 (strs (syncL F.sec (F.dir.take k))) ∧ Gr wr lo 9 1 (.slice (some ⟨b, off, none⟩) F.sec.length cap) F.sec.length (strs (syncL F.sec (F.dir.take k))) ∧ W.grownBy wr (some b)

set_option maxHeartbeats 2000000 in
set_option maxRecDepth 100000 in
theorem specSyncG (sv dv : Value) (F : FM) (w : World) (h : FRd w sv dv F) (hr : Right F) :
    Calls Try.prog 45 #[.agg #[sv, dv]] w (FMadeG w (syncOf F)) := by
  obtain ⟨i0, hi, hz0, hz1, hz2⟩ := info_parts Try.info9
  obtain ⟨a, c, rfl, -⟩ := id h.1.2
  obtain ⟨a', c', rfl, -⟩ := id h.2.2
  obtain ⟨l0, l1, l2⟩ : 1 ≤ F.sec.length ∧ F.sec.length ≤ 40 ∧ F.dir.length ≤ 40 := ⟨hr.least, hr.most, Nat.le_trans hr.dirty hr.most⟩
  have HR := Lib.hid h
  have HRT := Lib.hid hr
  clear h hr
  go_enter Try.func45, Try.ntmps45
  go_wp2_with ((with_reducible show wpList _ _ _ (⟨some 8, _, _, _, _, _⟩ :: _) _ _); refine wpList_append_copyA _ rfl (.tmp 5) (.tmp 7) 23 rfl 9 i0 _ 1 16 Try.underlying23 hi hz0 hz1 hz2 rfl (by decide) _ rfl (.slice a F.sec.length c) rfl F.sec.length (strs F.sec) (HR.out.1.below (B := w.heap.size) ?_ (Nat.le_refl _)) (by unfold maxLen; omega) (by omega) ?_)
  · exact (((Below.refl _ w).alloc (Nat.le_refl _) _).alloc (by simp) _).alloc (by simp; omega) _
  · intro ad cap w1 ho hgw hb1
    have hgr0 := Gr.of_grow hgw (by rw [strs_length]; omega)
    obtain ⟨b, off, rfl, hlo, hbl, -, -⟩ := ho.get (by omega)
    have hbw : Below w.heap.size w w1 := ((((Below.refl _ w).alloc (Nat.le_refl _) _).alloc (by simp) _).alloc (by simp; omega) _).trans (hb1.mono (by first | omega | (simp; omega)))
    have q : ∀ k j, k < w.heap.size + 3 → w1.cell? ⟨k, j, none⟩ = _ ∧ w1.frozen? ⟨k, j, none⟩ = _ := fun k j hk => ⟨hb1.cell (p := ⟨k, j, none⟩) (by simp; omega), hb1.frozen (p := ⟨k, j, none⟩) (by simp; omega)⟩
    have k0 : (((w.alloc (Obj.cells #[.slice a F.sec.length c, .slice a' F.dir.length c'] 26)).alloc (Obj.cells #[.slice none 0 0, .slice none 0 0] 26)).alloc (Obj.cells #[] 9)).heap[w.heap.size]? = some (.cells #[.slice a F.sec.length c, .slice a' F.dir.length c'] 26 (0, 0)) := (heap_alloc_old _ _ (by simp; omega)).trans (heap_alloc2_old w _ _)
    have k1 : (((w.alloc (Obj.cells #[.slice a F.sec.length c, .slice a' F.dir.length c'] 26)).alloc (Obj.cells #[.slice none 0 0, .slice none 0 0] 26)).alloc (Obj.cells #[] 9)).heap[w.heap.size + 1]? = some (.cells #[.slice none 0 0, .slice none 0 0] 26 (0, 0)) := (heap_alloc_old _ _ (by simp)).trans (heap_alloc2_new w _ _)
    have c1 : w1.cell? ⟨w.heap.size, 1, none⟩ = some (.slice a' F.dir.length c') := (q _ _ (by omega)).1.trans (by rw [cell_of_row _ _ _ _ _ _ k0]; rfl)
    have r0 : w1.cell? ⟨w.heap.size + 1, 0, none⟩ = some (.slice none 0 0) := (q _ _ (by omega)).1.trans (by rw [cell_of_row _ _ _ _ _ _ k1]; rfl)
    have r1 : w1.cell? ⟨w.heap.size + 1, 1, none⟩ = some (.slice none 0 0) := (q _ _ (by omega)).1.trans (by rw [cell_of_row _ _ _ _ _ _ k1]; rfl)
    have s0 : w1.frozen? ⟨w.heap.size + 1, 0, none⟩ = false := (q _ _ (by omega)).2.trans (frozen_of_row _ _ 0 _ _ k1)
    have s1 : w1.frozen? ⟨w.heap.size + 1, 1, none⟩ = false := (q _ _ (by omega)).2.trans (frozen_of_row _ _ 1 _ _ k1)
    clear q k0 k1 hb1 hi hz0 hz1 hz2
    have HO := Lib.hid ho
    have HG := Lib.hid hgr0
    have HBW := Lib.hid hbw
    clear ho hbw hgr0 hgw
    go_wp2_with fail
    have hz1 : w1.heap.size < (w1.alloc (.cells #[.slice (some ⟨b, off, none⟩) F.sec.length cap, .slice none 0 0] 26)).heap.size := by simp
    have hbA : Below w1.heap.size w1 (w1.alloc (.cells #[.slice (some ⟨b, off, none⟩) F.sec.length cap, .slice none 0 0] 26)) := alloc_below _ _
    have g0 : (w1.alloc (.cells #[.slice (some ⟨b, off, none⟩) F.sec.length cap, .slice none 0 0] 26)).cell? ⟨w1.heap.size, 0, none⟩ = some (.slice (some ⟨b, off, none⟩) F.sec.length cap) := by rw [World.cell?_alloc_new]; rfl
    have g1 : (w1.alloc (.cells #[.slice (some ⟨b, off, none⟩) F.sec.length cap, .slice none 0 0] 26)).cell? ⟨w1.heap.size, 1, none⟩ = some (.slice none 0 0) := by rw [World.cell?_alloc_new]; rfl
    generalize (w1.alloc (.cells #[.slice (some ⟨b, off, none⟩) F.sec.length cap, .slice none 0 0] 26)) = W at *
    have c1' := (hbA.cell (p := ⟨w.heap.size, 1, none⟩) (by simp; omega)).trans c1
    have r0' := (hbA.cell (p := ⟨w.heap.size + 1, 0, none⟩) (by simp; omega)).trans r0
    have r1' := (hbA.cell (p := ⟨w.heap.size + 1, 1, none⟩) (by simp; omega)).trans r1
    have s0' := (hbA.frozen (p := ⟨w.heap.size + 1, 0, none⟩) (by simp; omega)).trans s0
    have s1' := (hbA.frozen (p := ⟨w.heap.size + 1, 1, none⟩) (by simp; omega)).trans s1
    have HOW := Lib.hid (HO.out.below hbA (Nat.le_refl _))
    have HGW := Lib.hid (HG.out.below hbA (Nat.le_refl _))
    have HBWW := Lib.hid (HBW.out.trans (hbA.mono (by omega)))
    generalize w1.heap.size = g at *
    clear c1 r0 r1 s0 s1 HO HG HBW hbA
    go_loopw [4] (fun i wr => SyncRelG F W (w.heap.size + 1 + 1 + 1) b off cap i wr) (fun i _ => F.dir.length - (intOf i).toNat)
    case atStart => exact ⟨0, by omega, rfl, HOW.out, HGW.out, World.grownBy.refl W _⟩
    case round =>
      obtain ⟨k, hk, rfl, how, hgx, hgr⟩ := hrel
      have x1 := (grown_keeps hgr (k := w.heap.size) (by omega) (by omega) 1).1.trans c1'
      have y0 := (grown_keeps hgr (k := w.heap.size + 1) (by omega) (by omega) 0).1.trans r0'
      have y1 := (grown_keeps hgr (k := w.heap.size + 1) (by omega) (by omega) 1).1.trans r1'
      have z0 := (grown_keeps hgr (k := w.heap.size + 1) (by omega) (by omega) 0).2.trans s0'
      have z1 := (grown_keeps hgr (k := w.heap.size + 1) (by omega) (by omega) 1).2.trans s1'
      have t0 := (grown_keeps hgr (k := g) (by omega) (by omega) 0).1.trans g0
      have t1 := (grown_keeps hgr (k := g) (by omega) (by omega) 1).1.trans g1
      by_cases hlt : k < F.dir.length
      · have a0 := HRT.out.at0 k hlt
        have a1 := HRT.out.at1 k hlt
        have e0 : (k : Int) < (F.dir.length : Int) := by omega
        have e1 : (0 : Int) ≤ (k : Int) := by omega
        have e2 : F.dir[k].1 < (F.sec.length : Int) := by omega
        have HD := Lib.hid (HR.out.2.below HBWW.out (Nat.le_refl _))
        obtain ⟨b', off', rfl, hbl', hc'⟩ := HR.out.2.get (by omega)
        have hW : ∀ j, wr.cell? ⟨b', j, none⟩ = w.cell? ⟨b', j, none⟩ := fun j => (grown_keeps hgr (k := b') (by have := HBWW.out.size; omega) (by omega) j).1.trans (HBWW.out.cell (p := ⟨b', j, none⟩) hbl')
        have hc0 : wr.cell? ⟨b', off' + k * 2, none⟩ = some (.int .i64 F.dir[k].1) := by rw [hW, hc' (k * 2) (by omega), dirs_even _ k hlt]
        have hc1 : wr.cell? ⟨b', off' + k * 2 + 1, none⟩ = some (.string F.dir[k].2) := by rw [hW, Nat.add_assoc, hc' (k * 2 + 1) (by omega), dirs_odd _ k hlt]
        obtain ⟨b2, off2, e, -, -, hcs, hfz⟩ := how.get (by omega)
        simp only [Option.some.injEq, Addr.mk.injEq, and_true] at e
        obtain ⟨rfl, rfl⟩ := e
        obtain ⟨v, hv⟩ : ∃ v, wr.cell? ⟨b, off + F.dir[k].1.toNat, none⟩ = some v := ⟨_, (hcs F.dir[k].1.toNat (by omega)).trans (List.getElem?_eq_getElem (by rw [how.1]; omega))⟩
        have hf := hfz F.dir[k].1.toNat (by omega)
        have HOK := Lib.hid ((show Own wr.drew _ _ _ 1 _ from how).set F.dir[k].1.toNat (.string F.dir[k].2) (by omega) ⟨v, hv⟩)
        have HGK := Lib.hid (show Gr (wr.drew.setCell ⟨b, off + F.dir[k].1.toNat, none⟩ (.string F.dir[k].2)) (w.heap.size + 1 + 1 + 1) 9 1 (.slice (some ⟨b, off, none⟩) F.sec.length cap) F.sec.length ((strs (syncL F.sec (F.dir.take k))).set F.dir[k].1.toNat (.string F.dir[k].2)) by
          obtain rfl := hgx.at0 (by omega)
          rw [Nat.zero_add]
          exact (show Gr wr.drew _ _ _ _ _ _ from hgx).set (by omega) _ _)
        have HGR := Lib.hid hgr
        clear hW hc' hcs hfz how hgx hgr HD
        go_wp2_with fail
        go_still_tail 15, (by kernel_rfl)
        change wpList _ _ _ _ _ wr.drew
        go_wp2_with fail
        go_roundw
        case rel =>
          refine ⟨k + 1, by omega, by go_num, ?_, ?_, grown_set (grown_drew HGR.out)⟩
          · rw [syncL_step _ _ k hlt, strs_set]
            exact HOK.out
          · rw [syncL_step _ _ k hlt, strs_set]
            exact HGK.out
        case measure => simp [intOf]; omega
      · obtain rfl : k = F.dir.length := by omega
        rw [List.take_length] at how hgx
        have HOK := Lib.hid how
        have HGK := Lib.hid hgx
        have HGR := Lib.hid hgr
        clear how hgx hgr
        go_wp2_with fail
        refine bodyPost_ret (v := .agg #[.slice (some ⟨b, off, none⟩) F.sec.length cap, .slice none 0 0]) (by simp [results, Try.results45, go_sem, y0, y1]) rfl ⟨_, _, rfl, ⟨?_, own_nil _ _ 2 none 0, fun k hk => by simp [blk, syncOf], ?_, Gr.nil _ _ _ _⟩, ?_⟩
        · rw [show (syncOf F).sec.length = F.sec.length from syncL_length F.dir F.sec]
          refine Own.other (Own.other (HOK.out.lower (by omega)) _ _ (fun k hk => ?_)) _ _ (fun k hk => ?_) <;> (have := (HOK.out.blk k hk).1; simp; omega)
        · rw [show (syncOf F).sec.length = F.sec.length from syncL_length F.dir F.sec]
          exact ((HGK.out.low _ _ (by simp)).low _ _ (by simp)).lower (by omega)
        · exact ((HBWW.out.grown HGR.out HBWW.out.size (fun k hk => by have := Option.some.inj hk; omega)).setCell (p := ⟨w.heap.size + 1, 0, none⟩) (by simp) _).setCell (p := ⟨w.heap.size + 1, 1, none⟩) (by simp) _
end Go.Proofs.Ytkeimgglikdbfaa
