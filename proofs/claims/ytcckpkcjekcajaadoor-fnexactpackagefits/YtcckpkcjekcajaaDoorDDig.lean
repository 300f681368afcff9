/- The program's Digest. -/
import Derived.Test.YtcckpkcjekcajaaDoorDPad
namespace Go.Proofs.YtcckpkcjekcajaaDoor
open Go.RowKit

theorem load_bytes {w : World} {g N k : Nat} {l : Nat → UInt8} (h : CellsAt w g 5 N (fun j => B (l j))) (hk : 64 * k + 64 ≤ N) :
    (loadVar 103 ⟨g, 64 * k, none⟩).run Tryd.prog w = .ok (.agg (bytesV fun j => l (64 * k + j))) w := by
  have hl := run_loadCells_list (P := Tryd.prog) w ⟨g, 64 * k, none⟩ (bytesV fun j => l (64 * k + j)).toList (fun j v hv => by
    have hj : j < 64 := by
      have := (List.getElem?_eq_some_iff.1 hv).1
      simpa [bytesV] using this
    have hadd : (⟨g, 64 * k, none⟩ : Addr).add j = ⟨g, 64 * k + j, none⟩ := by simp [Addr.add]
    rw [hadd, h.cell _ (by omega)]
    have : (bytesV fun j => l (64 * k + j)).toList[j]? = some (B (l (64 * k + j))) := by simp [bytesV, hj]
    rw [this] at hv
    exact hv)
  have e : (bytesV fun j => l (64 * k + j)).toList.length = 64 := by simp [bytesV]
  rw [e] at hl
  simp only [Array.toArray_toList] at hl
  have hagg : (isAgg 103).run Tryd.prog w = .ok true w := by
    unfold isAgg
    rw [Sem.run_bind, run_underlying Tryd.underlying103 w]
    rfl
  have hi : (Tryd.prog.info? 103).map (·.size) = some 64 := by kernel_rfl
  cases hq : Tryd.prog.info? 103 with
  | none => simp [hq] at hi
  | some i =>
    have hs : i.size = 64 := by simpa [hq] using hi
    simp [loadVar, Sem.run_bind, hagg, sizeOf, typeInfo, hq, hs, hl]
/-- A load in a region that draws, its run told. -/
theorem wpStill_load {P : Program} {ops : Array Oper} {w : World} {Q : Act → Prop} {a : Act} {o : Oper} {rest : List Oper} (hgd : o.guard = none) (ty : TypeId) (x : Operand) (ho : o.op = .load ty x)
    (p : Addr) (hx : a.eval x = .pointer (some p)) (v : Value) (hrun : (loadVar ty p).run P w = .ok v w) (h : wpStill P ops w Q rest (a.put o.dst v)) : wpStill P ops w Q (o :: rest) a := by
  refine wpStill_step fun K hK => ?_
  rw [if_pos (by unfold Region.wanted; rw [hgd])]
  unfold Oper.still execOp
  simp only [ho, hx, Instr.loadAt, Instr.sureAddr, Sem.run_bind, Sem.run_pure, Result.andThen_ok, hrun]
  exact ⟨rfl, hK _ h⟩

def DigRel (w : World) (l : List UInt8) (N : Nat) (r i : Value) (wr : World) : Prop :=
  ∃ k : Nat, 64 * k ≤ N ∧ i = .int .i64 k ∧ (64 * k < N → r = .slice (some ⟨w.heap.size + 1, 64 * k, none⟩) (N - 64 * k) (N - 64 * k)) ∧ Row8 wr w.heap.size (blocks key (padB l) start k) ∧
    CellsAt wr (w.heap.size + 1) 5 N (fun j => B (padB l j)) ∧ Below w.heap.size w wr

set_option maxHeartbeats 1000000 in
set_option maxRecDepth 100000 in
theorem digest_any (s : ByteArray) (w : World) (h : s.size ≤ 8000) (hl : LaidT w) :
    Calls Tryd.prog 51 #[.string s] w fun e w' => e = .returned (.string ⟨(sha key start s.data.toList).toArray⟩) ∧ Below w.heap.size w w' := by
  obtain ⟨str, hstr⟩ : ∃ str : ByteArray, str = ⟨(sha key start s.data.toList).toArray⟩ := ⟨_, rfl⟩
  rw [← hstr]
  have HSTR := Lib.hid hstr
  clear hstr
  have h2 := hl.two
  have d1 : decide ((8000 : Int) < (s.size : Int)) = false := decide_eq_false (by omega)
  have g0 := hl.start 0 (by decide)
  have g1 := hl.start 1 (by decide)
  have g2 := hl.start 2 (by decide)
  have g3 := hl.start 3 (by decide)
  have g4 := hl.start 4 (by decide)
  have g5 := hl.start 5 (by decide)
  have g6 := hl.start 6 (by decide)
  have g7 := hl.start 7 (by decide)
  have HL := Lib.hid hl
  clear hl
  go_enter Tryd.func51, Tryd.ntmps51
  go_wp2_with fail
  refine (pad_any s _ h).mono ?_
  rintro e w1 ⟨rfl, hc1, hb1⟩
  have hn := (Lib.size_eq s).symm
  rw [hn] at hc1
  rw [hn]
  have hN9 := padN_gt s.size
  have hN72 := padN_le s.size
  have hNM : padN s.size = 64 * (padN s.size / 64) := by unfold padN; omega
  have hrow : Row8 w1 w.heap.size start := (hb1.block _ (by simp)).trans (heap_alloc_new w _)
  have hbw : Below w.heap.size w w1 := ((Below.refl _ w).alloc (Nat.le_refl _) _).trans (hb1.mono (by simp))
  simp only [World.size_alloc] at hc1
  have HFIN := Lib.hid (show bytesUpto (blocks key (padB s.data.toList) start (padN s.size / 64)) 32 = sha key start s.data.toList by rw [← hn]; rfl)
  generalize padN s.size = N at *
  have HNM := Lib.hid hNM
  have HC1 := Lib.hid hc1
  have HROW := Lib.hid hrow
  have HBW := Lib.hid hbw
  clear hc1 hrow hbw hb1 hNM hn g0 g1 g2 g3 g4 g5 g6 g7
  go_wp2_with fail
  go_loopw [4, 14] (fun r i wr => DigRel w s.data.toList N r i wr) (fun _ i _ => N - 64 * (intOf i).toNat)
  case atStart =>
    exact ⟨0, by omega, rfl, fun _ => rfl, HROW.out, HC1.out, HBW.out⟩
  case round =>
    clear HROW HC1 HBW
    obtain ⟨k, hk, rfl, hr, hrow, hcs, hbel⟩ := hrel
    by_cases hlt : 64 * k < N
    · obtain rfl := hr hlt
      have hM : 64 * k + 64 ≤ N := by have := HNM.out; omega
      have HLB := Lib.hid (load_bytes (w := wr.drew) hcs.drew hM)
      generalize hL : N - 64 * k = L at *
      have hL64 : 64 ≤ L := by omega
      have hL64i : (64 : Int) ≤ (L : Int) := by omega
      have HLL := Lib.hid hL
      clear hL
      have hat : ∀ w' : World, (Instr.arrayAt 103 (.slice (some ⟨w.heap.size + 1, 64 * k, none⟩) 64 L)).run Tryd.prog w' = .ok (.pointer (some ⟨w.heap.size + 1, 64 * k, none⟩)) w' := fun w' => run_arrayAt (w := w') 103 _ 64 _ 64 _ Tryd.underlying103 (Nat.le_refl _)
      obtain ⟨s', hs'⟩ : ∃ s', blocks key (padB s.data.toList) start k = s' := ⟨_, rfl⟩
      have HS' := Lib.hid hs'
      rw [hs'] at hrow
      clear hs' hr
      obtain ⟨a0, a1, a2, a3, a4, a5, a6, a7⟩ := s'
      obtain ⟨c0, c1, c2, c3, c4, c5, c6, c7⟩ := hrow.cells
      have HROW := Lib.hid hrow
      have HBEL := Lib.hid hbel
      have HCS := Lib.hid hcs
      clear hrow hbel hcs
      have hd : decide ((k : Int) < (N : Int) / 64) = true := decide_eq_true (by omega)
      go_wp2_with fail
      go_still_tail 5, (by kernel_rfl)
      refine wpStill_load rfl 103 _ rfl ⟨w.heap.size + 1, 64 * k, none⟩ rfl _ HLB.out ?_
      refine wpStill_nil ?_
      change wpList _ _ _ _ _ wr.drew
      clear c0 c1 c2 c3 c4 c5 c6 c7 HLB
      go_wp2_with fail
      have hblk := block_any (fun j => padB s.data.toList (64 * k + j)) ⟨a0, a1, a2, a3, a4, a5, a6, a7⟩ wr.drew (HL.out.below (HBEL.out.drew) h2)
      generalize hres : block key (fun j => padB s.data.toList (64 * k + j)) ⟨a0, a1, a2, a3, a4, a5, a6, a7⟩ = res at hblk
      have HRES := Lib.hid hres
      clear hres
      refine hblk.mono ?_
      clear hblk
      rintro e w2 ⟨rfl, hb2⟩
      have hlt2 : w.heap.size + 1 < wr.drew.heap.size := HCS.out.lt
      have HROW2 := Lib.hid (Row8.below (w := wr.drew) (w' := w2) HROW.out hb2 (by omega))
      have HB2 := Lib.hid (HBEL.out.drew.trans (hb2.mono (by omega)))
      have HCS2 := Lib.hid (CellsAt.below (wr := wr.drew) HCS.out hb2 hlt2)
      clear hb2 hlt2
      by_cases hlast : L = 64
      · subst hlast
        go_wp2_with ((with_reducible show wpList _ _ _ (⟨none, .store 100 (.tmp 3) (.tmp 21), _, _, _, _⟩ :: _) _ _); refine wpList_store_abs rfl 100 _ _ rfl w.heap.size res.vals rfl rfl 100 _ HROW2.out (by kernel_rfl) ((vals_size _).trans (vals_size _).symm) (vals_one _) ?_; intro w3 HW3 ho3; have HO3 := Lib.hid ho3; clear ho3)
        go_roundw
        case rel =>
          have := HLL.out
          refine ⟨k + 1, by omega, by go_num, fun hh => absurd hh (by omega), ?_, ?_, HO3.out.below HB2.out (Nat.le_refl _)⟩
          · rw [blocks_succ, HS'.out, HRES.out]; exact HW3.out
          · exact (HO3.out.block _ (by omega)).trans HCS2.out
        case measure => simp [intOf]; omega
      · have hgt : 65 ≤ L := by omega
        go_wp2_with ((with_reducible show wpList _ _ _ (⟨none, .store 100 (.tmp 3) (.tmp 21), _, _, _, _⟩ :: _) _ _); refine wpList_store_abs rfl 100 _ _ rfl w.heap.size res.vals rfl rfl 100 _ HROW2.out (by kernel_rfl) ((vals_size _).trans (vals_size _).symm) (vals_one _) ?_; intro w3 HW3 ho3; have HO3 := Lib.hid ho3; clear ho3)
        go_roundw
        case rel =>
          have hq := HLL.out
          refine ⟨k + 1, by omega, by go_num, fun hh => ?_, ?_, ?_, HO3.out.below HB2.out (Nat.le_refl _)⟩
          · rw [show 64 * (k + 1) = 64 * k + 64 by omega, show N - (64 * k + 64) = L - 64 by omega]
          · rw [blocks_succ, HS'.out, HRES.out]; exact HW3.out
          · exact (HO3.out.block _ (by omega)).trans HCS2.out
        case measure => simp [intOf]; omega
    · have hkM : k = N / 64 := by have := HNM.out; omega
      rw [hkM] at hrow
      have hd : decide ((k : Int) < (N : Int) / 64) = false := decide_eq_false (by omega)
      clear hkM
      obtain ⟨s', hs'⟩ : ∃ s', blocks key (padB s.data.toList) start (N / 64) = s' := ⟨_, rfl⟩
      rw [hs'] at hrow
      have HX := Lib.hid (show str = ⟨(bytesUpto s' 32).toArray⟩ by rw [HSTR.out, ← HFIN.out, hs'])
      have HROW := Lib.hid hrow
      have HBEL := Lib.hid hbel
      clear hs' hr hrow hbel hcs HFIN HSTR
      go_wp2_with ((with_reducible show wpList _ _ _ (⟨some 25, _, _, _, _, _⟩ :: _) _ _); refine wpList_load_row rfl 100 _ rfl w.heap.size rfl 100 _ (0, 0) _ HROW.out Tryd.underlying100 rfl (by kernel_rfl) ?_)
      refine (stateText_any s' _).mono ?_
      rintro e w2 ⟨rfl, hb2⟩
      have hz : w.heap.size ≤ wr.heap.size := HBEL.out.size
      go_wp2_with fail
      go_ret
      exact ⟨by rw [HX.out]; rfl, HBEL.out.trans (hb2.mono hz)⟩

set_option maxHeartbeats 400000 in
theorem digest_long (s : ByteArray) (w : World) (hs : s.size ≤ maxLen) (h : 8000 < s.size) :
    Calls Tryd.prog 51 #[.string s] w fun e w' => e = .returned (.string ⟨#[]⟩) ∧ w = w' := by
  unfold maxLen at hs
  go_enter Tryd.func51, Tryd.ntmps51
  go_wp2_with fail
  go_ret
  exact ⟨rfl, rfl⟩
end Go.Proofs.YtcckpkcjekcajaaDoor
