/- One block: the program's withBlock. -/
import Derived.Test.YtcckpkcjekcajaaDoorDSched
import Derived.Deep.WholeRow
namespace Go.Proofs.YtcckpkcjekcajaaDoor
open Go.RowKit

def keyL : List UInt32 := [1116352408, 1899447441, 3049323471, 3921009573, 961987163, 1508970993, 2453635748, 2870763221, 3624381080, 310598401, 607225278, 1426881987, 1925078388, 2162078206, 2614888103, 3248222580, 3835390401, 4022224774, 264347078, 604807628, 770255983, 1249150122, 1555081692, 1996064986, 2554220882, 2821834349, 2952996808, 3210313671, 3336571891, 3584528711, 113926993, 338241895, 666307205, 773529912, 1294757372, 1396182291, 1695183700, 1986661051, 2177026350, 2456956037, 2730485921, 2820302411, 3259730800, 3345764771, 3516065817, 3600352804, 4094571909, 275423344, 430227734, 506948616, 659060556, 883997877, 958139571, 1322822218, 1537002063, 1747873779, 1955562222, 2024104815, 2227730452, 2361852424, 2428436474, 2756734187, 3204031479, 3329325298]
/-- The summands of the rounds. -/
def key (i : Nat) : UInt32 := keyL.getD i 0
/-- The state at first. -/
def start : Eight := ⟨1779033703, 3144134277, 1013904242, 2773480762, 1359893119, 2600822924, 528734635, 1541459225⟩
/-- What the program's two tables hold. -/
structure LaidT (w : World) : Prop where
  start : ∀ i, i < 8 → w.cell? ⟨0, i, none⟩ = some (.int .u32 (start.get i).toNat)
  keys : ∀ i, i < 64 → w.cell? ⟨1, i, none⟩ = some (.int .u32 (key i).toNat)
theorem LaidT.two {w : World} (h : LaidT w) : max 0 1 + 1 ≤ w.heap.size := by
  have a : 1 < w.heap.size := block_lt_of_cell (h.keys 0 (by decide))
  have b : 0 < w.heap.size := block_lt_of_cell (h.start 0 (by decide))
  omega
theorem LaidT.below {w w' : World} {B : Nat} (h : LaidT w) (hb : Below B w w') (hB : max 0 1 + 1 ≤ B) : LaidT w' :=
  ⟨fun i hi => (hb.cell (p := ⟨0, i, none⟩) (by simp; omega)).trans (h.start i hi), fun i hi => (hb.cell (p := ⟨1, i, none⟩) (by simp; omega)).trans (h.keys i hi)⟩

def Eight.step2 (s : Eight) (x : UInt32) : Eight := ⟨wsum (roundT s.e s.f s.g s.h x) (roundU s.a s.b s.c), s.a, s.b, s.c, wsum s.d (roundT s.e s.f s.g s.h x), s.e, s.f, s.g⟩
theorem Eight.step_step2 (s : Eight) (k x : UInt32) : s.step k x = s.step2 (wsum k x) := by
  simp [Eight.step, Eight.step2, wsum, roundT, roundU, UInt32.add_assoc]
theorem round_at (s : Eight) (x : UInt32) (w : World) :
    Calls Tryd.prog 87 #[.agg s.vals, V x] w fun r w' => r = .returned (.agg (s.step2 x).vals) ∧ Below w.heap.size w w' := round_any s.a s.b s.c s.d s.e s.f s.g s.h x w
theorem round_lit (a b c d e f g k x : UInt32) (w : World) :
    Calls Tryd.prog 87 #[.agg #[.int .u32 a.toNat, .int .u32 b.toNat, .int .u32 c.toNat, .int .u32 d.toNat, .int .u32 e.toNat, .int .u32 f.toNat, .int .u32 g.toNat, .int .u32 k.toNat], .int .u32 x.toNat] w fun r w' =>
      r = .returned (.agg (Eight.step2 ⟨a, b, c, d, e, f, g, k⟩ x).vals) ∧ Below w.heap.size w w' := round_any a b c d e f g k x w
/-- A block of memory holds the eight words of s. -/
def Row8 (w : World) (g : Nat) (s : Eight) : Prop := w.heap[g]? = some (.cells s.vals 100 (0, 0))
theorem Row8.cell {w : World} {g : Nat} {s : Eight} (h : Row8 w g s) (j : Nat) (hj : j < 8) : w.cell? ⟨g, j, none⟩ = some (.int .u32 (s.get j).toNat) := by
  rw [cell_of_row w g j _ _ (0, 0) h, s.vals_at j hj]; rfl
theorem Row8.frozen {w : World} {g : Nat} {s : Eight} (h : Row8 w g s) (j : Nat) : w.frozen? ⟨g, j, none⟩ = false := frozen_of_row w g j _ _ h
theorem Row8.below {w w' : World} {g B : Nat} {s : Eight} (h : Row8 w g s) (hb : Below B w w') (hg : g < B) : Row8 w' g s := (hb.block g hg).trans h

theorem row8_new (W : World) (g : Nat) (s : Eight) (hg : W.heap.size = g) : Row8 (W.alloc (.cells s.vals 100)) g s := by
  subst hg; exact heap_alloc_new W _
/-- Block g alone has turned. -/
structure Only (g : Nat) (w w' : World) : Prop where
  os : w'.os = w.os
  tape : w'.tape = w.tape
  output : w'.output = w.output
  size : w'.heap.size = w.heap.size
  block : ∀ k, k ≠ g → w'.heap[k]? = w.heap[k]?
theorem Only.below {g B : Nat} {a w w' : World} (h : Only g w w') (hb : Below B a w) (hg : B ≤ g) : Below B a w' :=
  hb.trans ⟨h.os, h.tape, h.output, by rw [h.size]; exact Nat.le_refl _, fun k hk => h.block k (by omega)⟩
/-- A whole array is stored; the world behind it under a name of its own. -/
theorem wpList_store_abs {P : Program} {ops : Array Oper} {rest : List Oper} {o : Oper} {a : Act} {w : World} {Q : Exit → Act → World → Prop} (hgd : o.guard = none) (ty : TypeId) (x y : Operand) (ho : o.op = .store ty x y)
    (g : Nat) (cells : Array Value) (hx : a.eval x = .pointer (some ⟨g, 0, none⟩)) (hy : a.eval y = .agg cells)
    (t : TypeId) (old : Array Value) (hg : w.heap[g]? = some (.cells old t (0, 0))) (hi : (P.info? ty).map (·.size) = some cells.size)
    (hold : old.size = cells.size) (h1 : cells.all (·.oneCell') = true)
    (h : ∀ w', Hid (w'.heap[g]? = some (.cells cells t (0, 0))) → Only g w w' → wpList P ops Q rest (a.put o.dst undef) w') : wpList P ops Q (o :: rest) a w :=
  wpList_store_row hgd ty x y ho g cells hx hy t old hg hi hold h1
    (h _ (setRow_heap w g old cells t _ hg) ⟨rfl, rfl, rfl, by simp, fun k hk => setRow_other w g k cells (by omega)⟩)
theorem run_storeCells_new' {P : Program} (w : World) (g : Nat) (t : TypeId) (c c' : Array Value) (hg : w.heap.size = g) (hi : (P.info? t).map (·.size) = some c'.size) (ho : c.size = c'.size) (h1 : c'.all (·.oneCell') = true) :
    (storeCells ⟨g, 0, none⟩ c'.toList 0).run P (w.alloc (.cells c t)) = .ok () (w.alloc (.cells c' t)) := hg ▸ run_storeCells_new w t c c' hi ho h1
theorem vals_size (s : Eight) : s.vals.size = 8 := rfl
theorem vals_one (s : Eight) : s.vals.all (·.oneCell') = true := by simp [Eight.vals, V, Value.oneCell']

def Block1 (w1 : World) (c : Nat → UInt8) (s : Eight) (i : Value) (wr : World) : Prop :=
  ∃ k : Nat, k ≤ 64 ∧ i = .int .i64 k ∧ Row8 wr (w1.heap.size + 1) (rounds key c s k) ∧ Below (w1.heap.size + 1) (w1.alloc (.cells (wordsV 64 (sched c)) 131)) wr
/-- The words of r, those of s added to the first k. -/
def mixed (r s : Eight) (k : Nat) : Eight :=
  ⟨if 0 < k then wsum r.a s.a else r.a, if 1 < k then wsum r.b s.b else r.b, if 2 < k then wsum r.c s.c else r.c, if 3 < k then wsum r.d s.d else r.d, if 4 < k then wsum r.e s.e else r.e, if 5 < k then wsum r.f s.f else r.f, if 6 < k then wsum r.g s.g else r.g, if 7 < k then wsum r.h s.h else r.h⟩
theorem mixed_get (r s : Eight) (k j : Nat) (h : j < 8) : (mixed r s k).get j = if j < k then wsum (r.get j) (s.get j) else r.get j := by
  match j, h with
  | 0, _ | 1, _ | 2, _ | 3, _ | 4, _ | 5, _ | 6, _ | 7, _ => rfl
  | j + 8, h => omega
theorem mixed_0 (r s : Eight) : mixed r s 0 = r := rfl
theorem mixed_8 (r s : Eight) : mixed r s 8 = s.add r := by simp [mixed, Eight.add, wsum, UInt32.add_comm]
theorem mixed_at (r s : Eight) (k : Nat) (h : k < 8) : (mixed r s k).get k = r.get k := by rw [mixed_get r s k k h, if_neg (Nat.lt_irrefl _)]
theorem mixed_new (r s : Eight) (k : Nat) (h : k < 8) : (mixed r s (k + 1)).get k = wsum (r.get k) (s.get k) := by rw [mixed_get r s _ k h, if_pos (Nat.lt_succ_self _)]
theorem mixed_other (r s : Eight) (k j : Nat) (h : j < 8) (hj : j ≠ k) : (mixed r s (k + 1)).get j = (mixed r s k).get j := by
  rw [mixed_get r s _ j h, mixed_get r s _ j h]
  by_cases h1 : j < k
  · rw [if_pos h1, if_pos (by omega)]
  · rw [if_neg h1, if_neg (by omega)]
theorem Row8.set {w : World} {g : Nat} {s s' : Eight} (h : Row8 w g s) (k : Nat) (hk : k < 8) (x : UInt32) (hx : s'.get k = x) (hf : ∀ j, j < 8 → j ≠ k → s'.get j = s.get j) : Row8 (w.setCell ⟨g, k, none⟩ (V x)) g s' := by
  unfold Row8
  rw [heap_setCell_same w g k _ _ (V x) h]
  congr 2
  apply Array.ext_getElem?
  intro j
  by_cases hj : j < 8
  · rw [s'.vals_at j hj, Array.getElem?_setIfInBounds]
    by_cases hjk : k = j
    · subst hjk
      rw [if_pos rfl, if_pos (show k < s.vals.size from hk), hx]
    · rw [if_neg hjk, s.vals_at j hj, hf j hj (fun e => hjk e.symm)]
  · have e1 : s'.vals[j]? = none := Array.getElem?_eq_none (show 8 ≤ j by omega)
    have e2 : (s.vals.setIfInBounds k (V x))[j]? = none := Array.getElem?_eq_none (by rw [Array.size_setIfInBounds]; show 8 ≤ j; omega)
    rw [e1, e2]
def Block2 (w1 : World) (c : Nat → UInt8) (r s : Eight) (i : Value) (wr : World) : Prop :=
  ∃ k : Nat, k ≤ 8 ∧ i = .int .i64 k ∧ Row8 wr (w1.heap.size + 1) (mixed r s k) ∧ Below (w1.heap.size + 1) (w1.alloc (.cells (wordsV 64 (sched c)) 131)) wr
theorem Row8.cells {w : World} {g : Nat} {a b c d e f i k : UInt32} (h : Row8 w g ⟨a, b, c, d, e, f, i, k⟩) :
    w.cell? ⟨g, 0, none⟩ = some (.int .u32 a.toNat) ∧ w.cell? ⟨g, 1, none⟩ = some (.int .u32 b.toNat) ∧ w.cell? ⟨g, 2, none⟩ = some (.int .u32 c.toNat) ∧ w.cell? ⟨g, 3, none⟩ = some (.int .u32 d.toNat) ∧
    w.cell? ⟨g, 4, none⟩ = some (.int .u32 e.toNat) ∧ w.cell? ⟨g, 5, none⟩ = some (.int .u32 f.toNat) ∧ w.cell? ⟨g, 6, none⟩ = some (.int .u32 i.toNat) ∧ w.cell? ⟨g, 7, none⟩ = some (.int .u32 k.toNat) :=
  ⟨h.cell 0 (by decide), h.cell 1 (by decide), h.cell 2 (by decide), h.cell 3 (by decide), h.cell 4 (by decide), h.cell 5 (by decide), h.cell 6 (by decide), h.cell 7 (by decide)⟩
theorem Row8.froz {w : World} {g : Nat} {s : Eight} (h : Row8 w g s) :
    w.frozen? ⟨g, 0, none⟩ = false ∧ w.frozen? ⟨g, 1, none⟩ = false ∧ w.frozen? ⟨g, 2, none⟩ = false ∧ w.frozen? ⟨g, 3, none⟩ = false ∧
    w.frozen? ⟨g, 4, none⟩ = false ∧ w.frozen? ⟨g, 5, none⟩ = false ∧ w.frozen? ⟨g, 6, none⟩ = false ∧ w.frozen? ⟨g, 7, none⟩ = false :=
  ⟨h.frozen 0, h.frozen 1, h.frozen 2, h.frozen 3, h.frozen 4, h.frozen 5, h.frozen 6, h.frozen 7⟩

set_option maxHeartbeats 1000000 in
set_option maxRecDepth 100000 in
theorem block_any (c : Nat → UInt8) (s : Eight) (w : World) (hl : LaidT w) :
    Calls Tryd.prog 73 #[.agg s.vals, .agg (bytesV c)] w fun e w' => e = .returned (.agg (block key c s).vals) ∧ Below w.heap.size w w' := by
  obtain ⟨res, hres⟩ : ∃ res, res = block key c s := ⟨_, rfl⟩
  rw [← hres]
  have HRES := Lib.hid hres
  clear hres
  go_enter Tryd.func73, Tryd.ntmps73
  go_wp2_with ((with_reducible show wpList _ _ _ (⟨some 9, _, _, _, _, _⟩ :: _) _ _); refine wpList_load_row rfl 103 _ rfl (w.heap.size + 1) rfl 103 (bytesV c) (0, 0) _ ?_ Tryd.underlying103 rfl ?_ ?_)
  case refine_1 =>
    exact (heap_alloc_old _ _ (by simp)).trans (heap_alloc2_new w _ _)
  case refine_2 => rw [show (bytesV c).size = 64 by simp [bytesV]]; kernel_rfl
  refine (schedule_any c _).mono ?_
  rintro e w1 ⟨rfl, hb1⟩
  have hz1 : w.heap.size + 3 ≤ w1.heap.size := by have := hb1.size; simpa using this
  have hr0 : Row8 w1 w.heap.size s := by
    refine (hb1.block _ (by simp; omega)).trans ?_
    rw [heap_alloc_old _ _ (by simp; omega)]; exact heap_alloc2_old w _ _
  have hr2 : Row8 w1 (w.heap.size + 2) ⟨0, 0, 0, 0, 0, 0, 0, 0⟩ := by
    refine (hb1.block _ (by simp)).trans ?_
    exact row8_new ((w.alloc (.cells s.vals 100)).alloc (.cells (bytesV c) 103)) (w.heap.size + 2) ⟨0, 0, 0, 0, 0, 0, 0, 0⟩ (by simp)
  have hbw : Below w.heap.size w w1 := ((((Below.refl _ w).alloc (Nat.le_refl _) _).alloc (by simp) _).alloc (by simp; omega) _).trans (hb1.mono (by simp; omega))
  have hl1 : LaidT w1 := hl.below hbw hl.two
  have h2 := hl.two
  have HR0 := Lib.hid hr0
  have HR2 := Lib.hid hr2
  have HL1 := Lib.hid hl1
  have HBW := Lib.hid hbw
  clear hb1 hr0 hr2 hl1 hbw hl
  have hs1 : (wordsV 64 (sched c)).size = 64 := wordsV_size _ _
  have hs2 : s.vals.size = 8 := rfl
  have hst1 : ∀ c0 : Array Value, c0.size = 64 → (storeCells ⟨w1.heap.size, 0, none⟩ (wordsV 64 (sched c)).toList 0).run Tryd.prog (w1.alloc (.cells c0 131)) = .ok () (w1.alloc (.cells (wordsV 64 (sched c)) 131)) :=
    fun c0 h0 => run_storeCells_new w1 131 c0 _ (by rw [wordsV_size]; kernel_rfl) (by rw [h0, wordsV_size]) (wordsV_one _ _)
  have hst2 : ∀ c0 : Array Value, c0.size = 8 → (storeCells ⟨w1.heap.size + 1, 0, none⟩ s.vals.toList 0).run Tryd.prog ((w1.alloc (.cells (wordsV 64 (sched c)) 131)).alloc (.cells c0 100)) = .ok () ((w1.alloc (.cells (wordsV 64 (sched c)) 131)).alloc (.cells s.vals 100)) :=
    fun c0 h0 => run_storeCells_new' (w1.alloc (.cells (wordsV 64 (sched c)) 131)) _ 100 c0 _ (by simp) (by kernel_rfl) h0 (vals_one s)
  go_wp2_with ((with_reducible show wpList _ _ _ (⟨some 11, _, _, _, _, _⟩ :: _) _ _); refine wpList_load_row rfl 100 _ rfl w.heap.size rfl 100 s.vals (0, 0) _ ((heap_alloc_old _ _ (by omega)).trans HR0.out) Tryd.underlying100 rfl (by kernel_rfl) ?_)
  clear hst1 hst2 hs1 hs2
  go_loopw [12] (fun i wr => Block1 w1 c s i wr) (fun i _ => 64 - (intOf i).toNat)
  case atStart =>
    exact ⟨0, by omega, rfl, row8_new _ _ s (by simp), (Below.refl _ _).alloc (by simp) _⟩
  case round =>
    obtain ⟨k, hk, rfl, hrow, hbel⟩ := hrel
    by_cases hlt : k < 64
    · have hkey : wr.cell? ⟨1, k, none⟩ = some (.int .u32 (key k).toNat) :=
        (hbel.cell (p := ⟨1, k, none⟩) (by simp; omega)).trans ((Below.cell (p := ⟨1, k, none⟩) ((Below.refl w1.heap.size w1).alloc (Nat.le_refl _) _) (by simp; omega)).trans (HL1.out.keys k hlt))
      have hwd : wr.cell? ⟨w1.heap.size, k, none⟩ = some (.int .u32 (sched c k).toNat) :=
        (hbel.cell (p := ⟨w1.heap.size, k, none⟩) (by simp)).trans ((World.cell?_alloc_new _ _ _ _).trans (wordsV_at 64 _ k hlt))
      obtain ⟨s', hs'⟩ : ∃ s', rounds key c s k = s' := ⟨_, rfl⟩
      have HS' := Lib.hid hs'
      rw [hs'] at hrow
      clear hs'
      obtain ⟨a0, a1, a2, a3, a4, a5, a6, a7⟩ := s'
      obtain ⟨c0, c1, c2, c3, c4, c5, c6, c7⟩ := hrow.cells
      obtain ⟨f0, f1, f2, f3, f4, f5, f6, f7⟩ := hrow.froz
      have HROW := Lib.hid hrow
      have HBEL := Lib.hid hbel
      clear hrow hbel
      have hwr : IntKind.u32.wrap (((key k).toNat : Int) + ((sched c k).toNat : Int)) = ((wsum (key k) (sched c k)).toNat : Int) := u32_add _ _
      go_wp2_with fail
      go_still_tail 8, (by kernel_rfl)
      clear hwr c0 c1 c2 c3 c4 c5 c6 c7 f0 f1 f2 f3 f4 f5 f6 f7
      change wpList _ _ _ _ _ wr.drew
      go_wp2_with fail
      refine (round_lit a0 a1 a2 a3 a4 a5 a6 a7 (wsum (key k) (sched c k)) _).mono ?_
      rintro e w2 ⟨rfl, hb2⟩
      have hlt2 : w1.heap.size + 1 < wr.drew.heap.size := (Array.getElem?_eq_some_iff.1 HROW.out).1
      have HROW2 := Lib.hid (Row8.below (w := wr.drew) (w' := w2) HROW.out hb2 hlt2)
      have HB2 := Lib.hid (HBEL.out.drew.trans (hb2.mono (Nat.le_of_lt hlt2)))
      clear hb2 hlt2
      go_wp2_with ((with_reducible show wpList _ _ _ (⟨none, .store 100 (.tmp 6) (.tmp 23), _, _, _, _⟩ :: _) _ _); refine wpList_store_abs rfl 100 _ _ rfl (w1.heap.size + 1) (Eight.step2 ⟨a0, a1, a2, a3, a4, a5, a6, a7⟩ (wsum (key k) (sched c k))).vals rfl rfl 100 _ HROW2.out (by kernel_rfl) ((vals_size _).trans (vals_size _).symm) (vals_one _) ?_; intro w3 HW3 ho3; have HO3 := Lib.hid ho3; clear ho3)
      go_roundw
      case rel =>
        refine ⟨k + 1, by omega, by go_num, ?_, HO3.out.below HB2.out (Nat.le_refl _)⟩
        show Row8 w3 (w1.heap.size + 1) ((rounds key c s k).step (key k) (sched c k))
        rw [Eight.step_step2, HS'.out]
        exact HW3.out
      case measure => simp [intOf]; omega
    · obtain rfl : k = 64 := by omega
      obtain ⟨r, hr⟩ : ∃ r, r = rounds key c s 64 := ⟨_, rfl⟩
      rw [← hr] at hrow
      have HRR := Lib.hid (show res = s.add r by rw [HRES.out, hr]; rfl)
      have HROW := Lib.hid hrow
      have HBEL := Lib.hid hbel
      clear hrow hbel hlt hk hr HRES
      go_wp2_with fail
      go_loopw [25] (fun i wr => Block2 w1 c r s i wr) (fun i _ => 8 - (intOf i).toNat)
      case atStart =>
        exact ⟨0, by omega, rfl, by rw [mixed_0]; exact HROW.out, HBEL.out⟩
      case round =>
        clear HROW HBEL
        rename_i wr0
        obtain ⟨k, hk, rfl, hrow, hbel⟩ := hrel
        by_cases hlt : k < 8
        · have hc1 := hrow.cell k hlt
          have hf1 := hrow.frozen k
          rw [mixed_at _ _ k hlt] at hc1
          have hr0 : Row8 wr w.heap.size s := (hbel.block _ (by omega)).trans ((heap_alloc_old _ _ (by omega)).trans HR0.out)
          have hc2 := hr0.cell k hlt
          have hne : w.heap.size ≠ w1.heap.size + 1 := by omega
          have HROW := Lib.hid hrow
          have HBEL := Lib.hid hbel
          clear hrow hbel hr0
          go_wp2_with fail
          go_region
          go_wp2
          go_roundw
          case rel =>
            refine ⟨k + 1, by omega, by go_num, ?_, ?_⟩
            · rw [w_sum]
              exact HROW.out.set k hlt _ (mixed_new _ _ k hlt) (fun j hj hjk => mixed_other _ _ k j hj hjk)
            · exact (HBEL.out.setCell (p := ⟨w1.heap.size + 1, k, none⟩) (Nat.le_refl _) _).drew
          case measure => simp [intOf]; omega
        · obtain rfl : k = 8 := by omega
          have HROW := Lib.hid (show Row8 wr (w1.heap.size + 1) res by rw [HRR.out, ← mixed_8]; exact hrow)
          have HR3 := Lib.hid (show Row8 wr (w.heap.size + 2) ⟨0, 0, 0, 0, 0, 0, 0, 0⟩ from (hbel.block _ (by omega)).trans ((heap_alloc_old _ _ (by omega)).trans HR2.out))
          have HBEL := Lib.hid hbel
          clear hrow hbel hlt hk
          go_wp2_with (first | ((with_reducible show wpList _ _ _ (⟨some 37, _, _, _, _, _⟩ :: _) _ _); refine wpList_load_row rfl 100 _ rfl (w1.heap.size + 1) rfl 100 _ (0, 0) _ HROW.out Tryd.underlying100 rfl (by kernel_rfl) ?_) | ((with_reducible show wpList _ _ _ (⟨none, .store 100 (.tmp 4) (.tmp 37), _, _, _, _⟩ :: _) _ _); refine wpList_store_row rfl 100 _ _ rfl (w.heap.size + 2) res.vals rfl rfl 100 _ HR3.out (by kernel_rfl) ((vals_size _).trans (vals_size _).symm) (vals_one _) ?_))
          refine bodyPost_ret (v := .agg res.vals) (results_cell_row Tryd.results73 _ _ (w.heap.size + 2) 100 _ (0, 0) _ rfl (setRow_heap _ _ _ _ _ _ HR3.out) Tryd.underlying100 rfl (by kernel_rfl)) rfl ⟨rfl, ?_⟩
          exact below_setRow (HBW.out.trans (((Below.refl w.heap.size w1).alloc (by omega) _).trans (HBEL.out.mono (by omega)))) (by omega) _
end Go.Proofs.YtcckpkcjekcajaaDoor
