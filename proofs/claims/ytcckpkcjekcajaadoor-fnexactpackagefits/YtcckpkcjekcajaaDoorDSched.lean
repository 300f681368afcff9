/- The schedule of a block: the program's. -/
import Derived.Test.YtcckpkcjekcajaaDoorDText
import Derived.StillTailTactics
import Derived.BigRegion
namespace Go.Proofs.YtcckpkcjekcajaaDoor
open Go.RowKit

theorem wsum_eq (a b : UInt32) : wsum a b = a + b := rfl
/-- The words f 0 .. f (n - 1) as cells. -/
def wordsV (n : Nat) (f : Nat → UInt32) : Array Value := ((List.range n).map fun j => V (f j)).toArray
theorem wordsV_size (n : Nat) (f : Nat → UInt32) : (wordsV n f).size = n := by simp [wordsV]
theorem wordsV_at (n : Nat) (f : Nat → UInt32) (j : Nat) (h : j < n) : (wordsV n f)[j]? = some (.int .u32 (f j).toNat) := by simp [wordsV, h, V]
theorem wordsV_one (n : Nat) (f : Nat → UInt32) : (wordsV n f).all (·.oneCell') = true := by simp [wordsV, V, Value.oneCell']
/-- A block of memory holds the words f 0 .. f (n - 1). -/
def Words (wr : World) (g : Nat) (T : TypeId) (n : Nat) (f : Nat → UInt32) : Prop := wr.heap[g]? = some (.cells (wordsV n f) T (0, 0))
theorem Words.cell {wr : World} {g n : Nat} {T : TypeId} {f : Nat → UInt32} (h : Words wr g T n f) (j : Nat) (hj : j < n) : wr.cell? ⟨g, j, none⟩ = some (.int .u32 (f j).toNat) := by
  rw [cell_of_row wr g j _ T (0, 0) h, wordsV_at n f j hj]
theorem Words.frozen {wr : World} {g n : Nat} {T : TypeId} {f : Nat → UInt32} (h : Words wr g T n f) (j : Nat) : wr.frozen? ⟨g, j, none⟩ = false := frozen_of_row wr g j _ T h
theorem Words.set {wr : World} {g n : Nat} {T : TypeId} {f f' : Nat → UInt32} (h : Words wr g T n f) (j : Nat) (x : UInt32) (hx : f' j = x) (hf : ∀ i, i ≠ j → f' i = f i) : Words (wr.setCell ⟨g, j, none⟩ (V x)) g T n f' := by
  unfold Words
  rw [heap_setCell_same wr g j _ T (V x) h]
  congr 2
  apply Array.ext_getElem?
  intro i
  unfold wordsV
  simp only [List.setIfInBounds_toArray, List.getElem?_toArray, List.getElem?_set, List.length_map, List.length_range]
  by_cases hi : j = i
  · subst hi; by_cases hj : j < n <;> simp [hj, hx]
  · rw [if_neg hi]; by_cases hn : i < n
    · simp [hn, hf i (fun e => hi e.symm)]
    · simp [hn]
theorem Words.congr {wr : World} {g n : Nat} {T : TypeId} {f f' : Nat → UInt32} (h : Words wr g T n f) (hf : ∀ i, i < n → f' i = f i) : Words wr g T n f' := by
  unfold Words at *; rw [h]; congr 2; unfold wordsV; congr 1
  apply List.map_congr_left; intro i hi; rw [hf i (by simpa using hi)]
theorem Words.below {wr wr' : World} {g n B : Nat} {T : TypeId} {f : Nat → UInt32} (h : Words wr g T n f) (hb : Below B wr wr') (hg : g < B) : Words wr' g T n f := (hb.block g hg).trans h
theorem Words.drew {wr : World} {g n m : Nat} {T : TypeId} {f : Nat → UInt32} (h : Words wr g T n f) : Words (wr.drewN m) g T n f := h
theorem words_new (W : World) (g n : Nat) (T : TypeId) (f : Nat → UInt32) (hg : W.heap.size = g) {cs : Array Value} (hc : cs = wordsV n f) : Words (W.alloc (.cells cs T)) g T n f := by
  subst hg; subst hc; exact heap_alloc_new W _
/-- The bytes of a block, as the program hands them on. -/
def bytesV (c : Nat → UInt8) : Array Value := ((List.range 64).map fun k => B (c k)).toArray
theorem bytesV_at (c : Nat → UInt8) (k : Nat) (h : k < 64) : (bytesV c)[k]? = some (.int .u8 (c k).toNat) := by simp [bytesV, h, B]

theorem below_setRow {B : Nat} {a w : World} (h : Below B a w) {g : Nat} (hg : B ≤ g) (cs : Array Value) : Below B a (w.setRow g cs) :=
  ⟨h.os, h.tape, h.output, by simpa using h.size, fun k hk => (setRow_other w g k cs (by omega)).trans (h.block k hk)⟩
def wpart (x : UInt32) (b : UInt8) : UInt32 := x <<< 8 ||| b.toUInt32
theorem w_part (x : UInt32) (b : UInt8) : bits BinOp.or IntKind.u32 (x.toNat * 256 % 4294967296) (b.toNat % 4294967296) = ((wpart x b).toNat : Int) := by
  have := w_shl x 8 (by omega)
  rw [show (2 : Int) ^ 8 = 256 by decide] at this
  have hb : (b.toNat : Int) % 4294967296 = (b.toUInt32.toNat : Int) := by
    have := b.toNat_lt; simp; omega
  rw [this, hb, u32_or]; rfl
theorem part_at (c : Nat → UInt8) (k : Nat) : part c (k + 1) (k / 4) = wpart (part c k (k / 4)) (c k) := by rw [part, if_pos rfl]; rfl
theorem part_other (c : Nat → UInt8) (k j : Nat) (h : j ≠ k / 4) : part c (k + 1) j = part c k j := by rw [part, if_neg (fun e => h e.symm)]
/-- The words when those before k have been reckoned. -/
def upto (c : Nat → UInt8) (k j : Nat) : UInt32 := if j < k then sched c j else part c 64 j
theorem upto_low (c : Nat → UInt8) (k j : Nat) (h : j < k) : upto c k j = sched c j := if_pos h
theorem upto_16 (c : Nat → UInt8) (j : Nat) : upto c 16 j = part c 64 j := by
  unfold upto; split
  · rw [sched_low c j (by omega), part_word c j 64 (by omega)]
  · rfl
theorem upto_other (c : Nat → UInt8) (k j : Nat) (h : j ≠ k) : upto c (k + 1) j = upto c k j := by
  unfold upto; by_cases hj : j < k
  · rw [if_pos hj, if_pos (by omega)]
  · rw [if_neg hj, if_neg (by omega)]
def wnext (p q r s : UInt32) : UInt32 := p + sig0 q + r + sig1 s
theorem upto_at (c : Nat → UInt8) (k : Nat) (h : 16 ≤ k) : upto c (k + 1) k = wnext (sched c (k - 16)) (sched c (k - 15)) (sched c (k - 7)) (sched c (k - 2)) := by
  rw [upto_low c _ _ (by omega), sched_high c k h]; rfl
theorem w_sig0 (x : UInt32) : bits BinOp.xor IntKind.u32 (bits BinOp.xor IntKind.u32 (rotr x 7).toNat (rotr x 18).toNat) (x.toNat / 8) = ((sig0 x).toNat : Int) := by
  have := w_shr x 3 (by omega)
  rw [show (2 : Int) ^ 3 = 8 by decide] at this
  rw [this, u32_xor, u32_xor]; rfl
theorem w_sig1 (x : UInt32) : bits BinOp.xor IntKind.u32 (bits BinOp.xor IntKind.u32 (rotr x 17).toNat (rotr x 19).toNat) (x.toNat / 1024) = ((sig1 x).toNat : Int) := by
  have := w_shr x 10 (by omega)
  rw [show (2 : Int) ^ 10 = 1024 by decide] at this
  rw [this, u32_xor, u32_xor]; rfl
theorem w_next (p q r s : UInt32) : ((p.toNat : Int) + (sig0 q).toNat + r.toNat + (sig1 s).toNat) % 4294967296 = ((wnext p q r s).toNat : Int) := by
  unfold wnext; rw [← w_add, ← w_add, ← w_add]; omega
def Sched1 (w : World) (c : Nat → UInt8) (i : Value) (wr : World) : Prop :=
  ∃ k : Nat, k ≤ 64 ∧ i = .int .i64 k ∧ Words wr (w.heap.size + 2) 131 64 (part c k) ∧ Below (w.heap.size + 2) ((w.alloc (.cells (bytesV c) 103)).alloc (.cells (wordsV 64 fun _ => 0) 131)) wr

def Sched2 (w : World) (c : Nat → UInt8) (i : Value) (wr : World) : Prop :=
  ∃ k : Nat, 16 ≤ k ∧ k ≤ 64 ∧ i = .int .i64 k ∧ Words wr (w.heap.size + 2) 131 64 (upto c k) ∧ Below (w.heap.size + 2) ((w.alloc (.cells (bytesV c) 103)).alloc (.cells (wordsV 64 fun _ => 0) 131)) wr

set_option maxHeartbeats 1000000 in
set_option maxRecDepth 100000 in
theorem schedule_any (c : Nat → UInt8) (w : World) :
    Calls Tryd.prog 86 #[.agg (bytesV c)] w fun e w' => e = .returned (.agg (wordsV 64 (sched c))) ∧ Below w.heap.size w w' := by
  go_enter Tryd.func86, Tryd.ntmps86
  go_wp2_with fail
  go_loopw [10] (fun i wr => Sched1 w c i wr) (fun i _ => 64 - (intOf i).toNat)
  case atStart =>
    refine ⟨0, by omega, rfl, ?_, ?_⟩
    · exact words_new ((w.alloc (.cells (bytesV c) 103)).alloc _) _ _ _ _ (by simp) rfl
    · exact (Below.refl _ _).alloc (by simp) _
  case round =>
    obtain ⟨k, hk, rfl, hwd, hbel⟩ := hrel
    by_cases hlt : k < 64
    · have hc := hwd.cell (k / 4) (by omega)
      have hf := hwd.frozen (k / 4)
      have hcb : wr.cell? ⟨w.heap.size, k, none⟩ = some (.int .u8 (c k).toNat) := by
        rw [hbel.cell (p := ⟨w.heap.size, k, none⟩) (by simp), Below.cell (p := ⟨w.heap.size, k, none⟩) ((Below.refl (w.heap.size + 1) (w.alloc (.cells (bytesV c) 103))).alloc (by simp) _) (by simp), World.cell?_alloc_new]
        exact bytesV_at c k hlt
      have HW := Lib.hid hwd
      have HB := Lib.hid hbel
      clear hwd hbel
      go_wp2_with fail
      go_region
      go_wp2
      go_roundw
      case rel =>
        refine ⟨k + 1, by omega, by go_num, ?_, ?_⟩
        · rw [w_part]
          exact HW.out.set (k / 4) _ (part_at c k) (fun i hi => part_other c k i hi)
        · exact (HB.out.setCell (p := ⟨w.heap.size + 2, k / 4, none⟩) (Nat.le_refl _) _).drew
      case measure => simp [intOf]; omega
    · obtain rfl : k = 64 := by omega
      clear hlt hk
      have HW := Lib.hid hwd
      have HB := Lib.hid hbel
      clear hwd hbel
      go_wp2_with fail
      go_loopw [5] (fun i wr => Sched2 w c i wr) (fun i _ => 64 - (intOf i).toNat)
      case atStart =>
        exact ⟨16, by omega, by omega, rfl, HW.out.congr (fun i _ => upto_16 c i), HB.out⟩
      case round =>
        clear HW HB
        rename_i wr0
        obtain ⟨k, hk0, hk, rfl, hwd, hbel⟩ := hrel
        by_cases hlt : k < 64
        · have hc1 := hwd.cell (k - 15) (by omega)
          have hc2 := hwd.cell (k - 2) (by omega)
          have hc3 := hwd.cell (k - 16) (by omega)
          have hc4 := hwd.cell (k - 7) (by omega)
          rw [upto_low c k _ (by omega)] at hc1 hc2 hc3 hc4
          have hc5 := hwd.cell k (by omega)
          have hf := hwd.frozen k
          have HW := Lib.hid hwd
          have HB := Lib.hid hbel
          clear hwd hbel
          go_wp2_with fail
          go_quiet (fail)
          have h1 := w_sig0 (sched c (k - 15))
          have h2 := w_sig1 (sched c (k - 2))
          have H3 := Lib.hid (w_next (sched c (k - 16)) (sched c (k - 15)) (sched c (k - 7)) (sched c (k - 2)))
          go_wp2_with ((go_at_call 93); (first | (with_reducible refine (rotated_at _ 7 7 _ rfl (by decide) (by decide)).mono ?_) | (with_reducible refine (rotated_at _ 18 18 _ rfl (by decide) (by decide)).mono ?_) | (with_reducible refine (rotated_at _ 17 17 _ rfl (by decide) (by decide)).mono ?_) | (with_reducible refine (rotated_at _ 19 19 _ rfl (by decide) (by decide)).mono ?_)); rintro r w' ⟨rfl, rfl⟩)
          go_region
          go_wp2
          go_roundw
          case rel =>
            (repeat apply Exists.intro)
            refine ⟨⟨k + 1, by omega, by omega, by go_num, ?_, ?_⟩, rfl⟩
            · rw [H3.out]
              exact HW.out.set k _ (upto_at c k hk0) (fun i hi => upto_other c k i hi)
            · exact below_drewN (HB.out.setCell (p := ⟨w.heap.size + 2, k, none⟩) (Nat.le_refl _) _) _
          case measure => simp [intOf]; omega
        · obtain rfl : k = 64 := by omega
          have HW := Lib.hid (hwd.congr (f' := sched c) fun i hi => (upto_low c 64 i hi).symm)
          have HB := Lib.hid hbel
          clear hwd hbel hlt hk hk0
          have hres : wr.heap[w.heap.size + 1]? = some (.cells (wordsV 64 fun _ => 0) 131 (0, 0)) := by
            rw [HB.out.block _ (by omega)]
            exact heap_alloc2_new w _ _
          have HR := Lib.hid hres
          clear hres
          go_wp2_with (first | ((with_reducible show wpList _ _ _ (⟨some 70, _, _, _, _, _⟩ :: _) _ _); refine wpList_load_row rfl 131 _ rfl (w.heap.size + 2) rfl 131 _ (0, 0) _ HW.out Tryd.underlying131 rfl (by rw [wordsV_size]; kernel_rfl) ?_) | ((with_reducible show wpList _ _ _ (⟨none, .store 131 (.tmp 2) (.tmp 70), _, _, _, _⟩ :: _) _ _); refine wpList_store_row rfl 131 _ _ rfl (w.heap.size + 1) (wordsV 64 (sched c)) rfl rfl 131 _ HR.out (by rw [wordsV_size]; kernel_rfl) (by rw [wordsV_size, wordsV_size]) (wordsV_one _ _) ?_))
          refine bodyPost_ret (v := .agg (wordsV 64 (sched c))) (results_cell_row Tryd.results86 _ _ (w.heap.size + 1) 131 _ (0, 0) _ rfl (setRow_heap _ _ _ _ _ _ HR.out) Tryd.underlying131 rfl (by rw [wordsV_size]; kernel_rfl)) rfl ⟨rfl, ?_⟩
          exact below_setRow ((((Below.refl _ _).alloc (Nat.le_refl _) _).alloc (by simp) _).trans (HB.out.mono (by omega))) (Nat.le_succ _) _
end Go.Proofs.YtcckpkcjekcajaaDoor
