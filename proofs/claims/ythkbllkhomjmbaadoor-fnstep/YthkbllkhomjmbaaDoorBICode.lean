/- impl.StepsCode. -/
import Derived.Test.YthkbllkhomjmbaaDoorM1
import Derived.Test.YthkbllkhomjmbaaDoorBIRight
namespace Go.Proofs.YthkbllkhomjmbaaDoor
open Go.RowKit

theorem below_nx {W a b : World} (h : Below W.heap.size W a) (k : Below a.heap.size a b) : Below W.heap.size W b := h.trans (k.mono h.size)
set_option maxRecDepth 100000 in
set_option maxHeartbeats 1000000 in
theorem wrong_fn (k t f n : Int) (d : ByteArray) (B : Nat) (w : World) (hB : w.cell? ⟨B, 0, none⟩ = some (.int .i64 n)) (hlt : B < w.heap.size) :
    Calls Tryd.prog 79 #[.agg #[.int .i64 k, .int .i64 t, .int .i64 f, .string d], .pointer (some ⟨B, 0, none⟩)] w fun e w' => e = .returned (.bool (wrongS n (k, t, f, d))) ∧ Below w.heap.size w w' := by
  have HB := Lib.hid (below_alloc1 w (.cells #[.int .i64 k, .int .i64 t, .int .i64 f, .string d] 41))
  have hb := (below_alloc1 w (.cells #[.int .i64 k, .int .i64 t, .int .i64 f, .string d] 41)).cell (p := ⟨B, 0, none⟩) hlt
  rw [hB] at hb
  obtain ⟨R, hR⟩ : ∃ R, R = stepB n k t f d := ⟨_, rfl⟩
  have hw : wrongS n (k, t, f, d) = !R := by rw [hR]; rfl
  rw [hw]
  have HR := Lib.hid hR
  clear hR hw
  go_enter Tryd.func79, Tryd.ntmps79
  go_wp2_with fail
  have hc := implRight k t f n d (w.alloc (.cells #[.int .i64 k, .int .i64 t, .int .i64 f, .string d] 41))
  rw [← HR.out] at hc
  refine hc.mono ?_
  clear hc
  rintro e w1 ⟨rfl, hb1⟩
  have HB1 := Lib.hid (below_nx HB.out hb1)
  clear hb1
  go_wp2_with fail
  go_ret
  exact ⟨rfl, HB1.out⟩

def IxRel (l : List stpT) (n : Int) (w : World) (i : Value) (wr : World) : Prop := ∃ k : Nat, k ≤ l.length ∧ i = .int .i64 k ∧ (∀ j (h : j < l.length), j < k → wrongS n l[j] = false) ∧ Below w.heap.size w wr
/-- What IndexFunc gives: whether there is a step that is not valid, by the sign. -/
def IxFound (l : List stpT) (n : Int) (w : World) (e : Ending) (w' : World) : Prop := ∃ r : Int, e = .returned (.int .i64 r) ∧ (0 ≤ r ↔ ∃ s ∈ l, wrongS n s = true) ∧ -1 ≤ r ∧ r ≤ 1048576 ∧ Below w.heap.size w w'
set_option maxHeartbeats 2000000 in
set_option maxRecDepth 100000 in
theorem indexS_any (vl : Value) (l : List stpT) (n : Int) (B : Nat) (w : World) (hl : Rd w vl l.length 4 (stpCs l)) (hn : l.length ≤ 1048576) (hB : w.cell? ⟨B, 0, none⟩ = some (.int .i64 n)) (hlt : B < w.heap.size) :
    Calls Tryd.prog 111 #[vl, .func (.func 79) #[] #[.pointer (some ⟨B, 0, none⟩)]] w (IxFound l n w) := by
  obtain ⟨al, cl, rfl, -⟩ := id hl.2
  have HV := Lib.hid hl
  have HBB := Lib.hid hB
  clear hl hB
  go_enter Tryd.func111, Tryd.ntmps111
  go_wp2_with fail
  go_loopw [8] (fun i wr => IxRel l n w i wr) (fun i _ => l.length - (intOf i).toNat)
  case atStart => exact ⟨0, by omega, rfl, fun j _ hj => absurd hj (by omega), Below.refl _ _⟩
  case round =>
    obtain ⟨k, hk, rfl, hseen, hb⟩ := hrel
    have HSEEN := Lib.hid hseen
    have HB := Lib.hid hb
    clear hseen hb
    by_cases hlk : k < l.length
    · obtain ⟨b, off, rfl, hbl, hcell⟩ := HV.out.get (by omega)
      have r0 : wr.cell? ⟨b, off + k * 4, none⟩ = some (.int .i64 l[k].1) := by rw [HB.out.cell (p := ⟨b, off + k * 4, none⟩) hbl, hcell (k * 4) (by omega), stpCs_0 l k hlk]
      have r1 : wr.cell? ⟨b, off + k * 4 + 1, none⟩ = some (.int .i64 l[k].2.1) := by rw [HB.out.cell (p := ⟨b, off + k * 4 + 1, none⟩) hbl, Nat.add_assoc, hcell (k * 4 + 1) (by omega), stpCs_1 l k hlk]
      have r2 : wr.cell? ⟨b, off + k * 4 + 2, none⟩ = some (.int .i64 l[k].2.2.1) := by rw [HB.out.cell (p := ⟨b, off + k * 4 + 2, none⟩) hbl, Nat.add_assoc, hcell (k * 4 + 2) (by omega), stpCs_2 l k hlk]
      have r3 : wr.cell? ⟨b, off + k * 4 + 3, none⟩ = some (.string l[k].2.2.2) := by rw [HB.out.cell (p := ⟨b, off + k * 4 + 3, none⟩) hbl, Nat.add_assoc, hcell (k * 4 + 3) (by omega), stpCs_3 l k hlk]
      have e0 : (k : Int) < (l.length : Int) := by omega
      have e1 : (0 : Int) ≤ (k : Int) := by omega
      have hsz := HB.out.size
      clear hcell
      go_wp2_with fail
      refine (wrong_fn l[k].1 l[k].2.1 l[k].2.2.1 n l[k].2.2.2 B _ ((HB.out.cell (p := ⟨B, 0, none⟩) hlt).trans HBB.out) (by omega)).mono ?_
      rintro e w2 ⟨rfl, hb2⟩
      have HB2 := Lib.hid (HB.out.trans (hb2.mono hsz))
      clear hb2
      obtain ⟨q, hq⟩ : ∃ q, wrongS n (l[k].1, l[k].2.1, l[k].2.2.1, l[k].2.2.2) = q := ⟨_, rfl⟩
      have hq' : wrongS n l[k] = q := hq
      rw [hq]
      have HQ := Lib.hid hq'
      clear hq hq'
      cases q with
      | true =>
        go_wp2_with fail
        go_ret
        exact ⟨k, rfl, ⟨fun _ => ⟨_, List.getElem_mem hlk, HQ.out⟩, fun _ => by omega⟩, by omega, by omega, HB2.out⟩
      | false =>
        go_wp2_with fail
        go_roundw
        case rel =>
          refine ⟨k + 1, by omega, by go_num, fun j h hj => ?_, HB2.out⟩
          by_cases hjk : j = k
          · subst hjk; exact HQ.out
          · exact HSEEN.out j h (by omega)
        case measure => simp [intOf]; omega
    · obtain rfl : k = l.length := by omega
      have d1 : decide ((l.length : Int) < (l.length : Int)) = false := decide_eq_false (by omega)
      go_wp2_with fail
      go_ret
      refine ⟨-1, rfl, ⟨fun h => by omega, fun ⟨a, ha, hbad⟩ => ?_⟩, by omega, by omega, HB.out⟩
      obtain ⟨j, hj, rfl⟩ := List.mem_iff_getElem.1 ha
      rw [HSEEN.out j hj hj] at hbad
      cases hbad
set_option maxHeartbeats 1000000 in
set_option maxRecDepth 100000 in
theorem containsS_any (vl : Value) (l : List stpT) (n : Int) (B : Nat) (w : World) (hl : Rd w vl l.length 4 (stpCs l)) (hn : l.length ≤ 1048576) (hB : w.cell? ⟨B, 0, none⟩ = some (.int .i64 n)) (hlt : B < w.heap.size) :
    Calls Tryd.prog 80 #[vl, .func (.func 79) #[] #[.pointer (some ⟨B, 0, none⟩)]] w fun e w' => ∃ b : Bool, e = .returned (.bool b) ∧ (b = true ↔ ∃ s ∈ l, wrongS n s = true) ∧ Below w.heap.size w w' := by
  obtain ⟨al, cl, rfl, -⟩ := id hl.2
  have HV := Lib.hid hl
  have HBB := Lib.hid hB
  clear hl hB
  go_enter Tryd.func80, Tryd.ntmps80
  go_wp2_with fail
  refine (indexS_any _ l n B w HV.out hn HBB.out hlt).mono ?_
  rintro e w1 ⟨r, rfl, hiff, h0, h1, hb⟩
  have HI := Lib.hid hiff
  have HB := Lib.hid hb
  clear hiff hb
  by_cases hr : 0 ≤ r
  · have d0 : decide ((0 : Int) ≤ r) = true := decide_eq_true hr
    go_wp2_with fail
    go_ret
    exact ⟨true, rfl, ⟨fun _ => HI.out.1 hr, fun _ => rfl⟩, HB.out⟩
  · have d0 : decide ((0 : Int) ≤ r) = false := decide_eq_false hr
    go_wp2_with fail
    go_ret
    exact ⟨false, rfl, ⟨fun h => absurd h (by simp), fun h => absurd (HI.out.2 h) (by omega)⟩, HB.out⟩


theorem assert1 (v : Value) (w : World) : (Instr.typeAssert (.iface 148 v) 107 146 true).run Tryd.prog w = .ok (.tuple #[.agg #[.int .i64 0], .bool false]) w := by kernel_rfl
theorem assert2 (v : Value) (w : World) : (Instr.typeAssert (.iface 150 v) 107 146 true).run Tryd.prog w = .ok (.tuple #[.agg #[.int .i64 0], .bool false]) w := by kernel_rfl
theorem assert3 (v : Value) (w : World) : (Instr.typeAssert (.iface 152 v) 107 146 true).run Tryd.prog w = .ok (.tuple #[.agg #[.int .i64 0], .bool false]) w := by kernel_rfl
theorem assert4 (v : Value) (w : World) : (Instr.typeAssert (.iface 154 v) 107 146 true).run Tryd.prog w = .ok (.tuple #[.agg #[.int .i64 0], .bool false]) w := by kernel_rfl
theorem assert5 (v : Value) (w : World) : (Instr.typeAssert (.iface 146 v) 107 146 true).run Tryd.prog w = .ok (.tuple #[v, .bool true]) w := by kernel_rfl
/-- The operation of a writing step: it is no label. -/
theorem op_write (k t f : Int) (d : ByteArray) (h1 : 1 ≤ k) (h4 : k ≤ 4) : ∃ T v, (∀ w, Calls Tryd.prog 85 #[.agg #[.int .i64 k, .int .i64 t, .int .i64 f, .string d]] w fun e w' => e = .returned (.iface T v) ∧ Below w.heap.size w w') ∧
    ∀ w, (Instr.typeAssert (.iface T v) 107 146 true).run Tryd.prog w = .ok (.tuple #[.agg #[.int .i64 0], .bool false]) w := by
  have h : k = 1 ∨ k = 2 ∨ k = 3 ∨ k = 4 := by omega
  rcases h with rfl | rfl | rfl | rfl
  · exact ⟨_, _, op1 t f d, assert1 _⟩
  · exact ⟨_, _, op2 t f d, assert2 _⟩
  · exact ⟨_, _, op3 t f d, assert3 _⟩
  · exact ⟨_, _, op4 t f d, assert4 _⟩

/-- The code so far. -/
def LowC (l : List stpT) (k : Nat) (c : Int) : Prop := (c = 0 ∧ ¬ Low l k) ∨ (c = 8 ∧ Low l k)
def CfRel (l : List stpT) (w : World) (c x i : Value) (wr : World) : Prop :=
  ∃ (k : Nat) (q : Int), k ≤ l.length ∧ i = .int .i64 k ∧ c = .int .i64 q ∧ LowC l k q ∧ x = .int .i64 (lastT l k) ∧ Apart l k ∧ CellsAt wr w.heap.size 144 8 (fun b => .bool (wroteB l k b)) ∧ Below w.heap.size w wr
def Cf (l : List stpT) (R : Int) : Prop := (R = 12 ∧ Twice l) ∨ (R = 8 ∧ ¬ Twice l ∧ Low l l.length) ∨ (R = 0 ∧ ¬ Twice l ∧ ¬ Low l l.length)
theorem made8 {w : World} (l : List stpT) : CellsAt (w.alloc (.cells #[.bool false, .bool false, .bool false, .bool false, .bool false, .bool false, .bool false, .bool false] 144)) w.heap.size 144 8 (fun b => .bool (wroteB l 0 b)) :=
  cellsAt_new w w.heap.size 8 _ _ rfl (by simp only [wroteB_zero]; rfl)
set_option maxHeartbeats 2000000 in
set_option maxRecDepth 100000 in
theorem conflict_any (vl : Value) (l : List stpT) (n : Int) (w : World) (hl : Rd w vl l.length 4 (stpCs l)) (hn : l.length ≤ 20) (hv : ∀ s ∈ l, wrongS n s = false) :
    Calls Tryd.prog 81 #[vl] w fun e w' => ∃ R : Int, e = .returned (.int .i64 R) ∧ Cf l R ∧ Below w.heap.size w w' := by
  obtain ⟨al, cl, rfl, -⟩ := id hl.2
  have HV := Lib.hid hl
  have HW := Lib.hid hv
  clear hl hv
  go_enter Tryd.func81, Tryd.ntmps81
  go_wp2_with fail
  go_loopw [3, 4, 12] (fun c x i wr => CfRel l w c x i wr) (fun _ _ i _ => l.length - (intOf i).toNat)
  case atStart => exact ⟨0, 0, by omega, rfl, rfl, .inl ⟨rfl, fun ⟨j, hj, _⟩ => absurd hj (by omega)⟩, rfl, fun i j hi _ => absurd hi (by omega), made8 l, below_alloc1 w _⟩
  case round =>
    obtain ⟨k, q, hk, rfl, rfl, hlow, rfl, hap, hcs, hb⟩ := hrel
    have HL := Lib.hid hlow
    have AP := Lib.hid hap
    have CS := Lib.hid hcs
    have HB := Lib.hid hb
    have hsz := hb.size
    have hgl := hcs.lt
    clear hlow hap hcs
    by_cases hlt : k < l.length
    · obtain ⟨b, off, rfl, hbl, hcell⟩ := HV.out.get (by omega)
      have r0 : wr.cell? ⟨b, off + k * 4, none⟩ = some (.int .i64 l[k].1) := by rw [hb.cell (p := ⟨b, off + k * 4, none⟩) hbl, hcell (k * 4) (by omega), stpCs_0 l k hlt]
      have r1 : wr.cell? ⟨b, off + k * 4 + 1, none⟩ = some (.int .i64 l[k].2.1) := by rw [hb.cell (p := ⟨b, off + k * 4 + 1, none⟩) hbl, Nat.add_assoc, hcell (k * 4 + 1) (by omega), stpCs_1 l k hlt]
      have r2 : wr.cell? ⟨b, off + k * 4 + 2, none⟩ = some (.int .i64 l[k].2.2.1) := by rw [hb.cell (p := ⟨b, off + k * 4 + 2, none⟩) hbl, Nat.add_assoc, hcell (k * 4 + 2) (by omega), stpCs_2 l k hlt]
      have r3 : wr.cell? ⟨b, off + k * 4 + 3, none⟩ = some (.string l[k].2.2.2) := by rw [hb.cell (p := ⟨b, off + k * 4 + 3, none⟩) hbl, Nat.add_assoc, hcell (k * 4 + 3) (by omega), stpCs_3 l k hlt]
      have e0 : (k : Int) < (l.length : Int) := by omega
      have e1 : (0 : Int) ≤ (k : Int) := by omega
      have hok := HW.out l[k] (List.getElem_mem hlt)
      unfold wrongS at hok
      simp only [Bool.not_eq_false'] at hok
      have hok2 := (stepB_iff ..).1 hok
      have XB := Lib.hid (bx_new wr 41 #[.int .i64 l[k].1, .int .i64 l[k].2.1, .int .i64 l[k].2.2.1, .string l[k].2.2.2])
      have B1 := Lib.hid (below_alloc1 wr (.cells #[.int .i64 l[k].1, .int .i64 l[k].2.1, .int .i64 l[k].2.2.1, .string l[k].2.2.2] 41))
      clear hcell hb hok
      by_cases h5 : l[k].1 = 5
      · have LY := Lib.hid (lastT_yes hlt h5)
        have LA := Lib.hid (show LowAt l k ↔ l[k].2.2.1 ≤ lastT l k from ⟨fun ⟨_, _, r⟩ => r, fun r => ⟨hlt, h5, r⟩⟩)
        have WS := Lib.hid (fun b => wroteB_label hlt h5 b)
        have NP := Lib.hid (show ∀ j, j < k → ¬ Pair l k j from fun j _ h => h.2.2.1 h5)
        rw [h5] at r0 XB B1
        clear h5 hok2
        obtain ⟨x, hx⟩ : ∃ x, x = l[k] := ⟨_, rfl⟩
        rw [← hx] at r1 r2 r3 XB B1 LY LA
        clear hx
        have a5 := assert5
        go_wp2_with fail
        refine (op5 _ _ _ _).mono ?_
        rintro e w2 ⟨rfl, hb2⟩
        have B2 := Lib.hid (below_nx B1.out hb2)
        have hs2 := hb2.size
        clear hb2 r0 r1 r2 r3 XB B1
        by_cases hle : x.2.2.1 ≤ lastT l k
        · have dl : decide (x.2.2.1 ≤ lastT l k) = true := decide_eq_true hle
          have NL := Lib.hid (show LowC l (k + 1) 8 from .inr ⟨rfl, low_yes (LA.out.2 hle)⟩)
          clear hle LA
          generalize lastT l k = z2 at *
          go_wp2_with fail
          go_roundw
          case rel => exact ⟨k + 1, 8, by omega, by go_num, rfl, NL.out, by rw [LY.out], AP.out.next NP.out, by simp only [WS.out]; exact CS.out.below (B2.out.trans ((below_alloc1 w2 _).mono B2.out.size)) hgl, below_nx HB.out (B2.out.trans ((below_alloc1 w2 _).mono B2.out.size))⟩
          case measure => simp [intOf]; omega
        · have dl : decide (x.2.2.1 ≤ lastT l k) = false := decide_eq_false hle
          have NL := Lib.hid (show LowC l (k + 1) q from by
            rcases HL.out with ⟨rfl, h⟩ | ⟨rfl, h⟩
            · exact .inl ⟨rfl, fun h' => h ((low_no (fun h'' => hle (LA.out.1 h''))).1 h')⟩
            · exact .inr ⟨rfl, h.more⟩)
          clear hle LA
          generalize lastT l k = z2 at *
          go_wp2_with fail
          go_roundw
          case rel => exact ⟨k + 1, q, by omega, by go_num, rfl, NL.out, by rw [LY.out], AP.out.next NP.out, by simp only [WS.out]; exact CS.out.below (B2.out.trans ((below_alloc1 w2 _).mono B2.out.size)) hgl, below_nx HB.out (B2.out.trans ((below_alloc1 w2 _).mono B2.out.size))⟩
          case measure => simp [intOf]; omega
      · have LY := Lib.hid (lastT_no hlt h5)
        have NL := Lib.hid (show LowC l (k + 1) q from by
          rcases HL.out with ⟨rfl, h⟩ | ⟨rfl, h⟩
          · exact .inl ⟨rfl, fun h' => h ((low_no (fun h'' => h5 h''.2.1)).1 h')⟩
          · exact .inr ⟨rfl, h.more⟩)
        have hk14 : (1 ≤ l[k].1 ∧ l[k].1 ≤ 4) ∧ 0 ≤ l[k].2.1 ∧ l[k].2.1 < 8 := by
          obtain ⟨hn8, h | h | h | h | h⟩ := hok2
          · have := (inB_iff _ _).1 h.2.1; omega
          · have := (inB_iff _ _).1 h.2.1; omega
          · have := (inB_iff _ _).1 h.2.1; omega
          · have := (inB_iff _ _).1 h.2.1; omega
          · exact absurd h.1 h5
        obtain ⟨⟨q1, q4⟩, t0, t7⟩ := hk14
        obtain ⟨T, v, hop, has⟩ := op_write l[k].1 l[k].2.1 l[k].2.2.1 l[k].2.2.2 q1 q4
        obtain ⟨bb, hbb⟩ : ∃ bb : Nat, l[k].2.1 = (bb : Int) := ⟨l[k].2.1.toNat, by omega⟩
        have H5 := Lib.hid h5
        have HBB := Lib.hid hbb
        have HOP := Lib.hid hop
        have hbb8 : bb < 8 := by omega
        have f0 : (0 : Int) ≤ (bb : Int) := by omega
        have f1 : (bb : Int) < 8 := by omega
        rw [hbb] at r1 XB B1 HOP
        clear h5 hok2 hbb hop q1 q4 t0 t7
        go_wp2_with fail
        refine (HOP.out _).mono ?_
        rintro e w2 ⟨rfl, hb2⟩
        have B2 := Lib.hid (below_nx B1.out hb2)
        have hs2 := B2.out.size
        have hx1 := (XB.out.next hb2).q1
        have C2 := Lib.hid (CS.out.below B2.out hgl)
        have hc := C2.out.cell bb hbb8
        have hfz := C2.out.frozen bb
        clear hb2 r0 r1 r2 r3 XB B1
        cases hw : wroteB l k bb with
        | true =>
          have TW := Lib.hid (wrote_pair hlt H5.out HBB.out hw)
          rw [hw] at hc
          clear hw
          go_wp2_with fail
          go_ret
          exact ⟨12, rfl, .inl ⟨rfl, TW.out⟩, below_nx HB.out B2.out⟩
        | false =>
          have NP := Lib.hid (wrote_apart hlt HBB.out hw)
          rw [hw] at hc
          clear hw
          generalize lastT l k = z2 at *
          go_wp2_with fail
          go_roundw
          case rel =>
            refine ⟨k + 1, q, by omega, by go_num, rfl, NL.out, by rw [LY.out], AP.out.next NP.out, ?_, ?_⟩
            · refine C2.out.set bb _ (by rw [wroteB_same hlt H5.out HBB.out]) (fun i hi => by rw [wroteB_other hlt HBB.out hi])
            · exact (below_nx HB.out B2.out).setCell (p := ⟨w.heap.size, bb, none⟩) (Nat.le_refl _) _
          case measure => simp [intOf]; omega
    · obtain rfl : k = l.length := by omega
      have NT := Lib.hid (apart_all AP.out)
      clear hb
      go_wp2_with fail
      go_ret
      rcases HL.out with ⟨rfl, h⟩ | ⟨rfl, h⟩
      · exact ⟨0, rfl, .inr (.inr ⟨rfl, NT.out, h⟩), HB.out⟩
      · exact ⟨8, rfl, .inr (.inl ⟨rfl, NT.out, h⟩), HB.out⟩

set_option maxRecDepth 100000 in
set_option maxHeartbeats 2000000 in
theorem implCode (v : Value) (l : List stpT) (n : Int) (w : World) (h : Rd w v l.length 4 (stpCs l)) (hn : l.length ≤ 1048576) :
    Calls Tryd.prog 33 #[v, .int .i64 n] w fun e w' => e = .returned (.int .i64 (codeS l n)) ∧ Below w.heap.size w w' := by
  obtain ⟨R, hR⟩ : ∃ R, R = codeS l n := ⟨_, rfl⟩
  rw [← hR]
  have HR := Lib.hid hR
  clear hR
  obtain ⟨a, c, rfl, -⟩ := id h.2
  have HV := Lib.hid h
  have HB := Lib.hid (below_alloc1 w (.cells #[.int .i64 n] 2))
  have HX := Lib.hid (bx_new w 2 #[.int .i64 n])
  clear h
  by_cases hnn : 1 ≤ n ∧ n ≤ 8
  rotate_left
  · have hr : R = 1 := by rw [HR.out]; exact codeS_form (.inl hnn)
    subst hr
    have HN := Lib.hid hnn
    clear HR hnn
    go_enter Tryd.func33, Tryd.ntmps33
    go_wp2_with fail
    refine (isCount_no _ _ HN.out).mono ?_
    rintro e w1 ⟨rfl, rfl⟩
    go_wp2_with fail
    go_ret
    exact ⟨rfl, HB.out⟩
  obtain ⟨n0, n1⟩ := hnn
  by_cases hbig : 20 < l.length
  · have hr : R = 1 := by rw [HR.out]; exact codeS_form (.inr (.inl hbig))
    subst hr
    have d0 : decide ((20 : Int) < (l.length : Int)) = true := decide_eq_true (by omega)
    clear HR
    go_enter Tryd.func33, Tryd.ntmps33
    go_wp2_with fail
    refine (isCount_yes _ _ n0 n1).mono ?_
    rintro e w1 ⟨rfl, rfl⟩
    go_wp2_with fail
    go_ret
    exact ⟨rfl, HB.out⟩
  have d0 : decide ((20 : Int) < (l.length : Int)) = false := decide_eq_false (by omega)
  go_enter Tryd.func33, Tryd.ntmps33
  go_wp2_with fail
  refine (isCount_yes _ _ n0 n1).mono ?_
  rintro e w1 ⟨rfl, rfl⟩
  go_wp2_with fail
  refine (containsS_any _ l n w.heap.size _ (HV.out.below HB.out (Nat.le_refl _)) (by omega) (HX.out.cell 0) (by simp)).mono ?_
  rintro e w2 ⟨b, rfl, hiff, hb2⟩
  have HB2 := Lib.hid (below_nx HB.out hb2)
  have HI := Lib.hid hiff
  clear hb2 hiff
  cases b with
  | true =>
    have hr : R = 1 := by rw [HR.out]; exact codeS_form (.inr (.inr (HI.out.1 rfl)))
    subst hr
    clear HR
    go_wp2_with fail
    go_ret
    exact ⟨rfl, HB2.out⟩
  | false =>
    have NF := Lib.hid (show ¬ FormBad l n from by
      rintro (h | h | h)
      · exact h ⟨n0, n1⟩
      · omega
      · have := HI.out.2 h; cases this)
    have HW := Lib.hid (show ∀ s ∈ l, wrongS n s = false from fun s hs => by
      cases h : wrongS n s with
      | false => rfl
      | true => have := HI.out.2 ⟨s, hs, h⟩; cases this)
    go_wp2_with fail
    refine (conflict_any _ l n _ (HV.out.below HB2.out (Nat.le_refl _)) (by omega) HW.out).mono ?_
    rintro e w3 ⟨r, rfl, hcf, hb3⟩
    have HB3 := Lib.hid (below_nx HB2.out hb3)
    have hr : R = r := by
      rw [HR.out]
      rcases hcf with ⟨rfl, h⟩ | ⟨rfl, h, h'⟩ | ⟨rfl, h, h'⟩
      · exact codeS_twice NF.out h
      · exact codeS_low NF.out h h'
      · exact codeS_ok NF.out h h'
    subst hr
    clear hcf hb3 HR
    go_wp2_with fail
    go_ret
    exact ⟨rfl, HB3.out⟩
end Go.Proofs.YthkbllkhomjmbaaDoor
