/- Flashes compared in the law FnFlash. -/
import Derived.Test.YtkeimgglikdbfaaM1
namespace Go.Proofs.Ytkeimgglikdbfaa
open Go.RowKit

set_option maxHeartbeats 1000000 in
set_option maxRecDepth 100000 in
theorem lwTexts_any (v u : Value) (l : List ByteArray) (w : World) (h : Rd w v l.length 1 (strs l)) (k : Rd w u l.length 1 (strs l)) (hn : l.length ≤ maxLen) :
    Calls Try.prog 43 #[v, u] w fun e w' => e = .returned (.bool true) ∧ Still w w' := by
  unfold maxLen at hn
  obtain ⟨_, a, c, rfl, hc⟩ := h
  obtain ⟨_, a', c', rfl, hc'⟩ := k
  have HC := Lib.hid hc
  have HC' := Lib.hid hc'
  clear hc hc'
  have d0 : ((l.length : Int) != (l.length : Int)) = false := by simp
  go_enter Try.func43, Try.ntmps43
  go_wp2_with fail
  go_loopw [5] (fun i wr => EqRel w l.length i wr) (fun i _ => l.length - (intOf i).toNat)
  case atStart => exact ⟨0, by omega, rfl, Still.refl w⟩
  case round =>
    obtain ⟨k, hk, rfl, hst⟩ := hrel
    by_cases hlt : k < l.length
    · obtain ⟨b, off, rfl, hbl, hcell⟩ := HC.out (by omega)
      obtain ⟨b', off', rfl, hbl', hcell'⟩ := HC'.out (by omega)
      have hc1 : wr.cell? ⟨b, off + k, none⟩ = some (.string l[k]) := by
        rw [(hst.below w.heap.size).cell (p := ⟨b, off + k, none⟩) hbl, hcell k (by omega), strs_at l k hlt]
      have hc2 : wr.cell? ⟨b', off' + k, none⟩ = some (.string l[k]) := by
        rw [(hst.below w.heap.size).cell (p := ⟨b', off' + k, none⟩) hbl', hcell' k (by omega), strs_at l k hlt]
      have HST := Lib.hid hst
      clear hcell hcell' hst
      have e0 : (k : Int) < (l.length : Int) := by omega
      have e1 : (0 : Int) ≤ (k : Int) := by omega
      go_wp2_with fail
      go_quiet (fail)
      go_wp2_with fail
      go_roundw
      case rel => exact ⟨k + 1, by omega, by go_num, HST.out.trans ⟨_, rfl⟩⟩
      case measure => simp [intOf]; omega
    · obtain rfl : k = l.length := by omega
      go_wp2_with fail
      go_ret
      exact ⟨rfl, hst⟩

set_option maxHeartbeats 2000000 in
set_option maxRecDepth 100000 in
theorem lwFlash_any (sv dv tv ev : Value) (F : FM) (w : World) (h : FRd w sv dv F) (k : FRd w tv ev F) (hn : FFits F) :
    Calls Try.prog 14 #[.agg #[sv, dv], .agg #[tv, ev]] w fun e w' => e = .returned (.bool true) ∧ Below w.heap.size w w' := by
  have b0 := below_alloc1 w (.cells #[sv, dv] 26)
  have z0 := size_alloc1 w (.cells #[sv, dv] 26)
  have b1 := below_alloc1 (w.alloc (.cells #[sv, dv] 26)) (.cells #[tv, ev] 26)
  have z1 := size_alloc1 (w.alloc (.cells #[sv, dv] 26)) (.cells #[tv, ev] 26)
  have x0 := (bx_new w 26 #[sv, dv]).next b1
  have x1 := bx_new (w.alloc (.cells #[sv, dv] 26)) 26 #[tv, ev]
  rw [z0] at x1 b1 z1
  have hb := b0.trans (b1.mono (by omega))
  have H := Lib.hid (h.below hb (Nat.le_refl _))
  have K := Lib.hid (k.below hb (Nat.le_refl _))
  have HB := Lib.hid hb
  have X0 := Lib.hid x0
  have X1 := Lib.hid x1
  have h1 : F.sec.length ≤ maxLen := by have := hn.1; unfold maxLen; omega
  have h2 : F.dir.length ≤ 1048576 := hn.2
  have H1 := Lib.hid h1
  clear h k hb hn h1 b0 b1 x0 x1
  go_enter Try.func14, Try.ntmps14
  go_wp2_with fail
  generalize (w.alloc (.cells #[sv, dv] 26)).alloc (.cells #[tv, ev] 26) = W at *
  refine (lwTexts_any sv tv F.sec _ H.out.1 K.out.1 H1.out).mono ?_
  rintro e w1 ⟨rfl, hst⟩
  obtain ⟨m1, rfl⟩ := hst
  obtain ⟨a, c, rfl, hc⟩ := id H.out.2.2
  obtain ⟨a', c', rfl, hc'⟩ := id K.out.2.2
  have HC := Lib.hid hc
  have HC' := Lib.hid hc'
  clear hc hc'
  have c01 : (W.drewN m1).cell? ⟨w.heap.size, 1, none⟩ = some (.slice a F.dir.length c) := X0.out.c1
  have c11 : (W.drewN m1).cell? ⟨w.heap.size + 1, 1, none⟩ = some (.slice a' F.dir.length c') := X1.out.c1
  have d0 : ((F.dir.length : Int) != (F.dir.length : Int)) = false := by simp
  go_wp2_with fail
  go_loopw [5] (fun i wr => EqRel W F.dir.length i wr) (fun i _ => F.dir.length - (intOf i).toNat)
  case atStart => exact ⟨0, by omega, rfl, ⟨m1, rfl⟩⟩
  case round =>
    clear c01 c11
    obtain ⟨k, hk, rfl, hst⟩ := hrel
    obtain ⟨m2, rfl⟩ := hst
    have c01 : (W.drewN m2).cell? ⟨w.heap.size, 1, none⟩ = some (.slice a F.dir.length c) := X0.out.c1
    have c11 : (W.drewN m2).cell? ⟨w.heap.size + 1, 1, none⟩ = some (.slice a' F.dir.length c') := X1.out.c1
    by_cases hlt : k < F.dir.length
    · obtain ⟨b, off, rfl, hbl, hcell⟩ := HC.out (by omega)
      obtain ⟨b', off', rfl, hbl', hcell'⟩ := HC'.out (by omega)
      have hc0 : (W.drewN m2).cell? ⟨b, off + k * 2, none⟩ = some (.int .i64 F.dir[k].1) := (hcell (k * 2) (by omega)).trans (dirs_even F.dir k hlt)
      have hc1 : (W.drewN m2).cell? ⟨b, off + k * 2 + 1, none⟩ = some (.string F.dir[k].2) := (by rw [Nat.add_assoc]; exact (hcell (k * 2 + 1) (by omega)).trans (dirs_odd F.dir k hlt))
      have hd0 : (W.drewN m2).cell? ⟨b', off' + k * 2, none⟩ = some (.int .i64 F.dir[k].1) := (hcell' (k * 2) (by omega)).trans (dirs_even F.dir k hlt)
      have hd1 : (W.drewN m2).cell? ⟨b', off' + k * 2 + 1, none⟩ = some (.string F.dir[k].2) := (by rw [Nat.add_assoc]; exact (hcell' (k * 2 + 1) (by omega)).trans (dirs_odd F.dir k hlt))
      clear hcell hcell'
      have e0 : (k : Int) < (F.dir.length : Int) := by omega
      have e1 : (0 : Int) ≤ (k : Int) := by omega
      generalize hwr : W.drewN m2 = wr at *
      have HW := Lib.hid hwr
      clear hwr
      go_wp2_with fail
      go_quiet (fail)
      go_wp2_with fail
      go_roundw
      case rel => exact ⟨k + 1, by omega, by go_num, Still.trans ⟨m2, HW.out.symm⟩ ⟨_, rfl⟩⟩
      case measure => simp [intOf]; omega
    · obtain rfl : k = F.dir.length := by omega
      have d1 : decide ((F.dir.length : Int) < (F.dir.length : Int)) = false := decide_eq_false (by omega)
      go_wp2_with fail
      go_ret
      exact ⟨rfl, below_drewN HB.out m2⟩

set_option maxHeartbeats 2000000 in
set_option maxRecDepth 100000 in
theorem lwFlashes_any (sv dv tv ev : Value) (O : OM) (w : World) (h : FRd w sv dv O.fl) (k : FRd w tv ev O.fl) (hn : FFits O.fl) (hs : ∀ s ∈ O.fl.sec, s.size ≤ 1048576) (hd : ∀ d ∈ O.fl.dir, d.2.size ≤ 1048576) (hr : O.code = 0 → Right O.fl) :
    Calls Try.prog 12 #[.agg #[sv, dv, .string O.data, .int .i64 O.code], .agg #[tv, ev, .string O.data, .int .i64 O.code]] w fun e w' => e = .returned (.bool true) ∧ Below w.heap.size w w' := by
  obtain ⟨a, c, rfl, -⟩ := id h.1.2
  obtain ⟨a', c', rfl, -⟩ := id h.2.2
  obtain ⟨b, d, rfl, -⟩ := id k.1.2
  obtain ⟨b', d', rfl, -⟩ := id k.2.2
  have x0 := bx_new w 30 #[.slice a O.fl.sec.length c, .slice a' O.fl.dir.length c', .string O.data, .int .i64 O.code]
  have b0 := below_alloc1 w (.cells #[.slice a O.fl.sec.length c, .slice a' O.fl.dir.length c', .string O.data, .int .i64 O.code] 30)
  have z0 := size_alloc1 w (.cells #[.slice a O.fl.sec.length c, .slice a' O.fl.dir.length c', .string O.data, .int .i64 O.code] 30)
  generalize hW0 : w.alloc (.cells #[.slice a O.fl.sec.length c, .slice a' O.fl.dir.length c', .string O.data, .int .i64 O.code] 30) = W0 at *
  have x1 := bx_new W0 30 #[.slice b O.fl.sec.length d, .slice b' O.fl.dir.length d', .string O.data, .int .i64 O.code]
  have b1 := below_alloc1 W0 (.cells #[.slice b O.fl.sec.length d, .slice b' O.fl.dir.length d', .string O.data, .int .i64 O.code] 30)
  have y0 := x0.next b1
  generalize hW1 : W0.alloc (.cells #[.slice b O.fl.sec.length d, .slice b' O.fl.dir.length d', .string O.data, .int .i64 O.code] 30) = W1 at *
  rw [z0] at x1
  have hb := b0.trans (b1.mono (by omega))
  have H := Lib.hid (h.below hb (Nat.le_refl _))
  have K := Lib.hid (k.below hb (Nat.le_refl _))
  have HB := Lib.hid hb
  have X0 := Lib.hid y0
  have HN := Lib.hid hn
  have HS := Lib.hid hs
  have HD := Lib.hid hd
  have HR := Lib.hid hr
  have p0 := y0.q0
  have p1 := y0.q1
  have p2 := y0.q2
  have p3 := y0.q3
  have q0 := x1.q0
  have q1 := x1.q1
  have q2 := x1.q2
  have q3 := x1.q3
  clear h k hb hn hs hd hr b0 b1 x0 x1 y0
  have e2 : (O.data.toList == O.data.toList) = true := by simp
  have e3 : (O.code == O.code) = true := by simp
  go_enter Try.func12, Try.ntmps12
  go_wp2_with fail
  clear p0 p1 p2 p3 q0 q1 q2 q3
  refine (lwFlash_any _ _ _ _ O.fl W1 H.out K.out HN.out).mono ?_
  rintro e w1 ⟨rfl, hb1⟩
  have g1 : W1.heap.size ≤ w1.heap.size := hb1.size
  have y1 := X0.out.next hb1
  have p0 := y1.q0
  have p1 := y1.q1
  have p2 := y1.q2
  have p3 := y1.q3
  have H1 := Lib.hid (H.out.below hb1 (Nat.le_refl _))
  have B1 := Lib.hid (HB.out.trans (hb1.mono HB.out.size))
  clear hb1 y1 H K HB X0
  by_cases hc : O.code = 0
  · have d0 : (O.code != 0) = false := by simp [hc]
    go_wp2_with fail
    refine (specRight _ _ O.fl w1 H1.out HN.out HS.out HD.out).mono ?_
    rintro e w2 ⟨bb, rfl, hiff, hb2⟩
    obtain rfl : bb = true := hiff.2 (HR.out hc)
    have B2 := Lib.hid (B1.out.trans (hb2.mono B1.out.size))
    clear hb2 hiff
    go_wp2_with fail
    go_ret
    exact ⟨rfl, B2.out⟩
  · have d0 : (O.code != 0) = true := by simpa using hc
    go_wp2_with fail
    go_ret
    exact ⟨rfl, B1.out⟩
end Go.Proofs.Ytkeimgglikdbfaa
