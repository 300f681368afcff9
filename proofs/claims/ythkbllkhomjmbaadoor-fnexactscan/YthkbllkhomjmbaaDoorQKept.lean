/- KeptOf: the specification's and the program's. -/
import Derived.Test.YthkbllkhomjmbaaDoorQM0
import Derived.Test.YthkbllkhomjmbaaDoorBICode
import Derived.ScopeJumps
namespace Go.Proofs.YthkbllkhomjmbaaDoor
open Go.RowKit

def KsRel (l : List stpT) (w : World) (n i : Value) (wr : World) : Prop := ∃ k : Nat, k ≤ l.length ∧ i = .int .i64 k ∧ n = .int .i64 (keptN l k : Int) ∧ wr = w
def KiRel (l : List stpT) (w : World) (n : Value) (wr : World) : Prop := ∃ k : Nat, k ≤ l.length ∧ n = .int .i64 k ∧ keptN l k = keptN l l.length ∧ Below w.heap.size w wr

set_option maxRecDepth 100000 in
set_option maxHeartbeats 2000000 in
theorem specKept (v : Value) (l : List stpT) (w : World) (h : Rd w v l.length 4 (stpCs l)) (hn : l.length ≤ 1048576) :
    Calls Tryd.prog 96 #[v] w fun e w' => e = .returned (.int .i64 (keptS l : Int)) ∧ Below w.heap.size w w' := by
  obtain ⟨a, c, rfl, -⟩ := id h.2
  have HV := Lib.hid h
  clear h
  obtain ⟨R, hR⟩ : ∃ R : Int, R = (keptS l : Int) := ⟨_, rfl⟩
  rw [← hR]
  unfold keptS at hR
  by_cases hbig : l.length ≤ 20
  rotate_left
  · rw [if_neg hbig] at hR
    have HR := Lib.hid hR
    clear hR
    have d0 : decide ((l.length : Int) ≤ 20) = false := decide_eq_false (by omega)
    go_enter Tryd.func96, Tryd.ntmps96
    go_wp2_with fail
    refine wp_loop_rounds 1 ?_
    rw [rounds_succ]
    go_wp2_with fail
    go_ret
    exact ⟨by rw [HR.out]; rfl, Below.refl _ _⟩
  rw [if_pos hbig] at hR
  have HR := Lib.hid hR
  clear hR
  have d9 : decide ((l.length : Int) ≤ 20) = true := decide_eq_true (by omega)
  go_enter Tryd.func96, Tryd.ntmps96
  go_wp2_with fail
  go_loopw [3, 4] (fun n i wr => KsRel l w n i wr) (fun _ i _ => l.length - (intOf i).toNat)
  case atStart => exact ⟨0, Nat.zero_le _, rfl, rfl, rfl⟩
  case round =>
    obtain ⟨k, hk, rfl, rfl, rfl⟩ := hrel
    by_cases hlt : k < l.length
    · obtain ⟨b, off, rfl, hbl, hcell⟩ := HV.out.get (by omega)
      have r0 : wr.cell? ⟨b, off + k * 4, none⟩ = some (.int .i64 l[k].1) := by rw [hcell (k * 4) (by omega), stpCs_0 l k hlt]
      have e0 : (k : Int) < (l.length : Int) := by omega
      have e1 : (0 : Int) ≤ (k : Int) := by omega
      clear hcell
      by_cases h5 : l[k].1 = 5
      · have HX := Lib.hid (keptN_yes hlt h5)
        rw [h5] at r0
        clear h5
        go_wp2_with fail
        go_roundw
        case rel => exact ⟨k + 1, by omega, by go_num, by rw [HX.out]; go_num, rfl⟩
        case measure => simp [intOf]; omega
      · have HX := Lib.hid (keptN_no hlt h5)
        have d5 : (l[k].1 == 5) = false := by simpa using h5
        clear h5
        generalize l[k].1 = x at *
        go_wp2_with fail
        go_roundw
        case rel => exact ⟨k + 1, by omega, by go_num, by rw [HX.out], rfl⟩
        case measure => simp [intOf]; omega
    · obtain rfl : k = l.length := by omega
      go_wp2_with fail
      go_ret
      exact ⟨by rw [HR.out]; rfl, Below.refl _ _⟩

theorem assert0 (w : World) : (Instr.typeAssert .nilIface 107 146 true).run Tryd.prog w = .ok (.tuple #[.agg #[.int .i64 0], .bool false]) w := by kernel_rfl
/-- The operation of a step that is no label: there may be none. -/
theorem op_other (k t f : Int) (d : ByteArray) (h : k ≠ 5) : ∃ v, (∀ w, Calls Tryd.prog 85 #[.agg #[.int .i64 k, .int .i64 t, .int .i64 f, .string d]] w fun e w' => e = .returned v ∧ Below w.heap.size w w') ∧
    ∀ w, (Instr.typeAssert v 107 146 true).run Tryd.prog w = .ok (.tuple #[.agg #[.int .i64 0], .bool false]) w := by
  by_cases h1 : 1 ≤ k ∧ k ≤ 4
  · obtain ⟨T, v, a, b⟩ := op_write k t f d h1.1 h1.2
    exact ⟨_, a, b⟩
  · exact ⟨_, fun w => op0 k t f d w (by omega) (by omega) (by omega) (by omega) h, assert0⟩

set_option maxRecDepth 100000 in
set_option maxHeartbeats 2000000 in
theorem implKept (v : Value) (l : List stpT) (w : World) (h : Rd w v l.length 4 (stpCs l)) (hn : l.length ≤ 1048576) :
    Calls Tryd.prog 99 #[v] w fun e w' => e = .returned (.int .i64 (keptS l : Int)) ∧ Below w.heap.size w w' := by
  obtain ⟨a, c, rfl, -⟩ := id h.2
  have HV := Lib.hid h
  clear h
  obtain ⟨R, hR⟩ : ∃ R : Int, R = (keptS l : Int) := ⟨_, rfl⟩
  rw [← hR]
  unfold keptS at hR
  by_cases hbig : l.length ≤ 20
  rotate_left
  · rw [if_neg hbig] at hR
    have HR := Lib.hid hR
    clear hR
    have d0 : decide ((20 : Int) < (l.length : Int)) = true := decide_eq_true (by omega)
    go_enter Tryd.func99, Tryd.ntmps99
    go_wp2_with fail
    refine wp_scope_jumps 0 (fun _ _ => False) (fun _ _ => 0) rfl ?_ (fun _ _ h => h.elim)
    go_wp2_with fail
    simp only [Exit.jump]
    go_ret
    exact ⟨by rw [HR.out]; rfl, Below.refl _ _⟩
  rw [if_pos hbig] at hR
  have HR := Lib.hid hR
  clear hR
  have d9 : decide ((20 : Int) < (l.length : Int)) = false := decide_eq_false (by omega)
  have a5 := assert5
  go_enter Tryd.func99, Tryd.ntmps99
  go_wp2_with fail
  refine wp_scope_jumps 0 (fun _ _ => False) (fun _ _ => 0) rfl ?_ (fun _ _ h => h.elim)
  go_wp2_with fail
  go_step3
  rename_i K0 hK0
  refine hK0 _ _ ?_
  clear hK0
  go_wp2_with fail
  go_loopw [3] (fun n wr => KiRel l w n wr) (fun n _ => (intOf n).toNat)
  case atStart => exact ⟨l.length, Nat.le_refl _, rfl, rfl, Below.refl _ _⟩
  case round =>
    obtain ⟨k', hk, rfl, hkn, hb⟩ := hrel
    match k', hk, hkn with
    | 0, hk, hkn =>
      have HK := Lib.hid hkn
      have HB := Lib.hid hb
      clear hb hkn
      go_wp2_with fail
      simp only [Exit.jump]
      go_ret
      exact ⟨by rw [HR.out, ← HK.out]; rfl, HB.out⟩
    | k + 1, hk, hkn =>
      have hlt : k < l.length := by omega
      obtain ⟨b, off, rfl, hbl, hcell⟩ := HV.out.get (by omega)
      have r0 : wr.cell? ⟨b, off + k * 4, none⟩ = some (.int .i64 l[k].1) := by rw [hb.cell (p := ⟨b, off + k * 4, none⟩) hbl, hcell (k * 4) (by omega), stpCs_0 l k hlt]
      have r1 : wr.cell? ⟨b, off + k * 4 + 1, none⟩ = some (.int .i64 l[k].2.1) := by rw [hb.cell (p := ⟨b, off + k * 4 + 1, none⟩) hbl, Nat.add_assoc, hcell (k * 4 + 1) (by omega), stpCs_1 l k hlt]
      have r2 : wr.cell? ⟨b, off + k * 4 + 2, none⟩ = some (.int .i64 l[k].2.2.1) := by rw [hb.cell (p := ⟨b, off + k * 4 + 2, none⟩) hbl, Nat.add_assoc, hcell (k * 4 + 2) (by omega), stpCs_2 l k hlt]
      have r3 : wr.cell? ⟨b, off + k * 4 + 3, none⟩ = some (.string l[k].2.2.2) := by rw [hb.cell (p := ⟨b, off + k * 4 + 3, none⟩) hbl, Nat.add_assoc, hcell (k * 4 + 3) (by omega), stpCs_3 l k hlt]
      have e0 : decide ((0 : Int) < ((k + 1 : Nat) : Int)) = true := decide_eq_true (by omega)
      have e1 : (0 : Int) ≤ (k : Int) := by omega
      have e2 : (k : Int) < (l.length : Int) := by omega
      have e3 : IntKind.i64.wrap (((k + 1 : Nat) : Int) - 1) = (k : Int) := by rw [IntWalk.i64_in _ (by omega)]; omega
      have e4 : wrap64 (((k + 1 : Nat) : Int) - 1) = (k : Int) := by rw [IntWalk.wrap64_in _ (by omega)]; omega
      have HB := Lib.hid hb
      clear hcell hb
      obtain ⟨kk, hkk⟩ : ∃ kk : Int, kk = ((k + 1 : Nat) : Int) := ⟨_, rfl⟩
      have HKK := Lib.hid hkk
      rw [← hkk] at e0 e3 e4 ⊢
      clear hkk
      by_cases h5 : l[k].1 = 5
      · have HX := Lib.hid ((keptN_yes hlt h5).symm.trans hkn)
        rw [h5] at r0
        clear h5 hkn
        generalize l[k] = x at *
        go_wp2_with fail
        refine (op5 _ _ _ _).mono ?_
        rintro e w2 ⟨rfl, hb2⟩
        have B2 := Lib.hid (below_nx HB.out hb2)
        clear hb2 r0 r1 r2 r3
        go_wp2_with fail
        simp only [Exit.jump]
        go_ret
        exact ⟨by rw [HR.out, ← HX.out, HKK.out]; rfl, B2.out⟩
      · have HX := Lib.hid ((keptN_no hlt h5).symm.trans hkn)
        obtain ⟨v, hop, has⟩ := op_other l[k].1 l[k].2.1 l[k].2.2.1 l[k].2.2.2 h5
        have HOP := Lib.hid hop
        clear h5 hkn hop
        generalize l[k] = x at *
        go_wp2_with fail
        refine (HOP.out _).mono ?_
        rintro e w2 ⟨rfl, hb2⟩
        have B2 := Lib.hid (below_nx HB.out hb2)
        clear hb2 r0 r1 r2 r3 HOP
        go_wp2_with fail
        go_roundw
        case rel => exact ⟨k, by omega, rfl, HX.out, B2.out⟩
        case measure => have := HKK.out; simp [intOf]; omega
end Go.Proofs.YthkbllkhomjmbaaDoor
