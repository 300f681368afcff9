/- The program's writersOf, snapshotOf, Touches. -/
import Derived.Test.YtcckpkcjekcajaaVTouch
import Derived.Test.YtcckpkcjekcajaaVMap
namespace Go.Proofs.Ytcckpkcjekcajaa
open Go.RowKit

def MwRel (l : List stpT) (w : World) (i : Value) (wr : World) : Prop := ∃ k : Nat, k ≤ l.length ∧ i = .int .i64 k ∧ MapI wr w.heap.size k (mapT (l.take k)) ∧ Below w.heap.size w wr
/-- A map of the call's own that is made of the steps. -/
def MadeMap (l : List stpT) (w : World) (e : Ending) (w' : World) : Prop := ∃ g : Nat, e = .returned (.map (some g)) ∧ w.heap.size ≤ g ∧ MapI w' g l.length (mapT l) ∧ Below w.heap.size w w'
set_option maxRecDepth 100000 in
set_option maxHeartbeats 4000000 in
theorem implWriters (v : Value) (l : List stpT) (w : World) (h : Rd w v l.length 4 (stpCs l)) (hn : l.length ≤ 1048576) (hto : FitTo l) :
    Calls Try.prog 50 #[v] w (MadeMap l w) := by
  have hmm := @run_makeMap Try.prog
  obtain ⟨a, c, rfl, -⟩ := id h.2
  have HV := Lib.hid h
  have TO := Lib.hid hto
  have M0 := Lib.hid (mapI_new w)
  have B0 := Lib.hid (below_alloc1 w (.map #[] 0))
  clear h hto
  go_enter Try.func50, Try.ntmps50
  go_wp2_with fail
  clear hmm
  generalize w.alloc (.map #[] 0) = W0 at *
  go_loopw [11] (fun i wr => MwRel l w i wr) (fun i _ => l.length - (intOf i).toNat)
  case atStart => exact ⟨0, by omega, rfl, M0.out.to (by rw [List.take_zero]; rfl), B0.out⟩
  case round =>
    clear M0 B0
    obtain ⟨k, hk, rfl, hm, hb⟩ := hrel
    have HM := Lib.hid hm
    have HB := Lib.hid hb
    have hsz := hb.size
    by_cases hlt : k < l.length
    · obtain ⟨bb, off, rfl, hbl, hcell⟩ := HV.out.get (by omega)
      have r0 : wr.cell? ⟨bb, off + k * 4, none⟩ = some (.int .i64 l[k].1) := by rw [hb.cell (p := ⟨bb, off + k * 4, none⟩) hbl, hcell (k * 4) (by omega), stpCs_0 l k hlt]
      have r1 : wr.cell? ⟨bb, off + k * 4 + 1, none⟩ = some (.int .i64 l[k].2.1) := by rw [hb.cell (p := ⟨bb, off + k * 4 + 1, none⟩) hbl, Nat.add_assoc, hcell (k * 4 + 1) (by omega), stpCs_1 l k hlt]
      have r2 : wr.cell? ⟨bb, off + k * 4 + 2, none⟩ = some (.int .i64 l[k].2.2.1) := by rw [hb.cell (p := ⟨bb, off + k * 4 + 2, none⟩) hbl, Nat.add_assoc, hcell (k * 4 + 2) (by omega), stpCs_2 l k hlt]
      have r3 : wr.cell? ⟨bb, off + k * 4 + 3, none⟩ = some (.string l[k].2.2.2) := by rw [hb.cell (p := ⟨bb, off + k * 4 + 3, none⟩) hbl, Nat.add_assoc, hcell (k * 4 + 3) (by omega), stpCs_3 l k hlt]
      have e0 : (k : Int) < (l.length : Int) := by omega
      have e1 : (0 : Int) ≤ (k : Int) := by omega
      have ht := TO.out l[k] (List.getElem_mem hlt)
      have PT := Lib.hid (fun j (h : mapT (l.take k) l[k].2.1 = some j) => mapT_there hlt h)
      have PL := Lib.hid (fun (h : l[k].1 = 5) => mapT_label hlt h)
      have PN := Lib.hid (fun (h5 : l[k].1 ≠ 5) (h : mapT (l.take k) l[k].2.1 = none) => mapT_new hlt h5 h)
      clear hcell hm hb
      obtain ⟨x, hx⟩ : ∃ x, x = l[k] := ⟨_, rfl⟩
      rw [← hx] at r0 r1 r2 r3 ht PT PL PN
      clear hx
      obtain ⟨x1, x2, x3, x4⟩ := x
      simp only at r0 r1 r2 r3 ht PT PL PN
      obtain ⟨t0, t1⟩ := ht
      have gA := below_alloc1 wr (.cells #[.int .i64 x1, .int .i64 x2, .int .i64 x3, .string x4] 57)
      have XA := Lib.hid (bx_new wr 57 #[.int .i64 x1, .int .i64 x2, .int .i64 x3, .string x4])
      have MA := Lib.hid (HM.out.below gA (Nat.le_refl _))
      have BA := Lib.hid (HB.out.trans (gA.mono hsz))
      have hA := gA.size
      clear gA HM HB
      cases hj : mapT (l.take k) x2 with
      | some j =>
        have hl := lookI_yes MA.out x2 j hj t0 t1
        have HP := Lib.hid (PT.out j hj)
        clear hj PT PL PN
        go_wp2_with fail
        go_roundw
        case rel => exact ⟨k + 1, by omega, by go_num, (MA.out.mono (by omega)).to HP.out, BA.out⟩
        case measure => simp [intOf]; omega
      | none =>
        have hl := lookI_no MA.out x2 hj t0 t1
        by_cases h5 : x1 = 5
        · have d5 : (x1 != 5) = false := by simpa using h5
          have HP := Lib.hid (PL.out h5)
          clear hj h5 PT PL PN
          go_wp2_with fail
          go_roundw
          case rel => exact ⟨k + 1, by omega, by go_num, (MA.out.mono (by omega)).to HP.out, BA.out⟩
          case measure => simp [intOf]; omega
        · have d5 : (x1 != 5) = true := by simpa using h5
          have HP := Lib.hid (PN.out h5 hj)
          clear hj h5 PT PL PN
          go_wp2_with (at_mapUpdate; refine wpList_updI _ rfl _ _ _ rfl w.heap.size k (mapT (l.take k)) rfl MA.out x2 rfl (k : Int) rfl t0 t1 (by omega) (by omega) (by unfold maxLen; omega) ?_)
          intro w9 hm9 hg9
          have M9 := Lib.hid (hm9.to HP.out)
          have B9 := Lib.hid (BA.out.grown hg9 (by omega) (by simp))
          clear hm9 hg9 MA BA hl
          go_wp2_with fail
          go_roundw
          case rel => exact ⟨k + 1, by omega, by go_num, M9.out, B9.out⟩
          case measure => simp [intOf]; omega
    · obtain rfl : k = l.length := by omega
      clear hm hb
      rw [List.take_length] at HM
      go_wp2_with fail
      go_ret
      exact ⟨_, rfl, Nat.le_refl _, HM.out, HB.out⟩
set_option maxRecDepth 100000 in
set_option maxHeartbeats 2000000 in
theorem implTouches (v : Value) (l : List stpT) (b : Int) (w : World) (h : Rd w v l.length 4 (stpCs l)) (hn : l.length ≤ 1048576) (hto : FitTo l) (b0 : -9223372036854775808 ≤ b) (b1 : b ≤ 9223372036854775807) :
    Calls Try.prog 26 #[v, .int .i64 b] w fun e w' => e = .returned (.int .i64 (touchS l b)) ∧ Below w.heap.size w w' := by
  obtain ⟨a, c, rfl, -⟩ := id h.2
  have HV := Lib.hid h
  have TO := Lib.hid hto
  clear h hto
  unfold touchS
  by_cases hb : 20 < l.length
  · rw [if_pos hb]
    have d0 : decide ((20 : Int) < (l.length : Int)) = true := decide_eq_true (by omega)
    go_enter Try.func26, Try.ntmps26
    go_wp2_with fail
    go_ret
    exact ⟨rfl, Below.refl _ _⟩
  rw [if_neg hb]
  have d0 : decide ((20 : Int) < (l.length : Int)) = false := decide_eq_false (by omega)
  go_enter Try.func26, Try.ntmps26
  go_wp2_with fail
  refine (implWriters _ l w HV.out hn TO.out).mono ?_
  rintro e w1 ⟨g, rfl, hg, hm, hb1⟩
  have HB := Lib.hid hb1
  have HM := Lib.hid hm
  clear hb1 hm
  cases hj : mapT l b with
  | some j =>
    have hl := lookI_yes HM.out b j hj b0 b1
    have HT := Lib.hid (mapT_lt hj).2.2
    clear hj
    go_wp2_with fail
    go_ret
    exact ⟨by rw [HT.out]; rfl, HB.out⟩
  | none =>
    have hl := lookI_no HM.out b hj b0 b1
    have HT := Lib.hid (mapT_no hj)
    clear hj
    go_wp2_with fail
    go_ret
    exact ⟨by rw [HT.out]; rfl, HB.out⟩
theorem fitTo_of {l : List stpT} {n : Int} (h : codeS l n = 0) : FitTo l := by
  intro d hd
  obtain ⟨⟨h1, h8⟩, -, hok⟩ := code_ok h
  have hst := hok d hd
  obtain ⟨-, hc⟩ := (stepB_iff ..).1 hst
  rcases hc with ⟨-, ht, -⟩ | ⟨-, ht, -⟩ | ⟨-, ht, -⟩ | ⟨-, ht, -⟩ | ⟨-, ht, -⟩
  · have := (inB_iff _ _).1 ht; omega
  · have := (inB_iff _ _).1 ht; omega
  · have := (inB_iff _ _).1 ht; omega
  · have := (inB_iff _ _).1 ht; omega
  · omega
set_option maxRecDepth 100000 in
set_option maxHeartbeats 2000000 in
theorem implSnapOf (v u : Value) (l : List stpT) (w : World) (a a' : Option Addr) (n c c' : Nat) (hv : v = .slice a n c) (hu : u = .slice a' l.length c') (h : Rd w u l.length 4 (stpCs l)) (hn : l.length ≤ 1048576) (hto : FitTo l) :
    Calls Try.prog 45 #[v, u] w fun e w' => ∃ g : Nat, e = .returned (.agg #[v, u, .map (some g)]) ∧ w.heap.size ≤ g ∧ MapI w' g l.length (mapT l) ∧ Below w.heap.size w w' := by
  subst hv
  subst hu
  have G0 := Lib.hid (below_alloc1 w (.cells #[.slice none 0 0, .slice none 0 0, .map none] 69))
  have X0 := Lib.hid (bx_new w 69 #[.slice none 0 0, .slice none 0 0, .map none])
  have HV := Lib.hid (h.below G0.out (Nat.le_refl _))
  have TO := Lib.hid hto
  have hz := size_alloc1 w (.cells #[.slice none 0 0, .slice none 0 0, .map none] 69)
  clear h hto
  go_enter Try.func45, Try.ntmps45
  go_wp2_with fail
  generalize w.alloc (.cells #[.slice none 0 0, .slice none 0 0, .map none] 69) = W0 at *
  refine (implWriters _ l W0 HV.out hn TO.out).mono ?_
  rintro e w1 ⟨g, rfl, hg, hm, hb1⟩
  have hx := X0.out.next hb1
  have c0 := hx.cell 0
  have c1 := hx.cell 1
  have c2 := hx.cell 2
  have z0 := hx.frozen 0
  have z1 := hx.frozen 1
  have z2 := hx.frozen 2
  simp at c0 c1 c2
  have HB := Lib.hid (G0.out.trans (hb1.mono (by omega)))
  have HM := Lib.hid hm
  have hne : w.heap.size ≠ g := by omega
  clear hb1 hm hx
  go_wp2_with fail
  refine bodyPost_ret (v := .agg #[.slice a n c, .slice a' l.length c', .map (some g)]) (by simp [results, Try.results45, go_sem, c0, c1, c2]) rfl ⟨g, rfl, by omega, ?_, ?_⟩
  · refine HM.out.keep ?_
    rw [Below.heap_setCell _ _ _ g (by exact fun e => hne e.symm), Below.heap_setCell _ _ _ g (by exact fun e => hne e.symm), Below.heap_setCell _ _ _ g (by exact fun e => hne e.symm)]
  · exact ((HB.out.setCell (p := ⟨w.heap.size, 0, none⟩) (Nat.le_refl _) _).setCell (p := ⟨w.heap.size, 1, none⟩) (Nat.le_refl _) _).setCell (p := ⟨w.heap.size, 2, none⟩) (Nat.le_refl _) _
end Go.Proofs.Ytcckpkcjekcajaa
