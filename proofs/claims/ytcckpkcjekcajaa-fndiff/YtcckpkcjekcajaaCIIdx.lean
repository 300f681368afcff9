/- The program's StepsFor: the search in the original blocks. -/
import Derived.Test.YtcckpkcjekcajaaM3
import Derived.Test.YtcckpkcjekcajaaCIMk
import Derived.Test.YtcckpkcjekcajaaCSFor
namespace Go.Proofs.Ytcckpkcjekcajaa
open Go.RowKit

def At1 (l : List ByteArray) (P : ByteArray → Prop) (r : Int) : Prop := (∃ (i : Nat) (h : i < l.length), r = (i : Int) ∧ P l[i] ∧ ∀ j (hj : j < l.length), j < i → ¬ P l[j]) ∨ (r = -1 ∧ ∀ j (hj : j < l.length), ¬ P l[j])
def AtRel (l : List ByteArray) (P : ByteArray → Prop) (w : World) (i : Value) (wr : World) : Prop := ∃ k : Nat, k ≤ l.length ∧ i = .int .i64 k ∧ (∀ j (h : j < l.length), j < k → ¬ P l[j]) ∧ Below w.heap.size w wr
theorem eqGuard_blk : Try.prog.eqGuardType Try.prog.depth 87 = false := by kernel_rfl
set_option maxRecDepth 100000 in
set_option maxHeartbeats 2000000 in
theorem indexBlk (v : Value) (l : List ByteArray) (c : ByteArray) (w : World) (h : Rd w v l.length 8 (blkCs l)) (hi : ImgOk l) (hc : c.size = 8) :
    Calls Try.prog 82 #[v, .agg (blkA c)] w fun e w' => ∃ r : Int, e = .returned (.int .i64 r) ∧ At1 l (fun s => s = c) r ∧ Below w.heap.size w w' := by
  obtain ⟨⟨n0, n1⟩, hs⟩ := hi
  obtain ⟨a, cc, rfl, -⟩ := id h.2
  have HV := Lib.hid h
  have HS := Lib.hid hs
  have HC8 := Lib.hid hc
  have b0 := below_alloc1 w (.cells (blkA c) 87)
  have X0 := Lib.hid (bx_new w 87 (blkA c))
  have B0 := Lib.hid b0
  clear h hs hc b0
  have HW := Lib.hid (show w.alloc (.cells (blkA c) 87) = w.alloc (.cells #[.int .u8 (bat c 0).toNat, .int .u8 (bat c 1).toNat, .int .u8 (bat c 2).toNat, .int .u8 (bat c 3).toNat, .int .u8 (bat c 4).toNat, .int .u8 (bat c 5).toNat, .int .u8 (bat c 6).toNat, .int .u8 (bat c 7).toNat] 87) from rfl)
  show Calls Try.prog 82 #[.slice a l.length cc, .agg #[.int .u8 (bat c 0).toNat, .int .u8 (bat c 1).toNat, .int .u8 (bat c 2).toNat, .int .u8 (bat c 3).toNat, .int .u8 (bat c 4).toNat, .int .u8 (bat c 5).toNat, .int .u8 (bat c 6).toNat, .int .u8 (bat c 7).toNat]] w _
  go_enter Try.func82, Try.ntmps82
  go_wp2_with fail
  rw [← HW.out]
  clear HW
  generalize w.alloc (.cells (blkA c) 87) = W at *
  go_loopw [8] (fun i wr => AtRel l (fun s => s = c) w i wr ∧ Bx wr w.heap.size 87 (blkA c)) (fun i _ => l.length - (intOf i).toNat)
  case atStart => exact ⟨⟨0, by omega, rfl, fun j _ hj => absurd hj (by omega), B0.out⟩, X0.out⟩
  case round =>
    clear X0 B0
    obtain ⟨⟨k, hk, rfl, hno, hb⟩, hx⟩ := hrel
    have NO := Lib.hid hno
    have HB := Lib.hid hb
    have HX := Lib.hid hx
    clear hno
    by_cases hlt : k < l.length
    · obtain ⟨b, off, rfl, hbl, hcell⟩ := HV.out.get (by omega)
      have hbc : ∀ m', m' < 8 → wr.cell? ⟨b, off + k * 8 + m', none⟩ = some (.int .u8 (bat l[k] m').toNat) := fun m' hm' => (hb.cell (p := ⟨b, off + k * 8 + m', none⟩) hbl).trans (blk_cells rfl hlt hcell m' hm')
      have s8 := HS.out _ (List.getElem_mem hlt)
      have heq := blk_eq c l[k] HC8.out s8
      have q0 := hbc 0 (by decide)
      have q1 := hbc 1 (by decide)
      have q2 := hbc 2 (by decide)
      have q3 := hbc 3 (by decide)
      have q4 := hbc 4 (by decide)
      have q5 := hbc 5 (by decide)
      have q6 := hbc 6 (by decide)
      have q7 := hbc 7 (by decide)
      rw [Nat.add_zero] at q0
      have c0 := hx.blk0
      have c1 := hx.blk1
      have c2 := hx.blk2
      have c3 := hx.blk3
      have c4 := hx.blk4
      have c5 := hx.blk5
      have c6 := hx.blk6
      have c7 := hx.blk7
      unfold B at c0 c1 c2 c3 c4 c5 c6 c7
      have hgd := eqGuard_blk
      unfold blkA B at heq
      clear hbc hcell hx hb s8
      by_cases he : l[k] = c
      · rw [decide_eq_true he.symm] at heq
        have HE := Lib.hid he
        clear he
        go_wp2_with fail
        go_quiet (fail)
        go_wp2_with fail
        go_ret
        exact ⟨k, rfl, .inl ⟨k, hlt, rfl, HE.out, NO.out⟩, below_drewN HB.out _⟩
      · rw [decide_eq_false (fun h => he h.symm)] at heq
        have HE := Lib.hid he
        clear he
        go_wp2_with fail
        go_quiet (fail)
        go_wp2_with fail
        go_roundw
        case rel =>
          have fin : AtRel l (fun s => s = c) w (.int .i64 ((k : Int) + 1)) (wr.drewN nq) ∧ Bx (wr.drewN nq) w.heap.size 87 (blkA c) := by
            refine ⟨⟨k + 1, by omega, by go_num, fun j h hj => ?_, below_drewN HB.out _⟩, HX.out⟩
            by_cases hjk : j = k
            · subst hjk; exact HE.out
            · exact NO.out j h (by omega)
          first | exact fin | ((repeat apply Exists.intro); exact ⟨fin, rfl⟩)
        case measure => simp [intOf]; omega
    · obtain rfl : k = l.length := by omega
      have d1 : decide ((l.length : Int) < (l.length : Int)) = false := decide_eq_false (by omega)
      clear hx hb
      go_wp2_with fail
      go_ret
      exact ⟨-1, rfl, .inr ⟨rfl, fun j h => NO.out j h h⟩, HB.out⟩

set_option maxRecDepth 100000 in
set_option maxHeartbeats 2000000 in
theorem nearFn (s c : ByteArray) (g : Nat) (w : World) (hx : Bx w g 87 (blkA c)) :
    Calls Try.prog 83 #[.agg (blkA s), .pointer (some ⟨g, 0, none⟩)] w fun e w' => e = .returned (.bool (decide (diffN s c ≤ 2))) ∧ Below w.heap.size w w' := by
  have b0 := below_alloc1 w (.cells (blkA s) 87)
  have hx1 := hx.next b0
  have X0 := bx_new w 87 (blkA s)
  have B0 := Lib.hid b0
  clear b0 hx
  have c0 := hx1.blk0
  have c1 := hx1.blk1
  have c2 := hx1.blk2
  have c3 := hx1.blk3
  have c4 := hx1.blk4
  have c5 := hx1.blk5
  have c6 := hx1.blk6
  have c7 := hx1.blk7
  unfold B at c0 c1 c2 c3 c4 c5 c6 c7
  have q0 := X0.blk0
  have q1 := X0.blk1
  have q2 := X0.blk2
  have q3 := X0.blk3
  have q4 := X0.blk4
  have q5 := X0.blk5
  have q6 := X0.blk6
  have q7 := X0.blk7
  unfold B at q0 q1 q2 q3 q4 q5 q6 q7
  clear hx1 X0
  have hle := diffN_le c s
  have hr : decide ((diffN c s : Int) ≤ 2) = decide (diffN s c ≤ 2) := by rw [diffN_comm c s]; apply Bool.eq_iff_iff.2; simp; omega
  obtain ⟨R, hR⟩ : ∃ R, R = decide (diffN s c ≤ 2) := ⟨_, rfl⟩
  rw [← hR] at hr
  rw [← hR]
  clear hR
  have HW := Lib.hid (show w.alloc (.cells (blkA s) 87) = w.alloc (.cells #[.int .u8 (bat s 0).toNat, .int .u8 (bat s 1).toNat, .int .u8 (bat s 2).toNat, .int .u8 (bat s 3).toNat, .int .u8 (bat s 4).toNat, .int .u8 (bat s 5).toNat, .int .u8 (bat s 6).toNat, .int .u8 (bat s 7).toNat] 87) from rfl)
  rw [HW.out] at c0 c1 c2 c3 c4 c5 c6 c7 q0 q1 q2 q3 q4 q5 q6 q7 B0
  show Calls Try.prog 83 #[.agg #[.int .u8 (bat s 0).toNat, .int .u8 (bat s 1).toNat, .int .u8 (bat s 2).toNat, .int .u8 (bat s 3).toNat, .int .u8 (bat s 4).toNat, .int .u8 (bat s 5).toNat, .int .u8 (bat s 6).toNat, .int .u8 (bat s 7).toNat], .pointer (some ⟨g, 0, none⟩)] w _
  go_enter Try.func83, Try.ntmps83
  go_wp2_with fail
  refine (implDist c s _).mono ?_
  rintro e w2 ⟨rfl, hb⟩
  have B2 := Lib.hid (below_more B0.out hb)
  clear hb c0 c1 c2 c3 c4 c5 c6 c7 q0 q1 q2 q3 q4 q5 q6 q7
  go_wp2_with fail
  go_ret
  exact ⟨rfl, B2.out⟩
set_option maxRecDepth 100000 in
set_option maxHeartbeats 2000000 in
theorem indexNear (v : Value) (l : List ByteArray) (c : ByteArray) (g : Nat) (w : World) (h : Rd w v l.length 8 (blkCs l)) (hi : ImgOk l) (hx : Bx w g 87 (blkA c)) :
    Calls Try.prog 85 #[v, .func (.func 83) #[] #[.pointer (some ⟨g, 0, none⟩)]] w fun e w' => ∃ r : Int, e = .returned (.int .i64 r) ∧ At1 l (fun s => diffN s c ≤ 2) r ∧ Below w.heap.size w w' := by
  obtain ⟨⟨n0, n1⟩, -⟩ := hi
  obtain ⟨a, cc, rfl, -⟩ := id h.2
  have HV := Lib.hid h
  have HX := Lib.hid hx
  clear h hx
  go_enter Try.func85, Try.ntmps85
  go_wp2_with fail
  go_loopw [8] (fun i wr => AtRel l (fun s => diffN s c ≤ 2) w i wr) (fun i _ => l.length - (intOf i).toNat)
  case atStart => exact ⟨0, by omega, rfl, fun j _ hj => absurd hj (by omega), Below.refl _ _⟩
  case round =>
    obtain ⟨k, hk, rfl, hno, hb⟩ := hrel
    have NO := Lib.hid hno
    have HB := Lib.hid hb
    clear hno
    by_cases hlt : k < l.length
    · obtain ⟨b, off, rfl, hbl, hcell⟩ := HV.out.get (by omega)
      have hbc : ∀ m', m' < 8 → wr.cell? ⟨b, off + k * 8 + m', none⟩ = some (.int .u8 (bat l[k] m').toNat) := fun m' hm' => (hb.cell (p := ⟨b, off + k * 8 + m', none⟩) hbl).trans (blk_cells rfl hlt hcell m' hm')
      have hsz := hb.size
      have q0 := hbc 0 (by decide)
      have q1 := hbc 1 (by decide)
      have q2 := hbc 2 (by decide)
      have q3 := hbc 3 (by decide)
      have q4 := hbc 4 (by decide)
      have q5 := hbc 5 (by decide)
      have q6 := hbc 6 (by decide)
      have q7 := hbc 7 (by decide)
      rw [Nat.add_zero] at q0
      have hnf := nearFn l[k] c g wr (HX.out.next hb)
      unfold blkA B at hnf
      clear hbc hcell hb
      go_wp2_with fail
      refine hnf.mono ?_
      clear hnf q0 q1 q2 q3 q4 q5 q6 q7
      rintro e w2 ⟨rfl, hb2⟩
      have HB2 := Lib.hid (HB.out.trans (hb2.mono hsz))
      clear hb2
      by_cases he : diffN l[k] c ≤ 2
      · rw [decide_eq_true he]
        have HE := Lib.hid he
        clear he
        go_wp2_with fail
        go_ret
        exact ⟨k, rfl, .inl ⟨k, hlt, rfl, HE.out, NO.out⟩, HB2.out⟩
      · rw [decide_eq_false he]
        have HE := Lib.hid he
        clear he
        go_wp2_with fail
        go_roundw
        case rel =>
          have fin : AtRel l (fun s => diffN s c ≤ 2) w (.int .i64 ((k : Int) + 1)) w2 := by
            refine ⟨k + 1, by omega, by go_num, fun j h hj => ?_, HB2.out⟩
            by_cases hjk : j = k
            · subst hjk; exact HE.out
            · exact NO.out j h (by omega)
          first | exact fin | ((repeat apply Exists.intro); exact ⟨fin, rfl⟩)
        case measure => simp [intOf]; omega
    · obtain rfl : k = l.length := by omega
      have d1 : decide ((l.length : Int) < (l.length : Int)) = false := decide_eq_false (by omega)
      clear hb
      go_wp2_with fail
      go_ret
      exact ⟨-1, rfl, .inr ⟨rfl, fun j h => NO.out j h h⟩, HB.out⟩
end Go.Proofs.Ytcckpkcjekcajaa
