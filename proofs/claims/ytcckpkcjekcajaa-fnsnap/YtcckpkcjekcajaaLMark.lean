/- The marks of the laws: a text for each number; slices of strings marked and looked at. -/
import Derived.Test.YtcckpkcjekcajaaLStr
namespace Go.Proofs.Ytcckpkcjekcajaa
open Go.RowKit

def dig (k : Nat) : UInt8 := UInt8.ofNat (48 + k % 10)
theorem dig_val (n : Nat) : (48 + (n : Int) % 10) = ((dig n).toNat : Int) := by
  unfold dig; rw [UInt8.toNat_ofNat']; omega
def digs (k : Nat) (acc : List UInt8) : List UInt8 := if _h : k = 0 then acc else digs (k / 10) (dig k :: acc)
termination_by k
decreasing_by omega
theorem digs_zero (acc : List UInt8) : digs 0 acc = acc := by rw [digs, dif_pos rfl]
theorem digs_more (k : Nat) (acc : List UInt8) (h : 0 < k) : digs k acc = digs (k / 10) (dig k :: acc) := by rw [digs, dif_neg (by omega)]
/-- A list of bytes as a string. -/
def accS (l : List UInt8) : ByteArray := ⟨l.toArray⟩
theorem accS_size (l : List UInt8) : (accS l).size = l.length := by show l.toArray.size = _; simp
theorem accS_cons (x : UInt8) (l : List UInt8) : accS [x] ++ accS l = accS (x :: l) := by
  apply ByteArray.ext; simp [accS]
/-- The text of the number k. -/
def markS (k : Nat) : ByteArray := accS (109 :: digs k [])
def MarkRel (k0 : Nat) (w : World) (n t : Value) (wr : World) : Prop :=
  ∃ (k : Nat) (acc : List UInt8), n = .int .i64 k ∧ t = .string (accS acc) ∧ acc.length ≤ 11 ∧ digs k acc = digs k0 [] ∧ k * 10 ^ acc.length ≤ k0 ∧ Below w.heap.size w wr
theorem len_bound (k k0 n : Nat) (h : 0 < k) (hb : k * 10 ^ n ≤ k0) (h0 : k0 ≤ 10000000000) : n ≤ 10 := by
  have h1 : 10 ^ n ≤ k0 := Nat.le_trans (Nat.le_mul_of_pos_left _ h) hb
  have h2 : 10 ^ n ≤ 10 ^ 10 := Nat.le_trans h1 h0
  exact (Nat.pow_le_pow_iff_right (by decide)).1 h2
theorem next_bound (k k0 n : Nat) (hb : k * 10 ^ n ≤ k0) : k / 10 * 10 ^ (n + 1) ≤ k0 := by
  have : k / 10 * 10 ^ (n + 1) ≤ k * 10 ^ n := by
    rw [Nat.pow_succ, Nat.mul_comm (10 ^ n) 10, ← Nat.mul_assoc]
    exact Nat.mul_le_mul_right _ (by omega)
  omega

set_option maxRecDepth 100000 in
set_option maxHeartbeats 1000000 in
theorem markText_any (k : Nat) (w : World) (h0 : 1 ≤ k) (h1 : k ≤ 10000000000) :
    Calls Try.prog 48 #[.int .i64 k] w fun e w' => e = .returned (.string (markS k)) ∧ Below w.heap.size w w' := by
  have d0 : decide ((k : Int) ≤ 0) = false := decide_eq_false (by omega)
  have d1 : decide (k = 0) = false := decide_eq_false (by omega)
  have he : ByteArray.mk #[] = accS [] := rfl
  have hm : ByteArray.mk #[109] = accS [109] := rfl
  go_enter Try.func48, Try.ntmps48
  go_wp2_with fail
  go_loopw [0, 3] (fun n t wr => MarkRel k w n t wr) (fun n _ _ => (intOf n).toNat)
  case atStart => exact ⟨k, [], rfl, rfl, by simp, rfl, by simp, Below.refl _ _⟩
  case round =>
    obtain ⟨n, acc, rfl, rfl, hal, hd, hb, hbel⟩ := hrel
    have HD := Lib.hid hd
    have HB := Lib.hid hb
    have HBEL := Lib.hid hbel
    have hsz : (accS acc).size ≤ 20 := by rw [accS_size]; omega
    clear hd hb hbel
    by_cases hn : 0 < n
    · have hlen := len_bound n k acc.length hn HB.out h1
      have hn1 : n ≤ 10000000000 := by
        have := HB.out
        have h3 : n ≤ n * 10 ^ acc.length := Nat.le_mul_of_pos_right _ (Nat.pow_pos (by decide))
        omega
      have conv := conv_block (c := 1) (w := wr.alloc (Obj.cells #[Value.int IntKind.u8 (48 + (n : Int) % 10)] 5)) (g := wr.heap.size) (e := 5) (xs := [Value.int IntKind.u8 (48 + (n : Int) % 10)]) (heap_alloc_new wr _) [dig n] 1 rfl (by
        rw [dig_val n]; rfl)
      rw [show (⟨[dig n].toArray⟩ : ByteArray) = accS [dig n] from rfl] at conv
      have hsz1 : (accS [dig n]).size ≤ 1 := by rw [accS_size]; simp
      go_wp2_with fail
      go_roundw
      case rel => exact ⟨n / 10, dig n :: acc, by go_num, by rw [accS_cons], by simp; omega, by rw [← digs_more n acc hn]; exact HD.out, next_bound _ _ _ HB.out, HBEL.out.alloc HBEL.out.size _⟩
      case measure => simp [intOf]; omega
    · obtain rfl : n = 0 := by omega
      have hd := HD.out
      rw [digs_zero] at hd
      have HX := Lib.hid (show markS k = accS [109] ++ accS acc by rw [accS_cons, hd]; rfl)
      have hs1 : (accS [109]).size ≤ 1 := by rw [accS_size]; simp
      clear hd HD HB
      go_wp2_with fail
      go_ret
      exact ⟨by rw [HX.out]; rfl, HBEL.out⟩

def marks (k n : Nat) : List Value := (List.range n).map fun j => .string (markS (k + j))
theorem marks_length (k n : Nat) : (marks k n).length = n := by simp [marks]
/-- The first i marked, the others as they were. -/
def marked (k i : Nat) (xs : List Value) : List Value := (List.range xs.length).map fun j => if j < i then .string (markS (k + j)) else xs.getD j undef
theorem marked_length (k i : Nat) (xs : List Value) : (marked k i xs).length = xs.length := by simp [marked]
theorem marked_zero (k : Nat) (xs : List Value) : marked k 0 xs = xs := by
  apply List.ext_getElem
  · simp [marked]
  · intro j h1 h2; simp [marked, h2]
theorem marked_all (k : Nat) (xs : List Value) : marked k xs.length xs = marks k xs.length := by
  apply List.ext_getElem
  · simp [marked, marks]
  · intro j h1 h2; simp [marked] at h1; simp [marked, marks, h1]
theorem marked_set (k i : Nat) (xs : List Value) (_h : i < xs.length) : (marked k i xs).set i (.string (markS (k + i))) = marked k (i + 1) xs := by
  apply List.ext_getElem
  · simp [marked]
  · intro j h1 h2
    rw [List.getElem_set]
    by_cases hj : i = j
    · subst hj; simp [marked]
    · rw [if_neg hj]; simp only [marked, List.getElem_map, List.getElem_range]
      by_cases hji : j < i
      · rw [if_pos hji, if_pos (by omega)]
      · rw [if_neg hji, if_neg (by omega)]

/-- What marking a slice does: its cells turn, and nothing else that was there. -/
def Marked (lo : Nat) (v : Value) (n sz : Nat) (xs : List Value) (r : Int) (w : World) (e : Ending) (w' : World) : Prop :=
  e = .returned (.int .i64 r) ∧ Own w' lo v n sz xs ∧ w.grownBy w' (blk v n)
def MarkSRel (lo : Nat) (v : Value) (k n : Nat) (xs : List Value) (w : World) (q i : Value) (wr : World) : Prop :=
  ∃ j : Nat, j ≤ n ∧ q = .int .i64 ((k + j : Nat) : Int) ∧ i = .int .i64 j ∧ Own wr lo v n 1 (marked k j xs) ∧ w.grownBy wr (blk v n)
set_option maxRecDepth 100000 in
set_option maxHeartbeats 1000000 in
theorem markStrs_any (lo : Nat) (v : Value) (n k : Nat) (xs : List Value) (w : World) (h : Own w lo v n 1 xs) (hn : n ≤ 1048576) (h0 : 1 ≤ k) (h1 : k ≤ 1000000000) :
    Calls Try.prog 21 #[v, .int .i64 k] w (Marked lo v n 1 (marks k n) ((k + n : Nat) : Int) w) := by
  have hlx : xs.length = n := by simpa using h.1
  obtain ⟨a, c, rfl, _⟩ := h.2
  have HO := Lib.hid h
  have HX := Lib.hid hlx
  clear h hlx
  go_enter Try.func21, Try.ntmps21
  go_wp2_with fail
  go_loopw [1, 5] (fun q i wr => MarkSRel lo (.slice a n c) k n xs w q i wr) (fun _ i _ => n - (intOf i).toNat)
  case atStart => exact ⟨0, by omega, rfl, rfl, by rw [marked_zero]; exact HO.out, World.grownBy.refl w _⟩
  case round =>
    clear HO
    obtain ⟨j, hj, rfl, rfl, hown, hg⟩ := hrel
    by_cases hlt : j < n
    · obtain ⟨b, off, rfl, hlo, hbl, hc, hf⟩ := hown.get (by omega)
      rw [blk_pos (by omega)] at hg
      have HOWN := Lib.hid hown
      have HG := Lib.hid hg
      clear hown hg
      go_wp2_with fail
      refine (markText_any (k + j) _ (by omega) (by omega)).mono ?_
      rintro e w1 ⟨rfl, hb1⟩
      have hown1 := HOWN.out.below hb1 (Nat.le_refl _)
      have hc1 := (hb1.cell (p := ⟨b, off + j, none⟩) hbl).trans (hc j (by omega))
      have hf1 := (hb1.frozen (p := ⟨b, off + j, none⟩) hbl).trans (hf j (by omega))
      rw [List.getElem?_eq_getElem (by rw [marked_length, HX.out]; omega)] at hc1
      generalize (marked k j xs)[j]'(by rw [marked_length, HX.out]; omega) = v0 at hc1
      have HO1 := Lib.hid (hown1.set j (.string (markS (k + j))) (by omega) ⟨v0, hc1⟩)
      have HG1 := Lib.hid (grown_set (HG.out.andThen (below_grown hb1) (fun _ e => by cases e)) (b := b) (i := off + j) (x := .string (markS (k + j))))
      clear hb1 hown1 hc hf
      go_wp2_with fail
      go_roundw
      case rel => exact ⟨j + 1, by omega, by go_num, by go_num, by rw [← marked_set k j xs (by rw [HX.out]; omega)]; exact HO1.out, by rw [blk_pos (by omega)]; exact HG1.out⟩
      case measure => simp [intOf]; omega
    · obtain rfl : j = n := by omega
      have HOWN := Lib.hid hown
      have HG := Lib.hid hg
      clear hown hg
      go_wp2_with fail
      go_ret
      refine ⟨rfl, ?_, HG.out⟩
      have := HOWN.out
      rw [← HX.out, marked_all, HX.out] at this
      exact this

/-- What looking at a marked slice gives. -/
def Held (r : Int) (w : World) (e : Ending) (w' : World) : Prop := e = .returned (.int .i64 r) ∧ Below w.heap.size w w'
def HeldRel (k n : Nat) (w : World) (q i : Value) (wr : World) : Prop :=
  ∃ j : Nat, j ≤ n ∧ q = .int .i64 ((k + j : Nat) : Int) ∧ i = .int .i64 j ∧ Below w.heap.size w wr
theorem marks_at (k n j : Nat) (h : j < n) : (marks k n)[j]? = some (.string (markS (k + j))) := by simp [marks, h]
set_option maxRecDepth 100000 in
set_option maxHeartbeats 1000000 in
theorem heldStrs_any (v : Value) (n k : Nat) (w : World) (h : Rd w v n 1 (marks k n)) (hn : n ≤ 1048576) (h0 : 1 ≤ k) (h1 : k ≤ 1000000000) :
    Calls Try.prog 49 #[v, .int .i64 k] w (Held ((k + n : Nat) : Int) w) := by
  obtain ⟨_, a, c, rfl, hc⟩ := h
  have HC := Lib.hid hc
  clear hc
  go_enter Try.func49, Try.ntmps49
  go_wp2_with fail
  go_loopw [1, 5] (fun q i wr => HeldRel k n w q i wr) (fun _ i _ => n - (intOf i).toNat)
  case atStart => exact ⟨0, by omega, rfl, rfl, Below.refl _ _⟩
  case round =>
    obtain ⟨j, hj, rfl, rfl, hbel⟩ := hrel
    by_cases hlt : j < n
    · obtain ⟨b, off, rfl, hbl, hcell⟩ := HC.out (by omega)
      have hc1 : wr.cell? ⟨b, off + j, none⟩ = some (.string (markS (k + j))) := by
        rw [hbel.cell (p := ⟨b, off + j, none⟩) hbl, hcell j (by omega), marks_at k n j hlt]
      have hblr : b < wr.heap.size := Nat.lt_of_lt_of_le hbl hbel.size
      have hsz := hbel.size
      have HBEL := Lib.hid hbel
      clear hcell hbel
      have e0 : (j : Int) < (n : Int) := by omega
      have e1 : (0 : Int) ≤ (j : Int) := by omega
      go_wp2_with fail
      go_region_held3 (fun w' => w'.cell? ⟨b, off + j, none⟩ = some (.string (markS (k + j)))) (first | go_keep | (rw [hb1.cell (p := ⟨b, off + j, none⟩) hblr]; exact hc1)) ((go_at_call 48; refine (markText_any (k + j) _ (by omega) (by omega)).mono ?_; rintro e w1 ⟨rfl, hb1⟩))
      have HB1 := Lib.hid (HBEL.out.drew.trans (hb1.mono hsz))
      clear hb1
      go_wp2_with fail
      go_roundw
      case rel => exact ⟨j + 1, by omega, by go_num, by go_num, HB1.out⟩
      case measure => simp [intOf]; omega
    · obtain rfl : j = n := by omega
      have HBEL := Lib.hid hbel
      clear hbel
      go_wp2_with fail
      go_ret
      exact ⟨rfl, HBEL.out⟩
end Go.Proofs.Ytcckpkcjekcajaa
