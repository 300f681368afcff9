/- A bit mask as a list: the program's FromBits and the model's. -/
import Derived.Test.YtmhmjofmafeidaaARight
import Derived.Test.YtmhmjofmafeidaaAGr
import Derived.Laws.Bits64b
namespace Go.Proofs.Ytmhmjofmafeidaa
open Go.RowKit

/-- Whether bit k is set. -/
def bitI (b : Int) (k : Nat) : Bool := bits BinOp.and IntKind.i64 (b / 2 ^ k) 1 == 1
/-- The set bits below n. -/
def bitsL (b : Int) : Nat → List Int
  | 0 => []
  | n + 1 => if bitI b n then bitsL b n ++ [(n : Int)] else bitsL b n
theorem bitsL_len (b : Int) : ∀ n, (bitsL b n).length ≤ n
  | 0 => by simp [bitsL]
  | n + 1 => by
    have := bitsL_len b n
    unfold bitsL
    split
    · simp; omega
    · omega
theorem bitsL_yes (b : Int) (n : Nat) (h : bitI b n = true) : bitsL b (n + 1) = bitsL b n ++ [(n : Int)] := by rw [bitsL, if_pos h]
theorem bitsL_no (b : Int) (n : Nat) (h : bitI b n = false) : bitsL b (n + 1) = bitsL b n := by rw [bitsL, h]; rfl
/-- The list of a mask. -/
def fromB (b : Int) : List Int := if 0 ≤ b ∧ b < 16777216 then bitsL b 24 else []
theorem fromB_len (b : Int) : (fromB b).length ≤ 24 := by
  unfold fromB; split
  · exact bitsL_len b 24
  · simp
theorem Gr.form {w : World} {lo e sz n : Nat} {v : Value} {xs : List Value} (h : Gr w lo e sz v n xs) : ∃ a c, v = .slice a n c := by
  obtain ⟨a, c, rfl, -⟩ := h.own.2
  exact ⟨a, c, rfl⟩
theorem one_new (w : World) (T : TypeId) (v : Value) : ∀ (j : Nat) (u : Value), [v][j]? = some u → (w.alloc (.cells #[v] T)).cell? ((⟨w.heap.size, 0, none⟩ : Addr).add j) = some u := by
  intro j u hu
  match j, hu with
  | 0, hu => simp at hu; subst hu; exact (bx_new w T #[v]).cell 0
  | j + 1, hu => simp at hu
/-- What a call gives that makes a list which may be appended to. -/
def MadeG (w : World) (l : List Int) (e : Ending) (w' : World) : Prop := ∃ v, e = .returned v ∧ Gr w' w.heap.size 2 1 v l.length (ints l) ∧ Below w.heap.size w w'
/-- A list under way. -/
def GrB (w : World) (l : List Int) (v : Value) (wr : World) : Prop := Gr wr w.heap.size 2 1 v l.length (ints l) ∧ Below w.heap.size w wr
theorem GrB.next {w wr w1 : World} {l : List Int} {v : Value} (h : GrB w l v wr) (hb : Below wr.heap.size wr w1) : GrB w l v w1 := ⟨h.1.below hb (Nat.le_refl _), h.2.trans (hb.mono h.2.size)⟩
theorem GrB.grow {w wr w4 : World} {l : List Int} {v v' : Value} (h : GrB w l v wr) (x : Int) (hg : Gr w4 w.heap.size 2 1 v' (l.length + 1) (ints l ++ [.int .i64 x])) (hgr : wr.grownBy w4 (blk v l.length)) : GrB w (l ++ [x]) v' w4 := by
  refine ⟨by rw [List.length_append, ints_append]; exact hg, h.2.grown hgr h.2.size (fun k e => (h.1.own.blk k e).1)⟩
def FbRel (b : Int) (w : World) (lv i : Value) (wr : World) : Prop := ∃ k : Nat, k ≤ 24 ∧ i = .int .i64 k ∧ GrB w (bitsL b k) lv wr

set_option maxRecDepth 100000 in
set_option maxHeartbeats 1000000 in
theorem implFromB (b : Int) (w : World) (hb0 : -9223372036854775808 ≤ b) (hb1 : b ≤ 9223372036854775807) :
    Calls Try.prog 22 #[.int .i64 b] w (MadeG w (fromB b)) := by
  obtain ⟨i0, hi, hz0, hz1, hz2⟩ := info_parts Try.info2
  by_cases h0 : 0 ≤ b
  · by_cases h1 : b < 16777216
    · have HL : fromB b = bitsL b 24 := by unfold fromB; rw [if_pos ⟨h0, h1⟩]
      rw [HL]
      clear HL
      have d0 : decide (b < 0) = false := decide_eq_false (by omega)
      have d1 : decide ((16777216 : Int) ≤ b) = false := decide_eq_false (by omega)
      go_enter Try.func22, Try.ntmps22
      go_wp2_with fail
      go_loopw [3, 11] (fun lv i wr => FbRel b w lv i wr) (fun _ i _ => 24 - (intOf i).toNat)
      case atStart => exact ⟨0, by omega, rfl, Gr.nil _ _ _ _, Below.refl _ _⟩
      case round =>
        obtain ⟨k, hk, rfl, hg⟩ := hrel
        obtain ⟨a3, c3, rfl⟩ := hg.1.form
        have HG := Lib.hid hg
        clear hg
        by_cases hlt : k < 24
        · have hlen := bitsL_len b k
          have hsz := HG.out.2.size
          obtain ⟨q, hq⟩ : ∃ q, bitI b k = q := ⟨_, rfl⟩
          have HQ := Lib.hid hq
          unfold bitI at hq
          cases q with
          | true =>
            have hq' : bits BinOp.and IntKind.i64 (b / 2 ^ k) 1 = 1 := by simpa using hq
            clear hq
            go_wp2_with ((with_reducible show wpList _ _ _ (⟨some 22, _, _, _, _, _⟩ :: _) _ _); refine wpList_append_gr (lo := w.heap.size) (e := 2) (sz := 1) (v := .slice a3 (bitsL b k).length c3) (n := (bitsL b k).length) (xs := ints (bitsL b k)) rfl (.tmp 19) (.tmp 21) 23 rfl i0 _ 8 Try.underlying23 hi hz0 hz1 hz2 rfl (by decide) rfl (by rw [ints_length]; omega) ?_ ⟨wr.heap.size, 0, none⟩ 1 1 rfl [.int .i64 (k : Int)] (by decide) rfl ?_ ?_ (by unfold maxLen; omega) (by omega) (by simp; omega) ?_)
            · exact (HG.out.next (below_alloc1 wr _)).1
            · exact one_new wr 2 (.int .i64 (k : Int))
            · intro u hu; simp at hu; subst hu; rfl
            · intro gg cc w4 hgn hgr hloc
              have G4 := Lib.hid ((HG.out.next (below_alloc1 wr _)).grow (k : Int) hgn hgr)
              clear hgn hgr hloc
              go_wp2_with fail
              go_roundw
              case rel => exact ⟨k + 1, by omega, by go_num, by rw [bitsL_yes b k HQ.out]; exact G4.out⟩
              case measure => simp [intOf]; omega
          | false =>
            have hq' : ¬ bits BinOp.and IntKind.i64 (b / 2 ^ k) 1 = 1 := by simpa using hq
            have hq2 : decide (bits BinOp.and IntKind.i64 (b / 2 ^ k) 1 = 1) = false := decide_eq_false hq'
            clear hq'
            go_wp2_with fail
            go_roundw
            case rel => exact ⟨k + 1, by omega, by go_num, by rw [bitsL_no b k HQ.out]; exact HG.out⟩
            case measure => simp [intOf]; omega
        · obtain rfl : k = 24 := by omega
          go_wp2_with fail
          go_ret
          exact ⟨_, rfl, HG.out.1, HG.out.2⟩
    · have HL : fromB b = [] := by unfold fromB; rw [if_neg (by omega)]
      rw [HL]
      have d0 : decide (b < 0) = false := decide_eq_false (by omega)
      have d1 : (16777216 : Int) ≤ b := by omega
      go_enter Try.func22, Try.ntmps22
      go_wp2_with fail
      go_ret
      exact ⟨_, rfl, Gr.nil _ _ _ _, Below.refl _ _⟩
  · have HL : fromB b = [] := by unfold fromB; rw [if_neg (by omega)]
    rw [HL]
    have d0 : b < 0 := by omega
    go_enter Try.func22, Try.ntmps22
    go_wp2_with fail
    go_ret
    exact ⟨_, rfl, Gr.nil _ _ _ _, Below.refl _ _⟩

set_option maxRecDepth 100000 in
set_option maxHeartbeats 1000000 in
theorem specFromB (b : Int) (w : World) (hb0 : -9223372036854775808 ≤ b) (hb1 : b ≤ 9223372036854775807) :
    Calls Try.prog 23 #[.int .i64 b] w (MadeG w (fromB b)) := by
  obtain ⟨i0, hi, hz0, hz1, hz2⟩ := info_parts Try.info2
  by_cases h0 : 0 ≤ b
  · by_cases h1 : b < 16777216
    · have HL : fromB b = bitsL b 24 := by unfold fromB; rw [if_pos ⟨h0, h1⟩]
      rw [HL]
      clear HL
      have d0 : decide (b < 0) = false := decide_eq_false (by omega)
      have d1 : decide ((16777216 : Int) ≤ b) = false := decide_eq_false (by omega)
      go_enter Try.func23, Try.ntmps23
      go_wp2_with fail
      go_loopw [3, 4] (fun lv i wr => FbRel b w lv i wr) (fun _ i _ => 24 - (intOf i).toNat)
      case atStart => exact ⟨0, by omega, rfl, .inr ⟨rfl, rfl, .inr ⟨_, rfl⟩⟩, below_alloc1 w _⟩
      case round =>
        obtain ⟨k, hk, rfl, hg⟩ := hrel
        obtain ⟨a3, c3, rfl⟩ := hg.1.form
        have HG := Lib.hid hg
        clear hg
        by_cases hlt : k < 24
        · have hlen := bitsL_len b k
          have hsz := HG.out.2.size
          obtain ⟨q, hq⟩ : ∃ q, bitI b k = q := ⟨_, rfl⟩
          have HQ := Lib.hid hq
          unfold bitI at hq
          cases q with
          | true =>
            have hq' : bits BinOp.and IntKind.i64 (b / 2 ^ k) 1 = 1 := by simpa using hq
            clear hq
            go_wp2_with ((with_reducible show wpList _ _ _ (⟨some 25, _, _, _, _, _⟩ :: _) _ _); refine wpList_append_gr (lo := w.heap.size) (e := 2) (sz := 1) (v := .slice a3 (bitsL b k).length c3) (n := (bitsL b k).length) (xs := ints (bitsL b k)) rfl (.tmp 22) (.tmp 24) 23 rfl i0 _ 8 Try.underlying23 hi hz0 hz1 hz2 rfl (by decide) rfl (by rw [ints_length]; omega) ?_ ⟨wr.heap.size, 0, none⟩ 1 1 rfl [.int .i64 (k : Int)] (by decide) rfl ?_ ?_ (by unfold maxLen; omega) (by omega) (by simp; omega) ?_)
            · exact (HG.out.next (below_alloc1 wr _)).1
            · exact one_new wr 2 (.int .i64 (k : Int))
            · intro u hu; simp at hu; subst hu; rfl
            · intro gg cc w4 hgn hgr hloc
              have G4 := Lib.hid ((HG.out.next (below_alloc1 wr _)).grow (k : Int) hgn hgr)
              clear hgn hgr hloc
              go_wp2_with fail
              go_roundw
              case rel => exact ⟨k + 1, by omega, by go_num, by rw [bitsL_yes b k HQ.out]; exact G4.out⟩
              case measure => simp [intOf]; omega
          | false =>
            have hq' : ¬ bits BinOp.and IntKind.i64 (b / 2 ^ k) 1 = 1 := by simpa using hq
            have hq2 : decide (bits BinOp.and IntKind.i64 (b / 2 ^ k) 1 = 1) = false := decide_eq_false hq'
            clear hq'
            go_wp2_with fail
            go_roundw
            case rel => exact ⟨k + 1, by omega, by go_num, by rw [bitsL_no b k HQ.out]; exact HG.out⟩
            case measure => simp [intOf]; omega
        · obtain rfl : k = 24 := by omega
          go_wp2_with fail
          go_ret
          exact ⟨_, rfl, HG.out.1, HG.out.2⟩
    · have HL : fromB b = [] := by unfold fromB; rw [if_neg (by omega)]
      rw [HL]
      have d0 : decide (b < 0) = false := decide_eq_false (by omega)
      have d1 : (16777216 : Int) ≤ b := by omega
      go_enter Try.func23, Try.ntmps23
      go_wp2_with fail
      go_ret
      exact ⟨_, rfl, .inr ⟨rfl, rfl, .inr ⟨_, rfl⟩⟩, below_alloc1 w _⟩
  · have HL : fromB b = [] := by unfold fromB; rw [if_neg (by omega)]
    rw [HL]
    have d0 : b < 0 := by omega
    go_enter Try.func23, Try.ntmps23
    go_wp2_with fail
    go_ret
    exact ⟨_, rfl, .inr ⟨rfl, rfl, .inr ⟨_, rfl⟩⟩, below_alloc1 w _⟩
end Go.Proofs.Ytmhmjofmafeidaa
