/- The program's function joined is the concatenation of two strings. -/
import Derived.Test.YtnjfbokomihecaaDoorBase
import Derived.Lib.BufferWrite
import Derived.Laws.CopyOwn
namespace Go.Proofs.YtnjfbokomihecaaDoor
open Go.RowKit

/-- copy of a string into a row that the call owns; the place is given by the prover. -/
theorem wpList_copy_str {P : Program} {w : World} {ops : Array Oper} {rest : List Oper} {o : Oper} {a : Act} {Q : Exit → Act → World → Prop} (hgd : o.guard = none) (d s : Operand) (dT sT : TypeId)
    (ho : o.op = .call { callee := .builtin .copy, args := #[d, s], argTypes := #[dT, sT] }) (elem : TypeId) (hu : P.underlying dT = some (.slice elem)) (hsz : (P.info? elem).map (·.size) = some 1)
    (dp : Option Addr) (dLen dCap : Nat) (str : ByteArray) (hd : a.eval d = .slice dp dLen dCap) (hs : a.eval s = .string str)
    (g off : Nat) (cur : List Value) (t : TypeId) (hg : w.heap[g]? = some (.cells cur.toArray t (0, 0))) (hle : str.size ≤ dLen)
    (hpos : 0 < str.size → dp = some ⟨g, off, none⟩) (hfit : off + str.size ≤ cur.length) (B : Nat) (w0 : World) (hb : Below B w0 w) (hBg : B ≤ g)
    (h : ∀ w', Hid (w'.heap[g]? = some (.cells (splice cur off (Lib.byteCells str.data.toList)).toArray t (0, 0))) → Below B w0 w' → wpList P ops Q rest (a.put o.dst (goInt str.size)) w') :
    wpList P ops Q (o :: rest) a w := by
  have hlen : (Lib.byteCells str.data.toList).length = str.size := by rw [Lib.byteCells_length, ← Lib.size_eq]
  refine wpList_plain hgd fun K hK => ?_
  by_cases h0 : str.size = 0
  · have hrun := Lib.run_copy_empty_string (P := P) w dT sT o.type elem dp dLen dCap str hu (by simp [hsz]) h0
    have hnil : Lib.byteCells str.data.toList = [] := List.eq_nil_of_length_eq_zero (by rw [hlen, h0])
    unfold Oper.wp
    simp [execOp, ho, resolve, invoke, builtin, hd, hs, hrun, Result.andThen]
    refine hK _ _ ?_
    have := h w (show _ = _ by rw [hnil]; simpa [splice] using hg) hb
    rw [h0] at this
    exact this
  · obtain rfl := hpos (by omega)
    have hrun := Lib.run_copy_row_string (P := P) w dT sT o.type elem g off dLen dCap str cur.toArray t hu hsz hg hle (by simpa using hfit)
    unfold Oper.wp
    simp [execOp, ho, resolve, invoke, builtin, hd, hs, hrun, Result.andThen]
    refine hK _ _ (h _ (show _ = _ by simpa [splice, hlen] using setRow_heap w g _ _ t _ hg) (below_setRow hb hBg _))

theorem Tryd.size5 : (Tryd.prog.info? 5).map (·.size) = some 1 := by kernel_rfl

theorem cells_B (s : ByteArray) : Lib.byteCells s.data.toList = s.data.toList.map B := rfl
theorem str_app (a b : ByteArray) : (⟨(a.data.toList ++ b.data.toList).toArray⟩ : ByteArray) = a ++ b := by
  apply ByteArray.ext; simp
theorem splice_two (Z X Y : List Value) (hZ : Z.length = X.length + Y.length) : splice (splice Z 0 X) X.length Y = X ++ Y := by
  unfold splice; simp; omega

set_option maxHeartbeats 400000 in
theorem joined_pos (a b : ByteArray) (w : World) (h : a.size + b.size ≤ 10000) (h0 : 0 < b.size) :
    Calls Tryd.prog 41 #[.string a, .string b] w fun e w' => e = .returned (.string (a ++ b)) ∧ Below w.heap.size w w' := by
  obtain ⟨i0, hi, hz0, hz1, hz2⟩ := info_parts Tryd.info5
  have hne : ¬ b = ByteArray.empty := by rintro rfl; simp at h0
  obtain ⟨str, hstr⟩ : ∃ str, str = a ++ b := ⟨_, rfl⟩
  rw [← hstr]
  have HS := Lib.hid hstr
  clear hstr
  go_enter Tryd.func41, Tryd.ntmps41
  go_wp2_with (at_make; refine wpList_make_full _ rfl _ _ 22 rfl w.heap.size 5 i0 (.int .u8 0) 1 Tryd.underlying22 hi hz0 hz1 .i64 .i64 _ _ (a.size + b.size) rfl rfl (by omega) (by omega) (by rw [hz2]; omega) (by unfold maxLen; omega) (Nat.le_refl _) ?_)
  intro w1 hown1 hgrow1
  have hb1 : Below w.heap.size w w1 := (Below.refl _ w).grown hgrow1 (Nat.le_refl _) (by simp)
  obtain ⟨Z, hg1, hl1⟩ : ∃ Z : List Value, w1.heap[w.heap.size]? = some (.cells Z.toArray 5 (0, 0)) ∧ Z.length = a.size + b.size := ⟨_, own_block hown1, by simpa using hown1.1⟩
  have HG1 := Lib.hid hg1
  have HL1 := Lib.hid hl1
  clear hown1 hgrow1 hg1 hl1 hi hz0 hz1 hz2
  go_wp2_with ((with_reducible show wpList _ _ _ (⟨some 15, _, _, _, _, _⟩ :: _) _ _); refine wpList_copy_str rfl (.tmp 13) (.tmp 14) 22 9 rfl 5 Tryd.underlying22 Tryd.size5 (some ⟨w.heap.size, 0, none⟩) (a.size + b.size) (a.size + b.size) a rfl rfl w.heap.size 0 Z 5 HG1.out (by omega) (fun _ => rfl) (by have := HL1.out; omega) w.heap.size w hb1 (Nat.le_refl _) ?_)
  intro w2 HG2 hb2
  clear hb1
  have HL2 := Lib.hid (length_splice Z 0 (Lib.byteCells a.data.toList) (by rw [HL1.out, Lib.byteCells_length, ← Lib.size_eq]; omega))
  go_wp2_with ((with_reducible show wpList _ _ _ (⟨some 18, _, _, _, _, _⟩ :: _) _ _); refine wpList_copy_str rfl (.tmp 16) (.tmp 17) 22 9 rfl 5 Tryd.underlying22 Tryd.size5 (some ⟨w.heap.size, a.size, none⟩) b.size b.size b rfl rfl w.heap.size a.size _ 5 HG2.out (Nat.le_refl _) (fun _ => rfl) (by rw [HL2.out, HL1.out]; omega) w.heap.size w hb2 (Nat.le_refl _) ?_)
  intro w3 HG3 hb3
  have conv := conv_block (c := a.size + b.size) HG3.out (a.data.toList ++ b.data.toList) (a.size + b.size) (by rw [List.length_append, ← Lib.size_eq, ← Lib.size_eq]) (by
    have e : a.size = (Lib.byteCells a.data.toList).length := by rw [Lib.byteCells_length, ← Lib.size_eq]
    rw [e, splice_two _ _ _ (by rw [HL1.out, Lib.byteCells_length, Lib.byteCells_length, ← Lib.size_eq, ← Lib.size_eq]), cells_B, cells_B, List.map_append])
  rw [str_app, ← HS.out] at conv
  clear HG3 HG2 HG1 hb2 HL1 HL2
  go_wp2
  go_ret
  exact ⟨rfl, hb3⟩

set_option maxHeartbeats 400000 in
theorem joined_nil (a : ByteArray) (w : World) (h : a.size ≤ 10000) :
    Calls Tryd.prog 41 #[.string a, .string ByteArray.empty] w fun e w' => e = .returned (.string a) ∧ Below w.heap.size w w' := by
  obtain ⟨i0, hi, hz0, hz1, hz2⟩ := info_parts Tryd.info5
  go_enter Tryd.func41, Tryd.ntmps41
  go_wp2_with (at_make; refine wpList_make_full _ rfl _ _ 22 rfl w.heap.size 5 i0 (.int .u8 0) 1 Tryd.underlying22 hi hz0 hz1 .i64 .i64 _ _ a.size rfl rfl (by omega) (by omega) (by rw [hz2]; omega) (by unfold maxLen; omega) (Nat.le_refl _) ?_)
  intro w1 hown1 hgrow1
  have hb1 : Below w.heap.size w w1 := (Below.refl _ w).grown hgrow1 (Nat.le_refl _) (by simp)
  obtain ⟨Z, hg1, hl1⟩ : ∃ Z : List Value, w1.heap[w.heap.size]? = some (.cells Z.toArray 5 (0, 0)) ∧ Z.length = a.size := ⟨_, own_block hown1, by simpa using hown1.1⟩
  have HG1 := Lib.hid hg1
  have HL1 := Lib.hid hl1
  clear hown1 hgrow1 hg1 hl1 hi hz0 hz1 hz2
  go_wp2_with ((with_reducible show wpList _ _ _ (⟨some 15, _, _, _, _, _⟩ :: _) _ _); refine wpList_copy_str rfl (.tmp 13) (.tmp 14) 22 9 rfl 5 Tryd.underlying22 Tryd.size5 (some ⟨w.heap.size, 0, none⟩) a.size a.size a rfl rfl w.heap.size 0 Z 5 HG1.out (by omega) (fun _ => rfl) (by have := HL1.out; omega) w.heap.size w hb1 (Nat.le_refl _) ?_)
  intro w2 HG2 hb2
  clear hb1
  have HL2 := Lib.hid (length_splice Z 0 (Lib.byteCells a.data.toList) (by rw [HL1.out, Lib.byteCells_length, ← Lib.size_eq]; omega))
  go_wp2_with ((with_reducible show wpList _ _ _ (⟨some 18, _, _, _, _, _⟩ :: _) _ _); refine wpList_copy_str rfl (.tmp 16) (.tmp 17) 22 9 rfl 5 Tryd.underlying22 Tryd.size5 (some ⟨w.heap.size, 0, none⟩) 0 0 ByteArray.empty rfl rfl w.heap.size 0 _ 5 HG2.out (Nat.le_refl _) (fun h => absurd h (by simp)) (by rw [HL2.out]; simp) w.heap.size w hb2 (Nat.le_refl _) ?_)
  intro w3 HG3 hb3
  have conv := conv_block (c := a.size) HG3.out a.data.toList a.size (Lib.size_eq a) (by
    have e0 : Lib.byteCells [] = [] := rfl
    have e : (Lib.byteCells a.data.toList).length = a.size := by rw [Lib.byteCells_length, ← Lib.size_eq]
    rw [e0, cells_B]; rw [cells_B] at e
    have := HL1.out
    simp [splice] at e ⊢
    omega)
  have e2 : (⟨a.data.toList.toArray⟩ : ByteArray) = a := by apply ByteArray.ext; simp
  rw [e2] at conv
  clear HG3 HG2 HG1 hb2 HL1 HL2 e2
  go_wp2
  go_ret
  exact ⟨rfl, hb3⟩

theorem joined_any (a b : ByteArray) (w : World) (h : a.size + b.size ≤ 10000) :
    Calls Tryd.prog 41 #[.string a, .string b] w fun e w' => e = .returned (.string (a ++ b)) ∧ Below w.heap.size w w' := by
  by_cases h0 : 0 < b.size
  · exact joined_pos a b w h h0
  · obtain rfl : b = ByteArray.empty := by
      apply ByteArray.ext; apply Array.eq_empty_of_size_eq_zero; exact Nat.eq_zero_of_not_pos h0
    rw [show a ++ ByteArray.empty = a by apply ByteArray.ext; simp]
    exact joined_nil a w (by omega)
end Go.Proofs.YtnjfbokomihecaaDoor
