/- The program's function joined is the concatenation of its strings. -/
import Derived.Test.YthkbllkhomjmbaaDoorLStr
import Derived.Test.YthkbllkhomjmbaaDoorCat
import Derived.Lib.BufferWrite
import Derived.Laws.CopyOwn
namespace Go.Proofs.YthkbllkhomjmbaaDoor
open Go.RowKit

/-- copy of a string into a row that the call owns; the place is given by the prover. -/
theorem wpList_copy_str {P : Program} {w : World} {ops : Array Oper} {rest : List Oper} {o : Oper} {a : Act} {Q : Exit → Act → World → Prop} (hgd : o.guard = none) (d s : Operand) (dT sT : TypeId)
    (ho : o.op = .call { callee := .builtin .copy, args := #[d, s], argTypes := #[dT, sT] }) (elem : TypeId) (hu : P.underlying dT = some (.slice elem)) (hsz : (P.info? elem).map (·.size) = some 1)
    (dp : Option Addr) (dLen dCap : Nat) (str : ByteArray) (hd : a.eval d = .slice dp dLen dCap) (hs : a.eval s = .string str)
    (g off : Nat) (cur : List Value) (t : TypeId) (hg : w.heap[g]? = some (.cells cur.toArray t (0, 0))) (hle : str.size ≤ dLen)
    (hpos : 0 < str.size → dp = some ⟨g, off, none⟩) (hfit : off + str.size ≤ cur.length) (B : Nat) (w0 : World) (hb : Below B w0 w) (hBg : B ≤ g)
    (h : ∀ w', Hid (w'.heap[g]? = some (.cells (splice cur off (Lib.byteCells str.data.toList)).toArray t (0, 0))) → Below B w0 w' → wpList P ops Q rest (a.put o.dst (goInt str.size)) w') :
    wpList P ops Q (o :: rest) a w := by
  have hlen : (Lib.byteCells str.data.toList).length = str.size := by rw [Lib.byteCells_length, ← Lib.size_eq]
  refine wpList_plain hgd fun K hK => ?_
  by_cases h0 : str.size = 0
  · have hrun := Lib.run_copy_empty_string (P := P) w dT sT o.type elem dp dLen dCap str hu (by simp [hsz]) h0
    have hnil : Lib.byteCells str.data.toList = [] := List.eq_nil_of_length_eq_zero (by rw [hlen, h0])
    unfold Oper.wp
    simp [execOp, ho, resolve, invoke, builtin, hd, hs, hrun, Result.andThen]
    refine hK _ _ ?_
    have := h w (show _ = _ by rw [hnil]; simpa [splice] using hg) hb
    rw [h0] at this
    exact this
  · obtain rfl := hpos (by omega)
    have hrun := Lib.run_copy_row_string (P := P) w dT sT o.type elem g off dLen dCap str cur.toArray t hu hsz hg hle (by simpa using hfit)
    unfold Oper.wp
    simp [execOp, ho, resolve, invoke, builtin, hd, hs, hrun, Result.andThen]
    refine hK _ _ (h _ (show _ = _ by simpa [splice, hlen] using setRow_heap w g _ _ t _ hg) (below_setRow hb hBg _))

theorem Tryd.size5 : (Tryd.prog.info? 5).map (·.size) = some 1 := by kernel_rfl

theorem cells_B (s : ByteArray) : Lib.byteCells s.data.toList = s.data.toList.map B := rfl
theorem str_app (a b : ByteArray) : (⟨(a.data.toList ++ b.data.toList).toArray⟩ : ByteArray) = a ++ b := by
  apply ByteArray.ext; simp
theorem splice_two (Z X Y : List Value) (hZ : Z.length = X.length + Y.length) : splice (splice Z 0 X) X.length Y = X ++ Y := by
  unfold splice; simp; omega

theorem splice_at (Z Y : List Value) (k : Nat) (X : List Value) (hX : Z.take k = X) (hk : X.length = k) : (splice Z k Y).take (k + Y.length) = X ++ Y := by
  unfold splice
  rw [hX, ← hk, ← List.append_assoc, List.take_append_of_le_length (by simp), List.take_of_length_le (by simp)]
def JoinRel1 (l : List ByteArray) (x i : Value) : Prop := ∃ k : Nat, k ≤ l.length ∧ i = .int .i64 k ∧ x = .int .i64 ((cat (l.take k)).size : Int)
def JoinRel2 (l : List ByteArray) (w : World) (x i : Value) (wr : World) : Prop :=
  ∃ (k : Nat) (Z : List Value), k ≤ l.length ∧ i = .int .i64 k ∧ x = .int .i64 ((cat (l.take k)).size : Int) ∧ wr.heap[w.heap.size]? = some (.cells Z.toArray 5 (0, 0)) ∧ Z.length = (cat l).size ∧ Z.take (cat (l.take k)).size = (cat (l.take k)).data.toList.map B ∧ Below w.heap.size w wr
theorem cat_list (x : ByteArray) : x.data.toList.length = x.size := (Lib.size_eq x).symm
theorem cat_next (l : List ByteArray) (k : Nat) (h : k < l.length) : (cat (l.take (k + 1))).data.toList.map B = (cat (l.take k)).data.toList.map B ++ Lib.byteCells l[k].data.toList := by
  rw [cat_succ l k h, cells_B]; simp
set_option maxRecDepth 100000 in
set_option maxHeartbeats 1000000 in
theorem joined_cat (v : Value) (l : List ByteArray) (w : World) (h : Rd w v l.length 1 (strs l)) (hn : l.length ≤ 1048576) (hz : (cat l).size ≤ 100000) :
    Calls Tryd.prog 66 #[v] w fun e w' => e = .returned (.string (cat l)) ∧ Below w.heap.size w w' := by
  obtain ⟨i0, hi, hz0, hz1, hz2⟩ := info_parts Tryd.info5
  obtain ⟨a, c, rfl, -⟩ := id h.2
  have HV := Lib.hid h
  clear h
  go_enter Tryd.func66, Tryd.ntmps66
  go_wp2_with fail
  go_loop [3, 12] (fun x i => JoinRel1 l x i) (fun _ i => l.length - (intOf i).toNat)
  case atStart => exact ⟨0, by omega, rfl, rfl⟩
  case round =>
    obtain ⟨k, hk, rfl, rfl⟩ := hrel
    by_cases hlt : k < l.length
    · obtain ⟨b, off, rfl, hbl, hcell⟩ := HV.out.get (by omega)
      have r0 : w.cell? ⟨b, off + k, none⟩ = some (.string l[k]) := by rw [hcell k (by omega), strs_at l k hlt]
      have z0 := cat_size_take l (k + 1)
      have z1 := cat_size_succ l k hlt
      have HZ := Lib.hid z1
      have m1 : IntKind.i64.wrap ((((cat (l.take k)).size : Nat) : Int) + ((l[k].size : Nat) : Int)) = ((cat (l.take k)).size : Int) + (l[k].size : Int) := IntWalk.i64_in _ (by omega)
      have m2 : wrap64 ((((cat (l.take k)).size : Nat) : Int) + ((l[k].size : Nat) : Int)) = ((cat (l.take k)).size : Int) + (l[k].size : Int) := IntWalk.wrap64_in _ (by omega)
      clear hcell z0 z1
      generalize l[k] = s at *
      go_wp2_with fail
      go_round
      case rel => exact ⟨k + 1, by omega, by go_num, by rw [HZ.out]; simp⟩
      case measure => simp [intOf]; omega
    · obtain rfl : k = l.length := by omega
      rw [List.take_length]
      go_wp2_with (at_make; refine wpList_make_full _ rfl _ _ 22 rfl w.heap.size 5 i0 (.int .u8 0) 1 Tryd.underlying22 hi hz0 hz1 .i64 .i64 _ _ (cat l).size rfl rfl (by omega) (by omega) (by rw [hz2]; omega) (by unfold maxLen; omega) (Nat.le_refl _) ?_)
      intro w1 hown1 hgrow1
      have hb1 : Below w.heap.size w w1 := (Below.refl _ w).grown hgrow1 (Nat.le_refl _) (by simp)
      obtain ⟨Z, hg1, hl1⟩ : ∃ Z : List Value, w1.heap[w.heap.size]? = some (.cells Z.toArray 5 (0, 0)) ∧ Z.length = (cat l).size := ⟨_, own_block hown1, by simpa using hown1.1⟩
      have HG1 := Lib.hid hg1
      have HB1 := Lib.hid hb1
      clear hown1 hgrow1 hg1 hi hz0 hz1 hz2 hb1
      go_wp2_with fail
      go_loopw [7, 25] (fun x i wr => JoinRel2 l w x i wr) (fun _ i _ => l.length - (intOf i).toNat)
      case atStart => exact ⟨0, Z, by omega, rfl, rfl, HG1.out, by omega, by simp only [List.take_zero]; rfl, HB1.out⟩
      case round =>
        clear HG1 HB1
        obtain ⟨k, Z2, hk, rfl, rfl, hg, hl2, hpre, hbel⟩ := hrel
        have HG := Lib.hid hg
        have HP := Lib.hid hpre
        have HBL := Lib.hid hbel
        have hsz := hbel.size
        clear hg hpre hl1
        by_cases hlt : k < l.length
        · obtain ⟨b, off, rfl, hbl, hcell⟩ := HV.out.get (by omega)
          have r0 : wr.cell? ⟨b, off + k, none⟩ = some (.string l[k]) := by rw [hbel.cell (p := ⟨b, off + k, none⟩) hbl, hcell k (by omega), strs_at l k hlt]
          have z0 := cat_size_take l (k + 1)
          have z1 := cat_size_succ l k hlt
          have HX := Lib.hid (cat_next l k hlt)
          have m1 : IntKind.i64.wrap ((((cat (l.take k)).size : Nat) : Int) + ((l[k].size : Nat) : Int)) = ((cat (l.take k)).size : Int) + (l[k].size : Int) := IntWalk.i64_in _ (by omega)
          have m2 : wrap64 ((((cat (l.take k)).size : Nat) : Int) + ((l[k].size : Nat) : Int)) = ((cat (l.take k)).size : Int) + (l[k].size : Int) := IntWalk.wrap64_in _ (by omega)
          have hlen : (Lib.byteCells l[k].data.toList).length = l[k].size := by rw [Lib.byteCells_length, ← Lib.size_eq]
          obtain ⟨E, hE⟩ : ∃ E, E = (cat (l.take k)).size := ⟨_, rfl⟩
          have HE := Lib.hid hE
          have HZ1 := Lib.hid z1
          have HL := Lib.hid hlen
          rw [← hE] at z1 m1 m2
          rw [← hE]
          clear hcell hlen hE
          obtain ⟨s, hs⟩ : ∃ s, s = l[k] := ⟨_, rfl⟩
          rw [← hs] at r0 z1 m1 m2 HX HZ1 HL
          clear hs
          have e0 : (E : Int) ≤ ((cat l).size : Int) := by omega
          have e1 : (0 : Int) ≤ (E : Int) := by omega
          have e2 : E ≤ (cat l).size := by omega
          by_cases hEC : E < (cat l).size
          · go_wp2_with ((with_reducible show wpList _ _ _ (⟨some 34, _, _, _, _, _⟩ :: _) _ _); refine wpList_copy_str rfl (.tmp 32) (.tmp 33) 22 9 rfl 5 Tryd.underlying22 Tryd.size5 (some ⟨w.heap.size, E, none⟩) ((cat l).size - E) ((cat l).size - E) s rfl rfl w.heap.size E Z2 5 HG.out (by omega) (fun _ => rfl) (by omega) w.heap.size w HBL.out (Nat.le_refl _) ?_)
            intro w2 HG2 hb2
            have HB2 := Lib.hid hb2
            clear hb2
            go_wp2_with fail
            go_roundw
            case rel =>
              refine ⟨k + 1, _, by omega, by go_num, by rw [HZ1.out, ← HE.out]; simp, HG2.out, ?_, ?_, HB2.out⟩
              · rw [length_splice _ _ _ (by rw [HL.out]; omega)]; exact hl2
              · rw [HX.out, HZ1.out, ← HE.out]
                have := splice_at Z2 (Lib.byteCells s.data.toList) E ((cat (l.take k)).data.toList.map B) (by have := HP.out; rw [← HE.out] at this; exact this) (by rw [List.length_map, cat_list, ← HE.out])
                rw [HL.out] at this
                exact this
            case measure => simp [intOf]; omega
          · have hs0 : s.size = 0 := by omega
            obtain rfl : E = (cat l).size := by omega
            go_wp2_with ((with_reducible show wpList _ _ _ (⟨some 34, _, _, _, _, _⟩ :: _) _ _); refine wpList_copy_str rfl (.tmp 32) (.tmp 33) 22 9 rfl 5 Tryd.underlying22 Tryd.size5 (some ⟨w.heap.size, 0, none⟩) 0 0 s rfl rfl w.heap.size 0 Z2 5 HG.out (by omega) (fun _ => rfl) (by omega) w.heap.size w HBL.out (Nat.le_refl _) ?_)
            intro w2 HG2 hb2
            have HB2 := Lib.hid hb2
            clear hb2
            go_wp2_with fail
            go_roundw
            case rel =>
              have hnil : Lib.byteCells s.data.toList = [] := List.eq_nil_of_length_eq_zero (by rw [HL.out, hs0])
              refine ⟨k + 1, Z2, by omega, by go_num, by rw [HZ1.out, ← HE.out]; simp [hs0], ?_, hl2, ?_, HB2.out⟩
              · have := HG2.out
                rw [hnil] at this
                simpa [splice] using this
              · rw [HX.out, HZ1.out, ← HE.out, hs0, Nat.add_zero, hnil, List.append_nil]
                have := HP.out
                rw [← HE.out] at this
                exact this
            case measure => simp [intOf]; omega
        · obtain rfl : k = l.length := by omega
          have conv := conv_block (c := (cat l).size) HG.out (cat l).data.toList (cat l).size (by rw [cat_list]) (by
            have := HP.out
            rw [List.take_length, List.take_of_length_le (by omega)] at this
            exact this)
          rw [show (⟨(cat l).data.toList.toArray⟩ : ByteArray) = cat l by apply ByteArray.ext; simp] at conv
          go_wp2_with fail
          go_ret
          exact ⟨rfl, HBL.out⟩
theorem rd_new (w : World) (T : TypeId) (l : List ByteArray) (c : Nat) : Rd (w.alloc (.cells (strs l).toArray T)) (.slice (some ⟨w.heap.size, 0, none⟩) l.length c) l.length 1 (strs l) := by
  refine ⟨by rw [strs_length]; omega, _, _, rfl, fun h0 => ⟨_, _, rfl, by simp, fun j hj => ?_⟩⟩
  rw [Nat.zero_add, cell_of_row _ w.heap.size j _ T (0, 0) (heap_alloc_new w _)]
  simp
theorem below_new (w : World) (o : Obj) {w' : World} (h : Below (w.alloc o).heap.size (w.alloc o) w') : Below w.heap.size w w' :=
  ((Below.refl _ w).alloc (Nat.le_refl _) o).trans (h.mono (by simp))
theorem joined_four (a b c d : ByteArray) (w : World) (h : a.size + b.size + c.size + d.size ≤ 10000) :
    Calls Tryd.prog 66 #[.slice (some ⟨w.heap.size, 0, none⟩) 4 4] (w.alloc (.cells #[.string a, .string b, .string c, .string d] 9)) fun e w' => e = .returned (.string (a ++ b ++ c ++ d)) ∧ Below (w.alloc (.cells #[.string a, .string b, .string c, .string d] 9)).heap.size (w.alloc (.cells #[.string a, .string b, .string c, .string d] 9)) w' := by
  have e : cat [a, b, c, d] = a ++ b ++ c ++ d := by rw [cat_cons, cat_cons, cat_two, ByteArray.append_assoc, ByteArray.append_assoc]
  have := joined_cat _ [a, b, c, d] _ (rd_new w 9 [a, b, c, d] 4) (by simp) (by rw [e]; simp only [ByteArray.size_append]; omega)
  rw [e] at this
  exact this
theorem joined_two (a b : ByteArray) (w : World) (h : a.size + b.size ≤ 10000) :
    Calls Tryd.prog 66 #[.slice (some ⟨w.heap.size, 0, none⟩) 2 2] (w.alloc (.cells #[.string a, .string b] 9)) fun e w' => e = .returned (.string (a ++ b)) ∧ Below w.heap.size w w' := by
  have := joined_cat _ [a, b] _ (rd_new w 9 [a, b] 2) (by simp) (by rw [cat_two, ByteArray.size_append]; omega)
  rw [cat_two] at this
  exact this.mono fun e w' h => ⟨h.1, below_new w _ h.2⟩
end Go.Proofs.YthkbllkhomjmbaaDoor
