/- The program's openFlash: a valid flash in use; its methods read and write. -/
import Derived.Test.YtkeimgglikdbfaaIMap
import Derived.Maps.AppendAt
namespace Go.Proofs.Ytkeimgglikdbfaa
open Go.RowKit

theorem Try.info2 : (Try.prog.info? 2).map (fun i => (i.zero, i.size, i.bytes)) = some (some (.int .i64 0), 1, 8) := by kernel_rfl
/-- An open flash at block pb: sectors S, unsynced writes m (in block mb), their order. All of it was made since the heap had lo blocks. -/
structure OF (w : World) (lo pb mb N : Nat) (sv ov : Value) (S : List ByteArray) (m : Int → Option ByteArray) (ord : List Int) : Prop where
  box : Bx w pb 79 #[sv, .map (some mb), ov]
  sec : Own w lo sv S.length 1 (strs S)
  map : MapAt w mb N m
  row : w.ownsRow lo 2 1 ov ord.length (ints ord)
  lob : lo ≤ pb
  lom : lo ≤ mb
  secA : ∀ k, blk sv S.length = some k → k ≠ pb ∧ k ≠ mb
  rowA : ∀ k, ov.ownBlock = some k → k ≠ pb ∧ k ≠ mb ∧ blk sv S.length ≠ some k
section
variable {w w' : World} {lo pb mb N : Nat} {sv ov : Value} {S : List ByteArray} {m : Int → Option ByteArray} {ord : List Int}
theorem OF.ne (h : OF w lo pb mb N sv ov S m ord) : mb ≠ pb := fun e => h.map.not_cells (show w.heap[mb]? = _ by rw [e]; exact h.box)
theorem OF.next (h : OF w lo pb mb N sv ov S m ord) (hb : Below w.heap.size w w') : OF w' lo pb mb N sv ov S m ord :=
  ⟨h.box.next hb, h.sec.below hb (Nat.le_refl _), h.map.next hb, h.row.kept (below_grown hb) (by cases ov.ownBlock <;> simp), h.lob, h.lom, h.secA, h.rowA⟩
theorem OF.drew (h : OF w lo pb mb N sv ov S m ord) : OF w.drew lo pb mb N sv ov S m ord := h.next (drew_below w)
theorem OF.c0 (h : OF w lo pb mb N sv ov S m ord) : w.cell? ⟨pb, 0, none⟩ = some sv := h.box.t0
theorem OF.c1 (h : OF w lo pb mb N sv ov S m ord) : w.cell? ⟨pb, 1, none⟩ = some (.map (some mb)) := h.box.t1
theorem OF.c2 (h : OF w lo pb mb N sv ov S m ord) : w.cell? ⟨pb, 2, none⟩ = some ov := h.box.t2
theorem OF.form (h : OF w lo pb mb N sv ov S m ord) : ∃ a c, ov = .slice a ord.length c := by
  rcases h.row.2 with ⟨e, e0⟩ | ⟨g, cap, _, e, _⟩
  · rw [e0]; exact ⟨_, _, e⟩
  · exact ⟨_, _, e⟩
/-- The map written. -/
theorem OF.upd {N' : Nat} {m' : Int → Option ByteArray} (h : OF w lo pb mb N sv ov S m ord) (hg : w.grownBy w' (some mb)) (hm : MapAt w' mb N' m') : OF w' lo pb mb N' sv ov S m' ord :=
  ⟨h.box.grown hg (fun e => h.ne (Option.some.inj e).symm), h.sec.two (two_left (d := none) hg) (fun k hk => ⟨fun e => (h.secA k hk).2 (Option.some.inj e), by simp⟩), hm,
   h.row.kept hg (.inr (fun e => (h.rowA mb e).2.1 rfl)), h.lob, h.lom, h.secA, h.rowA⟩
theorem OF.grownBelow (h : OF w lo pb mb N sv ov S m ord) (hg : w.grownBy w' (some mb)) : Below lo w w' :=
  ⟨hg.os, hg.tape, hg.output, hg.size, fun k hk => hg.block k (by have := h.map.lt; have := h.lom; omega) (fun e => by have := Option.some.inj e; have := h.lom; omega)⟩
end

set_option maxHeartbeats 1000000 in
set_option maxRecDepth 100000 in
theorem write_hit (lo pb mb N : Nat) (sv ov : Value) (S : List ByteArray) (m : Int → Option ByteArray) (ord : List Int) (x : Int) (s0 s : ByteArray) (w : World) (h : OF w lo pb mb N sv ov S m ord)
    (hx : m x = some s0) (h0 : -9223372036854775808 ≤ x) (h1 : x ≤ 9223372036854775807) (hs : s.size ≤ maxLen) (hN : N < maxLen) :
    Calls Try.prog 32 #[.pointer (some ⟨pb, 0, none⟩), .int .i64 x, .string s] w fun e w' => e = .returned (.tuple #[]) ∧ OF w' lo pb mb (N + 1) sv ov S (upd m x s) ord ∧ Below lo w w' := by
  have H := Lib.hid h
  have c1 := h.c1
  have hl := look_yes h.map x s0 hx h0 h1 true
  simp only [if_true] at hl
  clear h hx
  go_enter Try.func32, Try.ntmps32
  go_wp2_with (at_mapUpdate; refine wpList_upd _ rfl _ _ _ rfl mb N m rfl H.out.map x rfl s rfl h0 h1 hs hN ?_)
  intro w1 hm hg
  have HO := Lib.hid (H.out.upd hg hm)
  have HB := Lib.hid (H.out.grownBelow hg)
  clear hm hg
  go_wp2_with fail
  go_end0
  exact ⟨rfl, HO.out, HB.out⟩
set_option maxHeartbeats 1000000 in
set_option maxRecDepth 100000 in
theorem read_hit (lo pb mb N : Nat) (sv ov : Value) (S : List ByteArray) (m : Int → Option ByteArray) (ord : List Int) (x : Int) (s0 : ByteArray) (w : World) (h : OF w lo pb mb N sv ov S m ord)
    (hx : m x = some s0) (h0 : -9223372036854775808 ≤ x) (h1 : x ≤ 9223372036854775807) :
    Calls Try.prog 46 #[.pointer (some ⟨pb, 0, none⟩), .int .i64 x] w fun e w' => e = .returned (.string s0) ∧ w' = w := by
  have c1 := h.c1
  have hl := look_yes h.map x s0 hx h0 h1 true
  simp only [if_true] at hl
  clear h hx
  go_enter Try.func46, Try.ntmps46
  go_wp2_with fail
  go_ret
  exact ⟨rfl, rfl⟩
set_option maxHeartbeats 1000000 in
set_option maxRecDepth 100000 in
theorem read_miss (lo pb mb N : Nat) (sv ov : Value) (S : List ByteArray) (m : Int → Option ByteArray) (ord : List Int) (x : Int) (w : World) (h : OF w lo pb mb N sv ov S m ord)
    (hx : m x = none) (h0 : 0 ≤ x) (h1 : x < (S.length : Int)) (h2 : S.length ≤ 1048576) :
    Calls Try.prog 46 #[.pointer (some ⟨pb, 0, none⟩), .int .i64 x] w fun e w' => e = .returned (.string (S[x.toNat]'(by omega))) ∧ w' = w := by
  have c0 := h.c0
  have c1 := h.c1
  have hl := look_no h.map x hx (by omega) (by omega)
  obtain ⟨a, c, rfl, -⟩ := id h.sec.2
  obtain ⟨b, off, rfl, -, hbl, hc, -⟩ := h.sec.get (by omega)
  have hcell : w.cell? ⟨b, off + x.toNat, none⟩ = some (.string (S[x.toNat]'(by omega))) := by rw [hc x.toNat (by omega), strs_at _ _ (by omega)]
  clear h hx hc
  go_enter Try.func46, Try.ntmps46
  go_wp2_with fail
  go_ret
  exact ⟨rfl, rfl⟩
set_option maxHeartbeats 1000000 in
set_option maxRecDepth 100000 in
theorem write_miss (lo pb mb N : Nat) (sv ov : Value) (S : List ByteArray) (m : Int → Option ByteArray) (ord : List Int) (x : Int) (s : ByteArray) (w : World) (h : OF w lo pb mb N sv ov S m ord)
    (hx : m x = none) (h0 : -9223372036854775808 ≤ x) (h1 : x ≤ 9223372036854775807) (hs : s.size ≤ maxLen) (hN : N < maxLen) (hn : ord.length ≤ 1048576) :
    Calls Try.prog 32 #[.pointer (some ⟨pb, 0, none⟩), .int .i64 x, .string s] w fun e w' => e = .returned (.tuple #[]) ∧ (∃ ov', OF w' lo pb mb (N + 1) sv ov' S (upd m x s) (ord ++ [x])) ∧ Below lo w w' := by
  obtain ⟨i0, hi, hz0, hz1, hz2⟩ := info_parts Try.info2
  have H := Lib.hid h
  have c1 := h.c1
  have c2 := h.c2
  have hlt := h.box.lt
  have hlo := h.lob
  have c1a : (w.alloc (.cells #[.int .i64 x] 2)).cell? ⟨pb, 1, none⟩ = some (.map (some mb)) := (h.next (below_alloc1 w _)).c1
  have hl := look_no h.map x hx h0 h1
  obtain ⟨a, c, rfl⟩ := h.form
  clear h hx
  go_enter Try.func32, Try.ntmps32
  go_wp2_with (at_builtin; refine wpList_append_own_at _ rfl _ _ 32 rfl lo 2 i0 (.int .i64 0) 1 8 Try.underlying32 hi hz0 hz1 hz2 rfl (by decide) _ ord.length (ints ord) rfl (H.out.row.alloc _) ⟨w.heap.size, 0, none⟩ 1 1 [.int .i64 x] rfl rfl (cell_one_new _ _ _) (ints_oneCell .i64 [x]) (by unfold maxLen; omega) (by omega) (by simp; omega) ?_)
  intro v' w1 hown' hgrow hnil hloc
  obtain ⟨g, cap, rfl, -, -⟩ := World.ownsRow.form hown' (by omega)
  have ha := H.out.next (below_alloc1 w (.cells #[.int .i64 x] 2))
  have hza := size_alloc1 w (.cells #[.int .i64 x] 2)
  have hbx := ha.box.grown hgrow (fun e => (ha.rowA pb e.symm).1 rfl)
  have k1 := hbx.t1
  have k2 := hbx.t2
  have f2 := hbx.frozen 2
  have hof : OF (w1.setCell ⟨pb, 2, none⟩ (.slice (some ⟨g, 0, none⟩) (ord.length + 1) cap)) lo pb mb N sv (.slice (some ⟨g, 0, none⟩) (ord.length + 1) cap) S m (ord ++ [x]) := by
    have hga : ∀ k, (Value.slice (some ⟨g, 0, none⟩) (ord.length + 1) cap).ownBlock = some k → k ≠ pb ∧ k ≠ mb ∧ blk sv S.length ≠ some k := fun k hk => by
      rcases hloc with e | e
      · exact ha.rowA k (e ▸ hk)
      · rw [e] at hk
        have hk' := Option.some.inj hk
        refine ⟨fun e => ?_, fun e => ?_, fun e => ?_⟩
        · omega
        · have := H.out.map.lt; omega
        · have := (H.out.sec.blk k e).2; omega
    refine ⟨hbx.set _, ?_, ?_, ?_, H.out.lob, H.out.lom, H.out.secA, hga⟩
    · exact (ha.sec.two (two_left (d := none) hgrow) (fun k hk => ⟨fun e => (ha.rowA k e.symm).2.2 hk, by simp⟩)).other _ _ (fun k hk => (ha.secA k hk).1)
    · exact (ha.map.keep (hgrow.block mb ha.map.lt (fun e => (ha.rowA mb e.symm).2.1 rfl))).keep (Below.heap_setCell w1 ⟨pb, 2, none⟩ _ mb ha.ne)
    · rw [List.length_append, ints_append]
      exact ownsRow_setCell_other hown' (fun e => (hga pb e).1 rfl) _
  have hbw : Below lo w (w1.setCell ⟨pb, 2, none⟩ (.slice (some ⟨g, 0, none⟩) (ord.length + 1) cap)) := by
    refine (((below_alloc1 w (.cells #[.int .i64 x] 2)).mono (by omega)).trans (?_ : Below lo _ w1)).setCell (p := ⟨pb, 2, none⟩) hlo _
    exact ⟨hgrow.os, hgrow.tape, hgrow.output, hgrow.size, fun k hk => hgrow.block k (by omega) (fun e => by have := (H.out.row.lt k e.symm).1; omega)⟩
  have HO := Lib.hid hof
  have HB := Lib.hid hbw
  clear hof hbw hbx ha hloc hown' hgrow hnil H c1a hl hi hz0 hz1 hz2
  go_wp2_with (at_mapUpdate; refine wpList_upd _ rfl _ _ _ rfl mb N m rfl HO.out.map x rfl s rfl h0 h1 hs hN ?_)
  intro w2 hm hg
  have HO2 := Lib.hid (HO.out.upd hg hm)
  have HB2 := Lib.hid (HB.out.trans (HO.out.grownBelow hg))
  clear hm hg
  go_wp2_with fail
  go_end0
  exact ⟨rfl, ⟨_, HO2.out⟩, HB2.out⟩
end Go.Proofs.Ytkeimgglikdbfaa
