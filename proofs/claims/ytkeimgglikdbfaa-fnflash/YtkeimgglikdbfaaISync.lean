/- The program's openFlash.sync. -/
import Derived.Test.YtkeimgglikdbfaaIClosed
import Derived.StillTailTactics
namespace Go.Proofs.Ytkeimgglikdbfaa
open Go.RowKit

def syncS (m : Int → Option ByteArray) (S : List ByteArray) (ks : List Int) : List ByteArray := ks.foldl (fun s x => s.set x.toNat ((m x).getD ByteArray.empty)) S
def cutL (m : Int → Option ByteArray) (ks : List Int) : Int → Option ByteArray := ks.foldl cut m
theorem syncS_length (m : Int → Option ByteArray) : ∀ (ks : List Int) (S : List ByteArray), (syncS m S ks).length = S.length := by
  intro ks
  induction ks with
  | nil => intro S; rfl
  | cons x ks ih => intro S; exact (ih _).trans (by simp)
theorem syncS_step (m : Int → Option ByteArray) (S : List ByteArray) (ks : List Int) (k : Nat) (h : k < ks.length) (s : ByteArray) (hs : m ks[k] = some s) : syncS m S (ks.take (k + 1)) = (syncS m S (ks.take k)).set ks[k].toNat s := by
  unfold syncS
  rw [List.take_succ_eq_append_getElem h, List.foldl_append]
  simp [hs]
theorem cutL_step (m : Int → Option ByteArray) (ks : List Int) (k : Nat) (h : k < ks.length) : cutL m (ks.take (k + 1)) = cut (cutL m (ks.take k)) ks[k] := by
  unfold cutL
  rw [List.take_succ_eq_append_getElem h, List.foldl_append]; rfl
theorem cutL_miss (x : Int) : ∀ (ks : List Int) (m : Int → Option ByteArray), x ∉ ks → cutL m ks x = m x := by
  intro ks
  induction ks with
  | nil => intro m _; rfl
  | cons y ks ih =>
    intro m h
    have h1 : x ≠ y := fun e => h (by simp [e])
    have h2 : x ∉ ks := fun e => h (by simp [e])
    show cutL (cut m y) ks x = m x
    rw [ih _ h2]; unfold cut; rw [if_neg h1]
section
variable {w w' : World} {lo pb mb N : Nat} {sv ov : Value} {S : List ByteArray} {m : Int → Option ByteArray} {ord : List Int}
/-- A sector written. -/
theorem OF.setS {b off c n : Nat} (h : OF w lo pb mb N (.slice (some ⟨b, off, none⟩) n c) ov S m ord) (hn : S.length = n) (j : Nat) (hj : j < n) (s : ByteArray) :
    OF (w.setCell ⟨b, off + j, none⟩ (.string s)) lo pb mb N (.slice (some ⟨b, off, none⟩) n c) ov (S.set j s) m ord := by
  subst hn
  have hb : blk (.slice (some ⟨b, off, none⟩) S.length c) S.length = some b := blk_pos (by omega)
  obtain ⟨h1, h2⟩ := h.secA b hb
  obtain ⟨b', off', e, _, _, hc, _⟩ := h.sec.get (by omega)
  simp only [Option.some.injEq, Addr.mk.injEq, and_true] at e
  obtain ⟨rfl, rfl⟩ := e
  have hex : ∃ v, w.cell? ⟨b, off + j, none⟩ = some v := ⟨_, (hc j (by omega)).trans (strs_at _ j (by omega))⟩
  refine ⟨h.box.other _ _ (fun e => h1 e.symm), ?_, h.map.keep (Below.heap_setCell w _ _ mb (fun e => h2 e.symm)), ownsRow_setCell_other h.row (fun e => (h.rowA b e).2.2 hb) _, h.lob, h.lom, ?_, ?_⟩
  · rw [List.length_set, strs_set]
    exact h.sec.set j (.string s) (by omega) hex
  · rw [List.length_set]; exact h.secA
  · rw [List.length_set]; exact h.rowA
theorem OF.below_setS {b off c n j : Nat} {x : Value} (h : OF w lo pb mb N (.slice (some ⟨b, off, none⟩) n c) ov S m ord) (hn : S.length = n) (hj : j < n) : Below lo w (w.setCell ⟨b, off + j, none⟩ x) := by
  subst hn
  exact (Below.refl lo w).setCell (p := ⟨b, off + j, none⟩) ((h.sec.blk b (blk_pos (by omega))).1) _
/-- The order dropped. -/
theorem OF.none (h : OF w lo pb mb N sv ov S m ord) : OF (w.setCell ⟨pb, 2, none⟩ (.slice none 0 0)) lo pb mb N sv (.slice none 0 0) S m [] :=
  ⟨h.box.set _, h.sec.other _ _ (fun k hk => (h.secA k hk).1), h.map.keep (Below.heap_setCell w _ _ mb h.ne), ⟨rfl, .inl ⟨rfl, rfl⟩⟩, h.lob, h.lom, h.secA, fun k hk => by simp [Value.ownBlock] at hk⟩
end
def SyRel (w : World) (lo pb mb N b off c : Nat) (ov : Value) (S : List ByteArray) (m : Int → Option ByteArray) (ord : List Int) (i : Value) (wr : World) : Prop :=
  ∃ k : Nat, k ≤ ord.length ∧ i = .int .i64 k ∧ OF wr lo pb mb N (.slice (some ⟨b, off, none⟩) S.length c) ov (syncS m S (ord.take k)) (cutL m (ord.take k)) ord ∧ Below lo w wr

set_option maxHeartbeats 4000000 in
set_option maxRecDepth 100000 in
theorem implSync (lo pb mb N : Nat) (sv ov : Value) (S : List ByteArray) (m : Int → Option ByteArray) (ord : List Int) (w : World) (h : OF w lo pb mb N sv ov S m ord)
    (hS0 : 0 < S.length) (hS : S.length ≤ 1048576) (hord : ord.length ≤ 1048576) (hm : ∀ x ∈ ord, (m x).isSome = true ∧ 0 ≤ x ∧ x < (S.length : Int)) (hone : ∀ i j (hj : j < ord.length) (hi : i < j), ord[i] ≠ ord[j]) :
    Calls Try.prog 38 #[.pointer (some ⟨pb, 0, none⟩)] w fun e w' => e = .returned (.tuple #[]) ∧ OF w' lo pb mb N sv (.slice none 0 0) (syncS m S ord) (cutL m ord) [] ∧ Below lo w w' := by
  obtain ⟨a, c, rfl, -⟩ := id h.sec.2
  obtain ⟨b, off, rfl, -⟩ := h.sec.get hS0
  obtain ⟨ao, co, rfl⟩ := h.form
  have H := Lib.hid h
  have HM := Lib.hid hm
  have HN := Lib.hid hone
  have c2 := h.c2
  clear h hm hone
  go_enter Try.func38, Try.ntmps38
  go_wp2_with fail
  go_loopw [9] (fun i wr => SyRel w lo pb mb N b off c (.slice ao ord.length co) S m ord i wr) (fun i _ => ord.length - (intOf i).toNat)
  case atStart => exact ⟨0, by omega, rfl, H.out, Below.refl _ _⟩
  case round =>
    clear c2
    obtain ⟨k, hk, rfl, hof, hbw⟩ := hrel
    by_cases hlt : k < ord.length
    · have hxm := HM.out ord[k] (List.getElem_mem hlt)
      obtain ⟨s, hs⟩ := Option.isSome_iff_exists.1 hxm.1
      have hni : ord[k] ∉ ord.take k := fun e => by
        obtain ⟨i, hi, he⟩ := List.mem_take_iff_getElem.1 e
        exact HN.out i k hlt (by omega) he
      have hs' : cutL m (ord.take k) ord[k] = some s := by rw [cutL_miss _ _ _ hni]; exact hs
      have x0 := hxm.2.1
      have x1 := hxm.2.2
      have hl := look_yes hof.map ord[k] s hs' (by omega) (by omega) false
      simp only [Bool.false_eq_true, if_false] at hl
      have hl' : (Instr.lookup 77 (.map (some mb)) (.int .i64 ord[k]) false).run Try.prog wr.drew = .ok (.string s) wr.drew := by
        have := look_yes hof.drew.map ord[k] s hs' (by omega) (by omega) false
        simpa only [Bool.false_eq_true, if_false] using this
      have f0 := hof.c0
      have f1 := hof.c1
      obtain ⟨g, rfl⟩ : ∃ g, ao = some ⟨g, 0, none⟩ := by
        rcases hof.row.2 with ⟨_, e0⟩ | ⟨g, cap, _, e, _⟩
        · omega
        · simp at e; exact ⟨g, e.1⟩
      have ho : wr.cell? ⟨g, k, none⟩ = some (.int .i64 ord[k]) := by rw [hof.row.cellAt k (by omega), ints_at _ _ hlt]
      have hsl : (syncS m S (ord.take k)).length = S.length := syncS_length m _ S
      have e0 : (k : Int) < (ord.length : Int) := by omega
      have e1 : (0 : Int) ≤ (k : Int) := by omega
      have hsec := hof.sec
      rw [hsl] at hsec
      obtain ⟨b', off', e, -, -, hcs, hfz⟩ := hsec.get hS0
      simp only [Option.some.injEq, Addr.mk.injEq, and_true] at e
      obtain ⟨rfl, rfl⟩ := e
      obtain ⟨v, hv⟩ : ∃ v, wr.cell? ⟨b, off + ord[k].toNat, none⟩ = some v := ⟨_, (hcs ord[k].toNat (by omega)).trans (List.getElem?_eq_getElem (by rw [hsec.1]; omega))⟩
      have hf := hfz ord[k].toNat (by omega)
      have hos := hof.setS hsl ord[k].toNat (by omega) s
      have f1s := hos.c1
      have OS := Lib.hid hos.drew
      have BS := Lib.hid (hbw.trans (hof.below_setS (x := .string s) hsl (show ord[k].toNat < _ by omega))).drew
      have SS := Lib.hid (syncS_step m S ord k hlt s hs)
      have SC := Lib.hid (cutL_step m ord k hlt)
      rw [← SS.out] at OS
      clear hos hof hbw hsec hcs hfz hs hs' hxm hni
      go_wp2_with fail
      go_still_tail 12, (by kernel_rfl)
      change wpList _ _ _ _ _ wr.drew
      go_wp2_with (at_delete; refine wpList_cut _ rfl _ _ rfl mb N _ rfl OS.out.map ord[k] rfl (by omega) (by omega) ?_)
      intro w1 hm1 hg1
      have HO := Lib.hid (OS.out.upd hg1 hm1)
      have HB := Lib.hid (BS.out.trans (OS.out.grownBelow hg1))
      rw [← SC.out] at HO
      clear hm1 hg1
      go_wp2_with fail
      go_roundw
      case rel =>
        have fin : SyRel w lo pb mb N b off c (.slice (some ⟨g, 0, none⟩) ord.length co) S m ord (.int .i64 ((k : Int) + 1)) w1 := ⟨k + 1, by omega, by go_num, HO.out, HB.out⟩
        first | exact fin | ((repeat apply Exists.intro); exact ⟨fin, rfl⟩)
      case measure => simp [intOf]; omega
    · obtain rfl : k = ord.length := by omega
      rw [List.take_length] at hof
      have f2 := hof.c2
      have z2 := hof.box.frozen 2
      have HO := Lib.hid hof.none
      have HB := Lib.hid (hbw.setCell (p := ⟨pb, 2, none⟩) hof.lob (.slice none 0 0))
      clear hof hbw
      go_wp2_with fail
      go_end0
      exact ⟨rfl, HO.out, HB.out⟩
end Go.Proofs.Ytkeimgglikdbfaa
