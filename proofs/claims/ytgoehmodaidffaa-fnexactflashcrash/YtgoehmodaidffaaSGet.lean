/- The model's l03Ill, FlashNew, l03Get. -/
import Derived.Test.YtgoehmodaidffaaSTorn
import Derived.Test.YtgoehmodaidffaaSCopy
namespace Go.Proofs.Ytgoehmodaidffaa
open Go.RowKit

/-- An answer over a flash. -/
structure OM where
  fl : FM
  data : ByteArray
  code : Int
def OMade (w : World) (O : OM) (e : Ending) (w' : World) : Prop := ∃ sv dv, e = .returned (.agg #[sv, dv, .string O.data, .int .i64 O.code]) ∧ FOwn w' w.heap.size sv dv O.fl ∧ Below w.heap.size w w'
def noFlash : FM := ⟨[], []⟩
def illOf (code : Int) : OM := ⟨noFlash, ByteArray.empty, code⟩
theorem own_nil (w : World) (lo sz : Nat) (a : Option Addr) (c : Nat) : Own w lo (.slice a 0 c) 0 sz [] := ⟨by simp, _, _, rfl, fun h => absurd h (Nat.lt_irrefl 0)⟩
theorem noFlash_own (w : World) (lo : Nat) : FOwn w lo (.slice none 0 0) (.slice none 0 0) noFlash := ⟨own_nil w lo 1 none 0, own_nil w lo 2 none 0, fun k hk => by simp [blk, noFlash] at hk⟩

set_option maxRecDepth 100000 in
set_option maxHeartbeats 1000000 in
theorem specIll (code : Int) (w : World) : Calls Try.prog 58 #[.int .i64 code] w (OMade w (illOf code)) := by
  go_enter Try.func58, Try.ntmps58
  go_wp2_with fail
  refine bodyPost_ret (v := .agg #[.slice none 0 0, .slice none 0 0, .string { data := #[] }, .int .i64 code]) (by simp [results, Try.results58, go_sem]) rfl ⟨_, _, rfl, noFlash_own _ _, (Below.refl _ w).alloc (Nat.le_refl _) _⟩
def freshOf (n : Int) : FM := if 1 ≤ n ∧ n ≤ 40 then ⟨List.replicate n.toNat ByteArray.empty, []⟩ else noFlash
set_option maxHeartbeats 1000000 in
set_option maxRecDepth 100000 in
theorem specNew (n : Int) (w : World) : Calls Try.prog 27 #[.int .i64 n] w (FMade w (freshOf n)) := by
  obtain ⟨i0, hi, hz0, hz1, hz2⟩ := info_parts Try.info9
  by_cases h : 1 ≤ n ∧ n ≤ 40
  · have e : freshOf n = ⟨List.replicate n.toNat ByteArray.empty, []⟩ := if_pos h
    rw [e]
    obtain ⟨h0, h1⟩ := h
    obtain ⟨m, rfl⟩ : ∃ m : Nat, n = m := ⟨n.toNat, by omega⟩
    clear e
    go_enter Try.func27, Try.ntmps27
    go_wp2_with fail
    refine (is_yes m 1 40 _ h0 h1).mono ?_
    rintro e w1 ⟨rfl, rfl⟩
    go_wp2_with (at_make; refine wpList_make_full _ rfl _ _ 23 rfl (w.heap.size + 1) 9 i0 (.string ByteArray.empty) 1 Try.underlying23 hi hz0 hz1 .i64 .i64 _ _ m rfl rfl rfl rfl (by rw [hz2]; omega) (by unfold maxLen; omega) (by simp) ?_)
    intro w1 hown1 hgrow1
    have hb1 : Below (w.heap.size + 1) (w.alloc (.cells #[.slice none 0 0, .slice none 0 0] 26)) w1 := (Below.refl _ _).grown hgrow1 (by simp) (by simp)
    obtain ⟨k0, k1⟩ := two_cells hb1 (Nat.lt_succ_self _)
    have z0 : w1.frozen? ⟨w.heap.size, 0, none⟩ = false := (hb1.frozen (p := ⟨w.heap.size, 0, none⟩) (Nat.lt_succ_self _)).trans (frozen_of_row _ w.heap.size 0 _ _ (heap_alloc_new w _))
    have z1 : w1.frozen? ⟨w.heap.size, 1, none⟩ = false := (hb1.frozen (p := ⟨w.heap.size, 1, none⟩) (Nat.lt_succ_self _)).trans (frozen_of_row _ w.heap.size 1 _ _ (heap_alloc_new w _))
    have ho := own_of_row hown1
    rw [toList_madeCells_one] at ho
    have HO := Lib.hid ho
    have HB := Lib.hid (((Below.refl w.heap.size w).alloc (Nat.le_refl _) (.cells #[.slice none 0 0, .slice none 0 0] 26)).trans (hb1.mono (Nat.le_succ _)))
    have en : (w.alloc (.cells #[.slice none 0 0, .slice none 0 0] 26)).heap.size = w.heap.size + 1 := by simp
    clear hown1 hgrow1 hb1 ho hi hz0 hz1 hz2
    go_wp2_with fail
    refine bodyPost_ret (v := .agg #[.slice (some ⟨w.heap.size + 1, 0, none⟩) m m, .slice none 0 0]) (by simp [results, Try.results27, go_sem, k0, k1]) rfl ⟨_, _, rfl, ⟨?_, own_nil _ _ 2 none 0, ?_⟩, (HB.out.setCell (p := ⟨w.heap.size, 0, none⟩) (Nat.le_refl _) _).setCell (p := ⟨w.heap.size, 1, none⟩) (Nat.le_refl _) _⟩
    · have ho := HO.out
      simp only [Int.toNat_natCast, List.length_replicate, strs, List.map_replicate]
      refine Own.other (Own.other (ho.lower (Nat.le_succ _)) _ _ (fun k hk => ?_)) _ _ (fun k hk => ?_) <;> (have := (ho.blk k hk).1; simp; omega)
    · intro k hk; simp [blk]
  · have e : freshOf n = noFlash := if_neg h
    rw [e]
    clear e
    have h' : n < 1 ∨ 1 ≤ n ∧ 40 < n := by omega
    have H := Lib.hid h'
    clear h h'
    go_enter Try.func27, Try.ntmps27
    go_wp2_with fail
    refine (is_no n 1 40 _ H.out).mono ?_
    rintro e w1 ⟨rfl, rfl⟩
    go_wp2_with fail
    refine bodyPost_ret (v := .agg #[.slice none 0 0, .slice none 0 0]) (by simp [results, Try.results27, go_sem]) rfl ⟨_, _, rfl, noFlash_own _ _, (Below.refl _ w).alloc (Nat.le_refl _) _⟩

/-- What is read of a sector that is there. -/
def getOf (F : FM) (at_ : Int) : ByteArray := match F.dir.find? (fun d => d.1 == at_) with
  | some d => d.2
  | none => F.sec.getD at_.toNat ByteArray.empty
theorem get_hit {F : FM} {at_ : Int} {k : Nat} (h : k < F.dir.length) (hb : ∀ j (hj : j < F.dir.length), j < k → F.dir[j].1 ≠ at_) (he : F.dir[k].1 = at_) : getOf F at_ = F.dir[k].2 := by
  have e : F.dir.find? (fun d => d.1 == at_) = some F.dir[k] := List.find?_eq_some_iff_getElem.2 ⟨by simpa using he, k, h, rfl, fun j hj => by simpa using hb j (by omega) hj⟩
  unfold getOf
  rw [e]
theorem get_miss {F : FM} {at_ : Int} (hb : ∀ j (hj : j < F.dir.length), F.dir[j].1 ≠ at_) (h0 : at_.toNat < F.sec.length) : getOf F at_ = F.sec[at_.toNat] := by
  have e : F.dir.find? (fun d => d.1 == at_) = none := List.find?_eq_none.2 fun d hd => by
    obtain ⟨j, hj, rfl⟩ := List.getElem_of_mem hd
    simpa using hb j hj
  unfold getOf
  rw [e]
  simp [h0]
def GetRel (F : FM) (at_ : Int) (W : World) (i : Value) (wr : World) : Prop := ∃ k : Nat, k ≤ F.dir.length ∧ i = .int .i64 k ∧ (∀ j (hj : j < F.dir.length), j < k → F.dir[j].1 ≠ at_) ∧ Still W wr

set_option maxHeartbeats 2000000 in
set_option maxRecDepth 100000 in
theorem specGet (sv dv : Value) (F : FM) (at_ : Int) (w : World) (h : FRd w sv dv F) (hf : FFits F) (h0 : 0 ≤ at_) (h1 : at_ < F.sec.length) :
    Calls Try.prog 65 #[.agg #[sv, dv], .int .i64 at_] w fun e w' => e = .returned (.string (getOf F at_)) ∧ Below w.heap.size w w' := by
  obtain ⟨f1, f2⟩ := hf
  have hb := (Below.refl w.heap.size w).alloc (Nat.le_refl _) (.cells #[sv, dv] 26)
  have H := Lib.hid (h.below hb (Nat.le_refl _))
  obtain ⟨⟨-, a, c, rfl, g1⟩, ⟨-, a', c', rfl, g2⟩⟩ := h
  have HB := Lib.hid hb
  clear g1 g2 hb
  obtain ⟨T, hT⟩ : ∃ T, T = getOf F at_ := ⟨_, rfl⟩
  rw [← hT]
  have HT := Lib.hid hT
  clear hT
  go_enter Try.func65, Try.ntmps65
  go_wp2_with fail
  have c0 : (w.alloc (.cells #[.slice a F.sec.length c, .slice a' F.dir.length c'] 26)).cell? ⟨w.heap.size, 0, none⟩ = some (.slice a F.sec.length c) := by rw [World.cell?_alloc_new]; rfl
  have c1 : (w.alloc (.cells #[.slice a F.sec.length c, .slice a' F.dir.length c'] 26)).cell? ⟨w.heap.size, 1, none⟩ = some (.slice a' F.dir.length c') := by rw [World.cell?_alloc_new]; rfl
  have hzW : w.heap.size < (w.alloc (.cells #[.slice a F.sec.length c, .slice a' F.dir.length c'] 26)).heap.size := by simp
  generalize w.alloc (.cells #[.slice a F.sec.length c, .slice a' F.dir.length c'] 26) = W at *
  go_loopw [5] (fun i wr => GetRel F at_ W i wr) (fun i _ => F.dir.length - (intOf i).toNat)
  case atStart => exact ⟨0, by omega, rfl, fun j _ hj => absurd hj (by omega), Still.refl W⟩
  case round =>
    obtain ⟨k, hk, rfl, hseen, hst⟩ := hrel
    have SEEN := Lib.hid hseen
    have c0' : wr.cell? ⟨w.heap.size, 0, none⟩ = _ := ((hst.below W.heap.size).cell (p := ⟨w.heap.size, 0, none⟩) hzW).trans c0
    have c1' : wr.cell? ⟨w.heap.size, 1, none⟩ = _ := ((hst.below W.heap.size).cell (p := ⟨w.heap.size, 1, none⟩) hzW).trans c1
    have HST := Lib.hid hst
    clear hseen
    by_cases hlt : k < F.dir.length
    · obtain ⟨b, off, rfl, hbl, hc⟩ := H.out.2.get (by omega)
      have hcW0 : W.cell? ⟨b, off + k * 2, none⟩ = some (.int .i64 F.dir[k].1) := by rw [hc (k * 2) (by omega), dirs_even _ k hlt]
      have hcW1 : W.cell? ⟨b, off + k * 2 + 1, none⟩ = some (.string F.dir[k].2) := by rw [Nat.add_assoc, hc (k * 2 + 1) (by omega), dirs_odd _ k hlt]
      have hc0 := ((hst.below W.heap.size).cell (p := ⟨b, off + k * 2, none⟩) hbl).trans hcW0
      have hc1 := ((hst.below W.heap.size).cell (p := ⟨b, off + k * 2 + 1, none⟩) hbl).trans hcW1
      clear hc hst hcW0 hcW1
      have e0 : (k : Int) < (F.dir.length : Int) := by omega
      have e1 : (0 : Int) ≤ (k : Int) := by omega
      by_cases he : F.dir[k].1 = at_
      · go_wp2_with fail
        go_ret
        exact ⟨congrArg (fun x => Ending.returned (Value.string x)) (HT.out.trans (get_hit hlt SEEN.out he)).symm, HB.out.trans (HST.out.below _)⟩
      · go_wp2_with fail
        go_roundw
        case rel =>
          refine ⟨k + 1, by omega, by go_num, fun j hj hjk => ?_, HST.out⟩
          by_cases hjk' : j = k
          · subst hjk'; exact he
          · exact SEEN.out j hj (by omega)
        case measure => simp [intOf]; omega
    · obtain rfl : k = F.dir.length := by omega
      obtain ⟨b, off, rfl, hbl, hc⟩ := H.out.1.get (by omega)
      have hcW : W.cell? ⟨b, off + at_.toNat, none⟩ = some (.string (F.sec[at_.toNat]'(by omega))) := by rw [hc at_.toNat (by omega), strs_at _ _ (by omega)]
      have hc0 := ((hst.below W.heap.size).cell (p := ⟨b, off + at_.toNat, none⟩) hbl).trans hcW
      clear hc hst hcW
      go_wp2_with fail
      go_ret
      exact ⟨congrArg (fun x => Ending.returned (Value.string x)) (HT.out.trans (get_miss (fun j hj => SEEN.out j hj hj) (by omega))).symm, HB.out.trans (HST.out.below _)⟩
end Go.Proofs.Ytgoehmodaidffaa
