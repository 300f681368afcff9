/- The law FnSeal out of the contracts. -/
import Derived.Test.YthkbllkhomjmbaaDoorSealMath
import Derived.Test.YthkbllkhomjmbaaDoorSealDraw
import Derived.Test.YthkbllkhomjmbaaDoorQUns
import Derived.Lib.ConvBytes
import Derived.Deep.RegionWith
namespace Go.Proofs.YthkbllkhomjmbaaDoor
open Go.RowKit

attribute [local go_sem ↓] Go.wp_at_zero Go.wp_at_succ

theorem not_empty (S : ByteArray) (h : 0 < S.size) : S.toList.isEmpty = false := by
  rw [Lib.toList_data]
  have := Lib.size_eq S
  cases e : S.data.toList with
  | nil => rw [e, List.length_nil] at this; omega
  | cons _ _ => rfl

/-- The bytes of a string in memory of their own. -/
theorem to_bytes (w : World) (S : ByteArray) : ∃ (W : World) (c : Nat), (convert 9 22 (.string S)).run Tryd.prog w = .ok (.slice (some ⟨w.heap.size, 0, none⟩) S.size c) W ∧
    Below w.heap.size w W ∧ w.heap.size < W.heap.size ∧ (∀ j, j < S.size → W.cell? ⟨w.heap.size, j, none⟩ = some (.int .u8 ((S.data.toList.getD j 0).toNat : Int))) ∧ (∀ j, j < S.size → W.frozen? ⟨w.heap.size, j, none⟩ = false) := by
  refine ⟨Lib.bytesWorld w 5 S, _, Lib.run_convert_string_bytes w 9 22 5 S Tryd.underlying9 Tryd.underlying22 Tryd.underlying5, ⟨rfl, rfl, rfl, ?_, fun k hk => Lib.bytesWorld_at_old w 5 S k hk⟩, ?_, fun j hj => Lib.bytesWorld_cell w 5 S j hj, fun j hj => ?_⟩
  · rw [Lib.bytesWorld_size]; omega
  · rw [Lib.bytesWorld_size]; omega
  · have hl : S.size ≤ (Lib.bytesCells w 5 S).size := by simp [Lib.bytesCells]
    simp [World.frozen?, Lib.bytesWorld_at_new]
    omega

theorem xor8 (x : UInt8) (d : Int) (h1 : 1 ≤ d) (h2 : d ≤ 255) : ∃ y : UInt8, bits BinOp.xor IntKind.u8 (x.toNat : Int) d = (y.toNat : Int) ∧ y ≠ x := by
  obtain ⟨k, rfl⟩ := Int.eq_ofNat_of_zero_le (show 0 ≤ d by omega)
  have hx : x.toNat < 256 := UInt8.toNat_lt x
  have hk : k < 256 := by omega
  have e : bits BinOp.xor IntKind.u8 (x.toNat : Int) (k : Int) = ((x.toNat ^^^ k : Nat) : Int) := by
    have ha' : x.toNat % 2 ^ 8 = x.toNat := Nat.mod_eq_of_lt hx
    have hb' : k % 2 ^ 8 = k := Nat.mod_eq_of_lt hk
    have hlt : x.toNat ^^^ k < 256 := Nat.xor_lt_two_pow (n := 8) hx hk
    show IntKind.u8.wrap ((BitVec.ofInt 8 (x.toNat : Int) ^^^ BitVec.ofInt 8 (k : Int)).toNat : Int) = _
    rw [BitVec.toNat_xor, BitVec.ofInt_natCast, BitVec.ofInt_natCast, BitVec.toNat_ofNat, BitVec.toNat_ofNat, ha', hb', IntKind.wrap_u8]
    omega
  have hlt : x.toNat ^^^ k < 256 := Nat.xor_lt_two_pow (n := 8) hx hk
  refine ⟨(x.toNat ^^^ k).toUInt8, ?_, ?_⟩
  · rw [e]; rw [show ((x.toNat ^^^ k).toUInt8).toNat = (x.toNat ^^^ k) % 256 from rfl, Nat.mod_eq_of_lt hlt]
  · intro he
    have h3 : x.toNat ^^^ k = x.toNat := by
      have := congrArg UInt8.toNat he
      rw [show ((x.toNat ^^^ k).toUInt8).toNat = (x.toNat ^^^ k) % 256 from rfl, Nat.mod_eq_of_lt hlt] at this
      exact this
    have h4 : k = 0 := by
      have := congrArg (x.toNat ^^^ ·) h3
      simpa [← Nat.xor_assoc] using this
    omega

theorem app_head (t u : ByteArray) : (t ++ u).extract 0 t.size = t := by
  apply ByteArray.ext
  apply Array.toList_inj.1
  rw [Lib.extract_data]; simp
theorem app_tail (t u : ByteArray) : ((t ++ u).extract t.size (t ++ u).size).toList = u.toList := by
  rw [Lib.toList_data, Lib.toList_data]
  rw [Lib.extract_to_end]; simp
theorem unsealT_yes (s : ByteArray) (n : Nat) (hs : s.size ≤ 8000) (h4 : 4 ≤ s.size) (hn : n = s.size - 4) (h : ((s.extract n s.size).toList == (fourS (crcF 0 (s.extract 0 n))).toList) = true) : unsealT s = (s.extract 0 n, 0) := by
  subst hn
  unfold unsealT
  rw [if_neg (by omega), if_neg (by omega), if_pos (by rw [BEq.comm]; exact h)]
theorem unsealT_not (s : ByteArray) (n : Nat) (hs : s.size ≤ 8000) (h4 : 4 ≤ s.size) (hn : n = s.size - 4) (h : ((s.extract n s.size).toList == (fourS (crcF 0 (s.extract 0 n))).toList) = false) : unsealT s = (⟨#[]⟩, 5) := by
  subst hn
  unfold unsealT
  rw [if_neg (by omega), if_neg (by omega), if_neg (by rw [BEq.comm, h]; simp)]
theorem unseal_own (t : ByteArray) (aE : Nat → Addr) (w : World) (ht : t.size ≤ 19) (hE : Sent w (sealG ++ []) aE) :
    Calls Tryd.prog 23 #[.string (t ++ fourS (crcF 0 t))] w fun e w' => e = .returned (.agg #[.string t, .int .i64 0, .int .i64 0]) ∧ Below w.heap.size w w' := by
  have hz := seal_size t
  have h := implUnsealT (t ++ fourS (crcF 0 t)) [] aE w (by unfold maxLen; omega) hE
  rw [unsealT_yes _ t.size (by omega) (by omega) (by omega) (by rw [app_head, app_tail]; exact beq_self_eq_true _), app_head] at h
  exact h
theorem unseal_other (t s' : ByteArray) (i : Nat) (y : UInt8) (aE : Nat → Addr) (w : World) (ht : t.size ≤ 19) (hi : i < t.size + 4)
    (hs : s'.data.toList = (t ++ fourS (crcF 0 t)).data.toList.set i y) (hy : (t ++ fourS (crcF 0 t)).data.toList[i]? ≠ some y) (hE : Sent w (sealG ++ []) aE) :
    Calls Tryd.prog 23 #[.string s'] w fun e w' => e = .returned (.agg #[.string ⟨#[]⟩, .int .i64 0, .int .i64 5]) ∧ Below w.heap.size w w' := by
  have hz : s'.size = t.size + 4 := by
    rw [Lib.size_eq, hs, List.length_set, ← Lib.size_eq, seal_size]
  rw [seal_list] at hs hy
  have h := implUnsealT s' [] aE w (by unfold maxLen; omega) hE
  rw [unsealT_not s' t.size (by omega) (by omega) (by omega) (seal_changed t s' i y hi hs hy)] at h
  exact h

/-- The bytes in block g are those of S with another one at place i. -/
def Changed (S : ByteArray) (i g : Nat) (w0 wx : World) : Prop :=
  ∃ y : UInt8, S.data.toList[i]? ≠ some y ∧ (∀ j, j < S.size → wx.cell? ⟨g, j, none⟩ = some (.int .u8 (((S.data.toList.set i y).getD j 0).toNat : Int))) ∧ Below w0.heap.size w0 wx ∧ g < wx.heap.size
theorem changed_of {S : ByteArray} {i g : Nat} {w0 W : World} {v : Int} {y : UInt8} (hi : i < S.size) (hy : y ≠ S.data.toList.getD i 0) (hv : v = (y.toNat : Int))
    (hc : ∀ j, j < S.size → W.cell? ⟨g, j, none⟩ = some (.int .u8 ((S.data.toList.getD j 0).toNat : Int))) (hb : Below w0.heap.size w0 W) (hg : w0.heap.size ≤ g) (hg' : g < W.heap.size) :
    Changed S i g w0 (W.setCell ⟨g, i, none⟩ (.int .u8 v)) := by
  have hl : S.data.toList.length = S.size := (Lib.size_eq S).symm
  refine ⟨y, ?_, fun j hj => ?_, hb.setCell (p := ⟨g, i, none⟩) hg _, by simpa [World.setCell] using hg'⟩
  · rw [List.getElem?_eq_getElem (by omega)]
    intro e
    apply hy
    rw [← Option.some.inj e, List.getD_eq_getElem?_getD, List.getElem?_eq_getElem (by omega)]; rfl
  · subst hv
    by_cases e : j = i
    · subst e
      rw [World.cell?_setCell_same W _ _ (hc j hj)]
      rw [List.getD_eq_getElem?_getD, List.getElem?_set_self (by omega)]; rfl
    · rw [World.cell?_setCell_other W _ _ _ (by intro h; exact e (by injection h with _ h2 _; exact h2.symm)), hc j hj]
      rw [List.getD_eq_getElem?_getD, List.getD_eq_getElem?_getD, List.getElem?_set_ne (fun h => e h.symm)]

theorem changed_mix {S : ByteArray} {i g : Nat} {w0 W : World} {v : Int} {x : UInt8} (hx : S.data.toList.getD i 0 = x) (hi : i < S.size) (hv0 : 0 ≤ v) (hv1 : v < 255)
    (hc : ∀ j, j < S.size → W.cell? ⟨g, j, none⟩ = some (.int .u8 ((S.data.toList.getD j 0).toNat : Int))) (hb : Below w0.heap.size w0 W) (hg : w0.heap.size ≤ g) (hg' : g < W.heap.size) :
    Changed S i g w0 (W.setCell ⟨g, i, none⟩ (.int .u8 (bits BinOp.xor IntKind.u8 (x.toNat : Int) (IntKind.u8.wrap (IntKind.i64.wrap (1 + v)))))).drew := by
  have e : IntKind.u8.wrap (IntKind.i64.wrap (1 + v)) = 1 + v := by
    rw [IntKind.wrap_i64, IntKind.wrap_u8]; omega
  obtain ⟨y, hy, hne⟩ := xor8 x (1 + v) (by omega) (by omega)
  rw [e]
  obtain ⟨y, h1, h2, h3, h4⟩ := changed_of (v := bits BinOp.xor IntKind.u8 (x.toNat : Int) (1 + v)) hi (hx ▸ hne) hy hc hb hg hg'
  exact ⟨y, h1, h2, h3.drew, h4⟩
/-- The changed bytes as a string again. -/
theorem changed_back {S : ByteArray} {i g c : Nat} {y : UInt8} {w : World} (hc : ∀ j, j < S.size → w.cell? ⟨g, j, none⟩ = some (.int .u8 (((S.data.toList.set i y).getD j 0).toNat : Int))) :
    (convert 22 9 (.slice (some ⟨g, 0, none⟩) S.size c)).run Tryd.prog w = .ok (.string ⟨(S.data.toList.set i y).toArray⟩) w := by
  have hl : (S.data.toList.set i y).length = S.size := by rw [List.length_set, ← Lib.size_eq]
  have := run_convert_bytes_back (P := Tryd.prog) w 22 9 5 ⟨g, 0, none⟩ c (S.data.toList.set i y) Tryd.underlying22 Tryd.underlying5 Tryd.underlying9 (fun j hj => by
    rw [show (⟨g, 0, none⟩ : Addr).add j = ⟨g, j, none⟩ by simp [Addr.add]; exact Eq.symm, hc j (by omega), List.getD_eq_getElem?_getD, List.getElem?_eq_getElem hj]; rfl)
  rw [hl] at this
  exact this

theorem field_code (s : ByteArray) (n c : Int) (w : World) : (Instr.field 31 (.agg #[.string s, .int .i64 n, .int .i64 c]) 2).run Tryd.prog w = .ok (.int .i64 c) w := by
  simp [Instr.field, go_sem, asAgg]
theorem crc_tail (c : Int) (s : ByteArray) (hs : s.size ≤ 8000) : ∃ r : Int,
    (∀ w, Calls Tryd.prog 25 #[.int .i64 c, .string s] w fun e w' => e = .returned (.int .i64 r) ∧ w = w') ∧
    (∀ w, Calls Tryd.prog 26 #[.int .i64 c, .string s] w fun e w' => e = .returned (.int .i64 r) ∧ w = w') := by
  by_cases h : 0 ≤ c ∧ c ≤ 4294967295
  · exact ⟨_, fun w => implMore_any c s w hs h.1 h.2, fun w => specMore_any c s w hs h.1 h.2⟩
  · exact ⟨0, fun w => implMore_zero c s w (by unfold maxLen; omega) (by omega), fun w => specMore_zero c s w (by unfold maxLen; omega) (by omega)⟩

set_option maxHeartbeats 1000000 in
set_option maxRecDepth 100000 in
theorem sealLaw_mid (a0 a1 : Option Addr) (len0 cap0 len1 cap1 : Nat) (w : World) (hB0 : Bytes w a0 len0) (hB1 : Bytes w a1 len1) (h0 : len0 ≤ 1048576) (h1 : len1 ≤ 1048576) (aE : Nat → Addr) (hE : Sent w (sealG ++ []) aE) :
    Calls Tryd.prog 4 #[.slice a0 len0 cap0, .slice a1 len1 cap1] w fun e w' => e = .returned (.bool true) ∧ Below w.heap.size w w' := by
  have HB0 := Lib.hid hB0
  have HB1 := Lib.hid hB1
  have HE := Lib.hid hE
  clear hB0 hB1 hE
  go_enter Tryd.func4, Tryd.ntmps4
  go_wp2_with fail
  refine (drawSeal_any a0 len0 cap0 _ HB0.out h0).mono ?_
  rintro e w1 ⟨t, ht, rfl, hb1⟩
  have HW1 := Lib.hid hb1
  clear hb1
  rcases ht with ht | ⟨ht, ht'⟩
  · obtain ⟨S, hS⟩ : ∃ S, S = t ++ fourS (crcF 0 t) := ⟨_, rfl⟩
    have HS := Lib.hid hS
    have hsz : S.size = t.size + 4 := by rw [hS]; exact seal_size t
    clear hS
    go_wp2_with fail
    refine (implSeal_any t _ (by omega)).mono ?_
    rintro e w2 ⟨rfl, hb2⟩
    rw [← HS.out]
    have HW2 := Lib.hid (HW1.out.trans (hb2.mono HW1.out.size))
    clear hb2
    go_wp2_with fail
    refine (specSeal_any t _ (by omega)).mono ?_
    rintro e w3 ⟨rfl, hb3⟩
    rw [← HS.out]
    have HW3 := Lib.hid (HW2.out.trans (hb3.mono HW2.out.size))
    clear hb3
    have HZ := Lib.hid hsz
    have hp : 4 ≤ S.size := by omega
    have hp2 : S.size ≤ 23 := by omega
    clear hsz
    have hne := not_empty S (by omega)
    obtain ⟨W, c, hrun, hbW, hgW, hcW, hfW⟩ := to_bytes w3 S
    have HW4 := Lib.hid (HW3.out.trans (hbW.mono HW3.out.size))
    have HCW := Lib.hid hcW
    have HFW := Lib.hid hfW
    clear hbW hcW hfW
    go_wp2_with fail
    refine (lwAt_any a1 len1 cap1 0 S.size _ (HB1.out.below HW4.out) h1 (by omega) (by omega) (by omega)).mono ?_
    rintro e w5 ⟨i, ⟨hi0, hi1⟩, rfl, rfl⟩
    obtain ⟨i, rfl⟩ := Int.eq_ofNat_of_zero_le hi0
    go_upto_region 10 with fail
    have hci := HCW.out i (by omega)
    have hfi := HFW.out i (by omega)
    have d1 : (i : Int) < (S.size : Int) := by omega
    generalize hx : S.data.toList.getD i 0 = x at hci
    have HX := Lib.hid hx
    clear hx
    go_cut [] (fun wx => Changed S i w3.heap.size w wx)
    case first =>
      go_region_with ((go_at_call 22; refine (lwAt_any a1 len1 cap1 1 255 _ (HB1.out.below HW4.out.drew) h1 (by omega) (by omega) (by omega)).mono ?_; rintro e w6 ⟨v, ⟨hv0, hv1⟩, rfl, rfl⟩))
      all_goals (go_wp2_with fail; go_meet; case rel => exact changed_mix HX.out (by omega) hv0 hv1 HCW.out HW4.out HW3.out.size hgW)
    case rest =>
      obtain ⟨y, hy, hcc, hbc, hgc⟩ := hcut
      have HCC := Lib.hid hcc
      have HBC := Lib.hid hbc
      have HY := Lib.hid hy
      have HGC := Lib.hid hgc
      clear hy hcc hbc hgc
      go_wp2_with fail
      have hu := unseal_own t aE wc ht (HE.out.next HBC.out)
      rw [← HS.out] at hu
      refine hu.mono ?_
      rintro e w5 ⟨rfl, hb5⟩
      have HW5 := Lib.hid (HBC.out.trans (hb5.mono HBC.out.size))
      have HC5 := Lib.hid (fun j (hj : j < S.size) => (hb5.cell (p := ⟨w3.heap.size, j, none⟩) HGC.out).trans (HCC.out j hj))
      clear hb5
      have hback := changed_back (c := c) HC5.out
      go_wp2_with fail
      refine (unseal_other t _ i y aE _ ht (by have := HZ.out; omega) (by rw [← HS.out]) (by rw [← HS.out]; exact HY.out) (HE.out.next HW5.out)).mono ?_
      rintro e w6 ⟨rfl, hb6⟩
      have HW6 := Lib.hid (HW5.out.trans (hb6.mono HW5.out.size))
      clear hb6 hback
      have hfc := field_code ⟨#[]⟩ 0 5 w6
      go_wp2_with fail
      refine (drawMore_any a1 len1 cap1 _ (HB1.out.below HW6.out) h1).mono ?_
      rintro e w7 ⟨q, s, hs, hc0, hc1, rfl, hb7⟩
      have HW7 := Lib.hid (HW6.out.trans (hb7.mono HW6.out.size))
      clear hb7
      obtain ⟨r, hr1, hr2⟩ := crc_tail q s (by omega)
      have HR1 := Lib.hid hr1
      have HR2 := Lib.hid hr2
      clear hr1 hr2
      go_wp2_with fail
      refine (HR1.out _).mono ?_
      rintro e w8 ⟨rfl, rfl⟩
      go_wp2_with fail
      refine (HR2.out _).mono ?_
      rintro e w8 ⟨rfl, rfl⟩
      go_wp2_with fail
      refine (implCrc1_any t _ (by omega)).mono ?_
      rintro e w8 ⟨rfl, rfl⟩
      go_wp2_with fail
      refine (implMore_any _ s _ (by omega) (crcF_bound 0 t).1 (crcF_bound 0 t).2).mono ?_
      rintro e w8 ⟨rfl, rfl⟩
      go_wp2_with fail
      refine (implCrc1_any (t ++ s) _ (by simp; omega)).mono ?_
      rintro e w8 ⟨rfl, rfl⟩
      rw [crcF_more]
      go_wp2_with fail
      go_ret
      exact ⟨rfl, HW7.out⟩
  · go_wp2_with fail
    refine (implSeal_long t _ (by unfold maxLen; omega) (by omega)).mono ?_
    rintro e w2 ⟨rfl, rfl⟩
    go_wp2_with fail
    refine (specSeal_long t _ (by unfold maxLen; omega) (by omega)).mono ?_
    rintro e w2 ⟨rfl, rfl⟩
    go_wp2_with fail
    refine (drawMore_any a1 len1 cap1 _ (HB1.out.below HW1.out) h1).mono ?_
    rintro e w2 ⟨c, s, hs, hc0, hc1, rfl, hb2⟩
    have HW2 := Lib.hid (HW1.out.trans (hb2.mono HW1.out.size))
    clear hb2
    go_wp2_with fail
    go_ret
    exact ⟨rfl, HW2.out⟩
theorem sealLaw_any (a0 a1 : Option Addr) (len0 cap0 len1 cap1 : Nat) (w : World) (hB0 : Bytes w a0 len0) (hB1 : Bytes w a1 len1) (m0 : len0 ≤ maxLen) (m1 : len1 ≤ maxLen) (aE : Nat → Addr) (hE : Sent w (sealG ++ []) aE) :
    Calls Tryd.prog 4 #[.slice a0 len0 cap0, .slice a1 len1 cap1] w fun e w' => e = .returned (.bool true) ∧ Below w.heap.size w w' := by
  unfold maxLen at m0 m1
  by_cases h0 : len0 ≤ 1048576
  · by_cases h1 : len1 ≤ 1048576
    · exact sealLaw_mid a0 a1 len0 cap0 len1 cap1 w hB0 hB1 h0 h1 aE hE
    · clear hB0 hB1 hE
      go_enter Tryd.func4, Tryd.ntmps4
      go_wp2_with fail
      go_ret
      exact ⟨rfl, Below.refl _ _⟩
  · clear hB0 hB1 hE
    go_enter Tryd.func4, Tryd.ntmps4
    go_wp2_with fail
    go_ret
    exact ⟨rfl, Below.refl _ _⟩
end Go.Proofs.YthkbllkhomjmbaaDoor
