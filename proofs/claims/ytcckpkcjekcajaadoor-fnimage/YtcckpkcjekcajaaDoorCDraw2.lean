/- Drawn images: spec.l01Src.l07Image, l07Odd. -/
import Derived.Test.YtcckpkcjekcajaaDoorBDraw4
import Derived.Test.YtcckpkcjekcajaaDoorBDraw6
import Derived.Test.YtcckpkcjekcajaaDoorM2
namespace Go.Proofs.YtcckpkcjekcajaaDoor
open Go.RowKit

/-- A drawn image: of the call's own since w; the source lies in block b. -/
structure ZSt (b : Nat) (a : Option Addr) (len cap : Nat) (w : World) (l : List ByteArray) (v : Value) (wr : World) : Prop where
  gr : Gr wr w.heap.size 9 1 v l.length (strs l)
  src : Src wr b a len cap
  kept : Kept b w wr
  small : ∀ s ∈ l, s.size ≤ 10
section
variable {b : Nat} {a : Option Addr} {len cap : Nat} {w : World} {l : List ByteArray} {v : Value} {w1 w2 : World}
theorem ZSt.keep (h : ZSt b a len cap w l v w1) (hk : Kept b w1 w2) (hs : Src w2 b a len cap) (hb : b < w.heap.size) : ZSt b a len cap w l v w2 :=
  ⟨h.gr.kept hk hb, hs, h.kept.trans hk, h.small⟩
theorem ZSt.next (h : ZSt b a len cap w l v w1) (hb2 : Below w1.heap.size w1 w2) (hb : b < w.heap.size) : ZSt b a len cap w l v w2 :=
  h.keep (below_kept hb2) (h.src.below hb2) hb
theorem strs_snoc (l : List ByteArray) (x : ByteArray) : strs (l ++ [x]) = strs l ++ [.string x] := by simp [strs]
theorem ZSt.grow (h : ZSt b a len cap w l v w1) (hb : b < w.heap.size) (x : ByteArray) (hx : x.size ≤ 10) (g c : Nat)
    (hg : Gr w2 w.heap.size 9 1 (.slice (some ⟨g, 0, none⟩) (l.length + 1) c) (l.length + 1) (strs l ++ [.string x])) (hgr : w1.grownBy w2 (blk v l.length)) : ZSt b a len cap w (l ++ [x]) (.slice (some ⟨g, 0, none⟩) (l ++ [x]).length c) w2 := by
  have hlo : ∀ k, blk v l.length = some k → w.heap.size ≤ k := fun k hk => (h.gr.own.blk k hk).1
  refine ⟨?_, h.src.grown hgr (fun e => by have := hlo b e; omega), ⟨hgr.os.trans h.kept.os, hgr.tape.trans h.kept.tape, hgr.output.trans h.kept.output, Nat.le_trans h.kept.size hgr.size, fun k hk hne => ?_⟩, ?_⟩
  · rw [List.length_append, strs_snoc]; exact hg
  · rw [hgr.block k (Nat.lt_of_lt_of_le hk h.kept.size) (fun e => by have := hlo k e.symm; omega)]
    exact h.kept.block k hk hne
  · intro d hd
    rcases List.mem_append.1 hd with h' | h'
    · exact h.small d h'
    · rw [List.mem_singleton.1 h']; exact hx
theorem ZSt.from (h : ZSt b a len cap w1 l v w2) (hk : Kept b w w1) : ZSt b a len cap w l v w2 := ⟨h.gr.lower hk.size, h.src, hk.trans h.kept, h.small⟩
/-- One block written. -/
theorem ZSt.put {g c : Nat} (h : ZSt b a len cap w l (.slice (some ⟨g, 0, none⟩) l.length c) w1) (hb : b < w.heap.size) (j : Nat) (hj : j < l.length) (x : ByteArray) (hx : x.size ≤ 10) :
    ZSt b a len cap w (l.set j x) (.slice (some ⟨g, 0, none⟩) l.length c) (w1.setCell ⟨g, j, none⟩ (.string x)) := by
  have hg : w.heap.size ≤ g := (h.gr.own.blk g (blk_pos (by omega))).1
  refine ⟨?_, h.src.grown (row := some g) (grown_set (World.grownBy.refl w1 (some g))) (fun e => by have := Option.some.inj e; omega), h.kept.box j (.string x) hg, ?_⟩
  · rw [List.length_set, strs_set]; exact h.gr.set (by omega) j _
  · intro d hd
    rcases List.mem_or_eq_of_mem_set hd with h' | h'
    · exact h.small d h'
    · rw [h']; exact hx
end
theorem one_new (w : World) (x : Value) (t : TypeId) : ∀ j v, [x][j]? = some v → (w.alloc (.cells #[x] t)).cell? ((⟨w.heap.size, 0, none⟩ : Addr).add j) = some v := by
  intro j u hj
  rw [Addr.add_lit, (bx_new w t #[x]).cell]
  simpa using hj
/-- What a draw of an image gives. -/
def DrawnZ (b : Nat) (a : Option Addr) (len cap : Nat) (P : Nat → Prop) (w : World) (e : Ending) (w' : World) : Prop :=
  ∃ l v, P l.length ∧ e = .returned v ∧ ZSt b a len cap w l v w'
def ImRel (b : Nat) (a : Option Addr) (len cap : Nat) (k : Nat) (w : World) (i v : Value) (wr : World) : Prop :=
  ∃ (j : Nat) (l : List ByteArray), i = .int .i64 (j : Int) ∧ l.length + j = k ∧ ZSt b a len cap w l v wr
set_option maxRecDepth 100000 in
set_option maxHeartbeats 4000000 in
theorem image_any (b : Nat) (a : Option Addr) (len cap : Nat) (k : Nat) (hk : k ≤ 9) (w : World) (hS : Src w b a len cap) (hR : Row w a len b) :
    Calls Tryd.prog 63 #[.pointer (some ⟨b, 0, none⟩), .int .i64 (k : Int)] w (DrawnZ b a len cap (fun n => n = k) w) := by
  obtain ⟨i0, hi, hz0, hz1, hz2'⟩ := info_parts Tryd.info9
  have hbl := hS.lt
  have HR := Lib.hid hR
  have ST0 := Lib.hid (show ZSt b a len cap w [] (.slice (some ⟨w.heap.size, 0, none⟩) 0 0) (w.alloc (.cells #[] 9)) from ⟨.inr ⟨rfl, rfl, .inr ⟨_, rfl⟩⟩, hS.below (below_alloc1 w _), below_kept (below_alloc1 w _), by simp⟩)
  clear hS hR
  go_enter Tryd.func63, Tryd.ntmps63
  go_wp2_with fail
  go_loopw [1, 5] (fun i v wr => ImRel b a len cap k w i v wr) (fun i _ _ => (intOf i).toNat)
  case atStart => exact ⟨k, [], rfl, by simp, ST0.out⟩
  case round =>
    clear ST0
    obtain ⟨j, l, rfl, hlen, hst⟩ := hrel
    obtain ⟨x3, c3, rfl⟩ := gr_form hst.gr
    have ST := Lib.hid hst
    clear hst
    by_cases hlt : 0 < j
    · have e0 : (0 : Int) < (j : Int) := by omega
      have m1 : IntKind.i64.wrap ((j : Int) - 1) = (j : Int) - 1 := IntWalk.i64_in _ (by omega)
      have m2 : wrap64 ((j : Int) - 1) = (j : Int) - 1 := IntWalk.wrap64_in _ (by omega)
      go_wp2_with fail
      refine (data_any b a len cap wr ST.out.src (HR.out.kept ST.out.kept)).mono ?_
      rintro e w2 ⟨x, hx, rfl, hs2, hk2⟩
      have S2 := Lib.hid (ST.out.keep hk2 hs2 hbl)
      have hz2 : w.heap.size ≤ w2.heap.size := S2.out.kept.size
      clear hs2 hk2 ST
      go_wp2_with ((with_reducible show wpList _ _ _ (⟨some 15, _, _, _, _, _⟩ :: _) _ _); refine wpList_append_gr (lo := w.heap.size) (e := 9) (sz := 1) (v := .slice x3 l.length c3) (n := l.length) (xs := strs l) rfl (.tmp 11) (.tmp 14) 23 rfl i0 _ 16 Tryd.underlying23 hi hz0 hz1 hz2' rfl (by decide) rfl (by rw [strs_length]; omega) ?_ ⟨w2.heap.size, 0, none⟩ 1 1 rfl [.string x] (by decide) rfl ?_ (fun u hu => by obtain rfl := List.mem_singleton.1 hu; rfl) (by unfold maxLen; omega) (by omega) (by simp; omega) ?_)
      · exact (S2.out.next (below_alloc1 w2 _) hbl).gr
      · exact one_new w2 _ 9
      · intro gg cc w8 hgn hgr hloc
        have S10 := Lib.hid ((S2.out.next (below_alloc1 w2 _) hbl).grow hbl x hx gg cc hgn hgr)
        clear hgn hgr hloc
        go_wp2_with fail
        go_roundw
        case rel => exact ⟨j - 1, l ++ [x], by first | rfl | (congr 1; omega) | (rw [show ((j - 1 : Nat) : Int) = (j : Int) - 1 by omega]), by simp; omega, by have := S10.out; simpa using this⟩
        case measure => simp [intOf]; omega
    · obtain rfl : j = 0 := by omega
      go_wp2_with fail
      go_ret
      exact ⟨l, _, by omega, rfl, ST.out⟩

set_option maxRecDepth 100000 in
set_option maxHeartbeats 4000000 in
theorem oddZ_any (b : Nat) (a : Option Addr) (len cap : Nat) (w : World) (hS : Src w b a len cap) (hR : Row w a len b) :
    Calls Tryd.prog 29 #[.pointer (some ⟨b, 0, none⟩)] w (DrawnZ b a len cap (fun n => n ≤ 9) w) := by
  have hbl := hS.lt
  have HR := Lib.hid hR
  have HS := Lib.hid hS
  clear hS hR
  go_enter Tryd.func29, Tryd.ntmps29
  go_wp2_with fail
  refine (n_any b a len cap 5 w HS.out HR.out (by omega) (by omega)).mono ?_
  rintro e w1 ⟨y, ⟨hy0, hy1⟩, rfl, hs1, hk1⟩
  obtain ⟨n, rfl⟩ := Int.eq_ofNat_of_zero_le hy0
  have K1 := Lib.hid hk1
  have S1 := Lib.hid hs1
  have m0 : wrap64 (1 + (n : Int)) = ((1 + n : Nat) : Int) := by rw [IntWalk.wrap64_in _ (by omega)]; omega
  have m1 : IntKind.i64.wrap (1 + (n : Int)) = ((1 + n : Nat) : Int) := by rw [IntWalk.i64_in _ (by omega)]; omega
  clear hs1 hk1 HS
  go_wp2_with fail
  refine (image_any b a len cap (1 + n) (by omega) w1 S1.out (HR.out.kept K1.out)).mono ?_
  rintro e w2 ⟨l, v, hl, rfl, hst⟩
  obtain ⟨x3, c3, rfl⟩ := gr_form hst.gr
  have ST := Lib.hid (hst.from K1.out)
  have hl1 : 1 ≤ l.length := by omega
  have hl9 : l.length ≤ 5 := by omega
  clear hst S1 K1 m0 m1 hl
  go_wp2_with fail
  refine (one_any b a len cap 12 _ ST.out.src (HR.out.kept ST.out.kept) (by omega) (by omega)).mono ?_
  rintro e w3 ⟨bb, rfl, hs3, hk3⟩
  have ST3 := Lib.hid (ST.out.keep hk3 hs3 hbl)
  clear hs3 hk3 ST
  cases bb with
  | false =>
    go_wp2_with fail
    go_ret
    exact ⟨l, _, by omega, rfl, ST3.out⟩
  | true =>
    go_wp2_with fail
    refine (n_any b a len cap 3 _ ST3.out.src (HR.out.kept ST3.out.kept) (by omega) (by omega)).mono ?_
    rintro e w4 ⟨y, ⟨hq0, hq1⟩, rfl, hs4, hk4⟩
    have ST4 := Lib.hid (ST3.out.keep hk4 hs4 hbl)
    clear hs4 hk4 ST3
    have hy : y = 0 ∨ y = 1 ∨ y = 2 := by omega
    rcases hy with rfl | rfl | rfl
    · go_wp2_with fail
      refine (n_any b a len cap 2 _ ST4.out.src (HR.out.kept ST4.out.kept) (by omega) (by omega)).mono ?_
      rintro e w5 ⟨y, ⟨hr0, hr1⟩, rfl, hs5, hk5⟩
      obtain ⟨r, rfl⟩ := Int.eq_ofNat_of_zero_le hr0
      have ST5 := Lib.hid (ST4.out.keep hk5 hs5 hbl)
      have m0 : wrap64 (2 * (r : Int)) = 2 * (r : Int) := IntWalk.wrap64_in _ (by omega)
      have m1 : IntKind.i64.wrap (2 * (r : Int)) = 2 * (r : Int) := IntWalk.i64_in _ (by omega)
      have m2 : wrap64 (7 + 2 * (r : Int)) = ((7 + 2 * r : Nat) : Int) := by rw [IntWalk.wrap64_in _ (by omega)]; omega
      have m3 : IntKind.i64.wrap (7 + 2 * (r : Int)) = ((7 + 2 * r : Nat) : Int) := by rw [IntWalk.i64_in _ (by omega)]; omega
      clear hs5 hk5 ST4
      go_wp2_with fail
      refine (bytes_any b a len cap (7 + 2 * r) _ ST5.out.src (HR.out.kept ST5.out.kept) (by omega)).mono ?_
      rintro e w6 ⟨s, hs, rfl, hs6, hk6⟩
      have ST6 := Lib.hid (ST5.out.keep hk6 hs6 hbl)
      clear hs6 hk6 ST5 m0 m1 m2 m3
      obtain ⟨g, off, hp, hlo, hgl, hc, hf⟩ := ST6.out.gr.own.get (by omega)
      subst hp
      obtain rfl := ST6.out.gr.at0 (by omega)
      obtain ⟨v0, hv0⟩ : ∃ v0, w6.cell? ⟨g, 0, none⟩ = some v0 := by
        have := hc 0 (by omega)
        rw [List.getElem?_eq_getElem (by rw [strs_length]; omega)] at this
        exact ⟨_, this⟩
      have hf0 : w6.frozen? ⟨g, 0, none⟩ = false := hf 0 (by omega)
      have ST7 := Lib.hid (ST6.out.put hbl 0 (by omega) s (by omega))
      clear hc hf
      go_wp2_with fail
      go_ret
      exact ⟨l.set 0 s, _, by rw [List.length_set]; omega, rfl, ST7.out⟩
    · go_wp2_with fail
      go_ret
      exact ⟨[], _, by simp, rfl, ⟨Gr.nil _ _ _ _, ST4.out.src, ST4.out.kept, by simp⟩⟩
    · go_wp2_with fail
      refine (n_any b a len cap 2 _ ST4.out.src (HR.out.kept ST4.out.kept) (by omega) (by omega)).mono ?_
      rintro e w5 ⟨y, ⟨hr0, hr1⟩, rfl, hs5, hk5⟩
      obtain ⟨r, rfl⟩ := Int.eq_ofNat_of_zero_le hr0
      have ST5 := Lib.hid (ST4.out.keep hk5 hs5 hbl)
      have m2 : wrap64 (8 + (r : Int)) = ((8 + r : Nat) : Int) := by rw [IntWalk.wrap64_in _ (by omega)]; omega
      have m3 : IntKind.i64.wrap (8 + (r : Int)) = ((8 + r : Nat) : Int) := by rw [IntWalk.i64_in _ (by omega)]; omega
      clear hs5 hk5 ST4
      go_wp2_with fail
      refine (image_any b a len cap (8 + r) (by omega) _ ST5.out.src (HR.out.kept ST5.out.kept)).mono ?_
      rintro e w6 ⟨l6, v6, hl6, rfl, hst6⟩
      obtain ⟨x6, c6, rfl⟩ := gr_form hst6.gr
      have ST6 := Lib.hid (hst6.from ST5.out.kept)
      have hl9' : l6.length ≤ 9 := by omega
      clear hst6 ST5 m2 m3 hl6
      go_wp2_with fail
      go_ret
      exact ⟨l6, _, by omega, rfl, ST6.out⟩
end Go.Proofs.YtcckpkcjekcajaaDoor
