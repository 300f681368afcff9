/- The drawn lists: spec.l01Src.rising, list, between, l05List. -/
import Derived.Test.YtmhmjofmafeidaaABits
import Derived.Test.YtmhmjofmafeidaaEdge
import Derived.Test.YtmhmjofmafeidaaSource
namespace Go.Proofs.Ytmhmjofmafeidaa
open Go.RowKit

theorem below_kept {b : Nat} {w w' : World} (h : Below w.heap.size w w') : Kept b w w' := ⟨h.os, h.tape, h.output, h.size, fun k hk _ => h.block k hk⟩
theorem Src.below {w w' : World} {b : Nat} {a : Option Addr} {len cap : Nat} (h : Src w b a len cap) (hb : Below w.heap.size w w') : Src w' b a len cap := by
  obtain ⟨k, m, s, h1, h2, h3⟩ := h
  exact ⟨k, m, s, h1, by rw [hb.block b (lt_of_some h2)]; exact h2, h3⟩
/-- A list that has been drawn: of the call's own since w; the source lies in block b. -/
structure LdSt (b : Nat) (a : Option Addr) (len cap : Nat) (w : World) (fs : List Int) (v : Value) (wr : World) : Prop where
  gr : Gr wr w.heap.size 2 1 v fs.length (ints fs)
  adr : ∃ x c, v = .slice (some x) fs.length c
  src : Src wr b a len cap
  kept : Kept b w wr
theorem Gr.kept {w w' : World} {lo e sz n b : Nat} {v : Value} {xs : List Value} (h : Gr w lo e sz v n xs) (hk : Kept b w w') (hb : b < lo) : Gr w' lo e sz v n xs :=
  h.keep fun k h1 hk' _ => hk.block k hk' (fun e => by have := Option.some.inj e; omega)
section
variable {b : Nat} {a : Option Addr} {len cap : Nat} {w : World} {fs : List Int} {v : Value} {w1 w2 : World}
theorem LdSt.keep (h : LdSt b a len cap w fs v w1) (hk : Kept b w1 w2) (hs : Src w2 b a len cap) (hb : b < w.heap.size) : LdSt b a len cap w fs v w2 :=
  ⟨h.gr.kept hk hb, h.adr, hs, h.kept.trans hk⟩
theorem LdSt.next (h : LdSt b a len cap w fs v w1) (hb2 : Below w1.heap.size w1 w2) (hb : b < w.heap.size) : LdSt b a len cap w fs v w2 :=
  h.keep (below_kept hb2) (h.src.below hb2) hb
theorem LdSt.grow (h : LdSt b a len cap w fs v w1) (hb : b < w.heap.size) (x : Int) (g c : Nat)
    (hg : Gr w2 w.heap.size 2 1 (.slice (some ⟨g, 0, none⟩) (fs.length + 1) c) (fs.length + 1) (ints fs ++ [.int .i64 x])) (hgr : w1.grownBy w2 (blk v fs.length)) : LdSt b a len cap w (fs ++ [x]) (.slice (some ⟨g, 0, none⟩) (fs.length + 1) c) w2 := by
  have hlo : ∀ k, blk v fs.length = some k → w.heap.size ≤ k := fun k hk => (h.gr.own.blk k hk).1
  refine ⟨?_, ⟨_, _, by rw [List.length_append]; rfl⟩, h.src.grown hgr (fun e => by have := hlo b e; omega), ⟨hgr.os.trans h.kept.os, hgr.tape.trans h.kept.tape, hgr.output.trans h.kept.output, Nat.le_trans h.kept.size hgr.size, fun k hk hne => ?_⟩⟩
  · rw [List.length_append, ints_append]; exact hg
  · rw [hgr.block k (Nat.lt_of_lt_of_le hk h.kept.size) (fun e => by have := hlo k e.symm; omega)]
    exact h.kept.block k hk hne
theorem LdSt.zero (hS : Src w b a len cap) (T : TypeId) : LdSt b a len cap w [] (.slice (some ⟨w.heap.size, 0, none⟩) 0 0) (w.alloc (.cells #[] T)) :=
  ⟨.inr ⟨rfl, rfl, .inr ⟨_, rfl⟩⟩, ⟨_, _, rfl⟩, hS.below (below_alloc1 w _), below_kept (below_alloc1 w _)⟩
end
/-- What a draw of a list gives: no more than m numbers. -/
def DrawnL (b : Nat) (a : Option Addr) (len cap : Nat) (m : Nat) (w : World) (e : Ending) (w' : World) : Prop :=
  ∃ fs v, fs.length ≤ m ∧ e = .returned v ∧ LdSt b a len cap w fs v w'
def RisRel (b : Nat) (a : Option Addr) (len cap : Nat) (w : World) (v i : Value) (wr : World) : Prop :=
  ∃ (k : Nat) (fs : List Int), i = .int .i64 (k : Int) ∧ k ≤ 24 ∧ fs.length ≤ k ∧ LdSt b a len cap w fs v wr
set_option maxHeartbeats 2000000 in
set_option maxRecDepth 100000 in
theorem rising_any (b : Nat) (a : Option Addr) (len cap : Nat) (of_ : Int) (w : World) (hS : Src w b a len cap) (hR : Row w a len b) (h1 : 1 < of_) (h2 : of_ ≤ 1000) :
    Calls Try.prog 61 #[.pointer (some ⟨b, 0, none⟩), .int .i64 24, .int .i64 of_] w (DrawnL b a len cap 24 w) := by
  obtain ⟨i0, hi, hz0, hz1, hz2⟩ := info_parts Try.info2
  have hbl := hS.lt
  have HR := Lib.hid hR
  have ST0 := Lib.hid (LdSt.zero hS 2)
  clear hS hR
  go_enter Try.func61, Try.ntmps61
  go_wp2_with fail
  go_loopw [7, 8] (fun v i wr => RisRel b a len cap w v i wr) (fun _ i _ => 24 - (intOf i).toNat)
  case atStart => exact ⟨0, [], rfl, by omega, by simp, ST0.out⟩
  case round =>
    clear ST0
    obtain ⟨k, fs, rfl, hk, hlen, hst⟩ := hrel
    obtain ⟨x3, c3, rfl⟩ := hst.gr.form
    have ST := Lib.hid hst
    clear hst
    by_cases hlt : k < 24
    · have e0 : (k : Int) < 24 := by omega
      go_wp2_with fail
      refine (one_any b a len cap of_ wr ST.out.src (HR.out.kept ST.out.kept) h1 (by omega)).mono ?_
      rintro e w2 ⟨bb, rfl, hs2, hk2⟩
      have ST2 := Lib.hid (ST.out.keep hk2 hs2 hbl)
      clear hs2 hk2 ST
      have hz3 : w.heap.size ≤ w2.heap.size := ST2.out.kept.size
      cases bb with
      | false =>
        go_wp2_with fail
        go_roundw
        case rel => exact ⟨k + 1, fs, by go_num, by omega, by omega, ST2.out⟩
        case measure => simp [intOf]; omega
      | true =>
        go_wp2_with ((with_reducible show wpList _ _ _ (⟨some 21, _, _, _, _, _⟩ :: _) _ _); refine wpList_append_gr (lo := w.heap.size) (e := 2) (sz := 1) (v := .slice x3 fs.length c3) (n := fs.length) (xs := ints fs) rfl (.tmp 18) (.tmp 20) 23 rfl i0 _ 8 Try.underlying23 hi hz0 hz1 hz2 rfl (by decide) rfl (by rw [ints_length]; omega) ?_ ⟨w2.heap.size, 0, none⟩ 1 1 rfl [.int .i64 (k : Int)] (by decide) rfl ?_ ?_ (by unfold maxLen; omega) (by omega) (by simp; omega) ?_)
        · exact (ST2.out.next (below_alloc1 w2 _) hbl).gr
        · exact one_new w2 2 (.int .i64 (k : Int))
        · intro u hu; simp at hu; subst hu; rfl
        · intro gg cc w4 hgn hgr hloc
          have ST4 := Lib.hid ((ST2.out.next (below_alloc1 w2 _) hbl).grow hbl (k : Int) gg cc hgn hgr)
          clear hgn hgr hloc
          go_wp2_with fail
          go_roundw
          case rel => exact ⟨k + 1, fs ++ [(k : Int)], by go_num, by omega, by simp; omega, by have := ST4.out; simpa using this⟩
          case measure => simp [intOf]; omega
    · obtain rfl : k = 24 := by omega
      go_wp2_with fail
      go_ret
      exact ⟨fs, _, hlen, rfl, ST.out⟩
set_option maxHeartbeats 1000000 in
theorem between_any (b : Nat) (a : Option Addr) (len cap : Nat) (low high : Int) (w : World) (hS : Src w b a len cap) (hR : Row w a len b) (h0 : -1000000 ≤ low) (h1 : low < high) (h2 : high ≤ 1000000) :
    Calls Try.prog 68 #[.pointer (some ⟨b, 0, none⟩), .int .i64 low, .int .i64 high] w (Drawn b a len cap (fun v => low ≤ v ∧ v ≤ high) w) := by
  have HC := Lib.hid (n_any b a len cap (high - low + 1) w hS hR (by omega) (by omega))
  clear hS hR
  have m0 : wrap64 (high - low) = high - low := IntWalk.wrap64_in _ (by omega)
  have m1 : wrap64 (high - low + 1) = high - low + 1 := IntWalk.wrap64_in _ (by omega)
  go_enter Try.func68, Try.ntmps68
  go_wp2_with fail
  refine HC.out.mono ?_
  rintro e w1 ⟨v, ⟨hv0, hv1⟩, rfl, hs, hk⟩
  have HS := Lib.hid hs
  have HK := Lib.hid hk
  clear hs hk m0 m1
  have m2 : wrap64 (low + v) = low + v := IntWalk.wrap64_in _ (by omega)
  go_wp2_with fail
  go_ret
  exact ⟨low + v, by omega, rfl, HS.out, HK.out⟩
def LisRel (b : Nat) (a : Option Addr) (len cap : Nat) (m : Nat) (w : World) (v i : Value) (wr : World) : Prop :=
  ∃ (k : Nat) (fs : List Int), i = .int .i64 (k : Int) ∧ fs.length + k ≤ m ∧ LdSt b a len cap w fs v wr
set_option maxHeartbeats 2000000 in
set_option maxRecDepth 100000 in
theorem list_any (b : Nat) (a : Option Addr) (len cap : Nat) (n : Nat) (low high : Int) (w : World) (hS : Src w b a len cap) (hR : Row w a len b) (hn : n ≤ 1000) (h0 : -1000000 ≤ low) (h1 : low < high) (h2 : high ≤ 1000000) :
    Calls Try.prog 62 #[.pointer (some ⟨b, 0, none⟩), .int .i64 (n : Int), .int .i64 low, .int .i64 high] w (DrawnL b a len cap n w) := by
  obtain ⟨i0, hi, hz0, hz1, hz2⟩ := info_parts Try.info2
  have hbl := hS.lt
  have HR := Lib.hid hR
  have ST0 := Lib.hid (LdSt.zero hS 2)
  clear hS hR
  go_enter Try.func62, Try.ntmps62
  go_wp2_with fail
  go_loopw [1, 9] (fun i v wr => LisRel b a len cap n w v i wr) (fun i _ _ => (intOf i).toNat)
  case atStart => exact ⟨n, [], rfl, by simp, ST0.out⟩
  case round =>
    clear ST0
    obtain ⟨k, fs, rfl, hlen, hst⟩ := hrel
    obtain ⟨x3, c3, rfl⟩ := hst.gr.form
    have ST := Lib.hid hst
    clear hst
    by_cases hlt : 0 < k
    · have e0 : (0 : Int) < (k : Int) := by omega
      go_wp2_with fail
      refine (between_any b a len cap low high wr ST.out.src (HR.out.kept ST.out.kept) h0 h1 h2).mono ?_
      rintro e w2 ⟨x, hx, rfl, hs2, hk2⟩
      have ST2 := Lib.hid (ST.out.keep hk2 hs2 hbl)
      clear hs2 hk2 ST
      have hz3 : w.heap.size ≤ w2.heap.size := ST2.out.kept.size
      have m1 : IntKind.i64.wrap ((k : Int) - 1) = (k : Int) - 1 := IntWalk.i64_in _ (by omega)
      go_wp2_with ((with_reducible show wpList _ _ _ (⟨some 21, _, _, _, _, _⟩ :: _) _ _); refine wpList_append_gr (lo := w.heap.size) (e := 2) (sz := 1) (v := .slice x3 fs.length c3) (n := fs.length) (xs := ints fs) rfl (.tmp 15) (.tmp 20) 23 rfl i0 _ 8 Try.underlying23 hi hz0 hz1 hz2 rfl (by decide) rfl (by rw [ints_length]; omega) ?_ ⟨w2.heap.size, 0, none⟩ 1 1 rfl [.int .i64 x] (by decide) rfl ?_ ?_ (by unfold maxLen; omega) (by omega) (by simp; omega) ?_)
      · exact (ST2.out.next (below_alloc1 w2 _) hbl).gr
      · exact one_new w2 2 (.int .i64 x)
      · intro u hu; simp at hu; subst hu; rfl
      · intro gg cc w4 hgn hgr hloc
        have ST4 := Lib.hid ((ST2.out.next (below_alloc1 w2 _) hbl).grow hbl x gg cc hgn hgr)
        clear hgn hgr hloc
        go_wp2_with fail
        go_roundw
        case rel => exact ⟨k - 1, fs ++ [x], by first | rfl | (congr 1; omega) | (rw [show ((k - 1 : Nat) : Int) = (k : Int) - 1 by omega]), by simp; omega, by have := ST4.out; simpa using this⟩
        case measure => simp [intOf]; omega
    · obtain rfl : k = 0 := by omega
      go_wp2_with fail
      go_ret
      exact ⟨fs, _, by omega, rfl, ST.out⟩
end Go.Proofs.Ytmhmjofmafeidaa
