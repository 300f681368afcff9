/- The drawn fates: spec.l01Src.l03Fates. -/
import Derived.Test.YtkeimgglikdbfaaFBase
import Derived.Test.YtkeimgglikdbfaaEdge
import Derived.Test.YtkeimgglikdbfaaInts
import Derived.Test.YtkeimgglikdbfaaIOpen
namespace Go.Proofs.Ytkeimgglikdbfaa
open Go.RowKit

/-- The list that grows. -/
structure FtSt (b : Nat) (a : Option Addr) (len cap : Nat) (w : World) (fs : List Int) (v : Value) (wr : World) : Prop where
  gr : Gr wr w.heap.size 2 1 v fs.length (ints fs)
  src : Src wr b a len cap
  kept : Kept b w wr
theorem Gr.form {w : World} {lo e sz n : Nat} {v : Value} {xs : List Value} (h : Gr w lo e sz v n xs) : ∃ x c, v = .slice x n c := by
  rcases h with ⟨h0, h⟩ | ⟨rfl, -, h⟩
  · rcases h.2 with ⟨-, e⟩ | ⟨g, cap, _, e, _⟩
    · omega
    · exact ⟨_, _, e⟩
  · rcases h with e | ⟨x, e⟩
    · exact ⟨_, _, e⟩
    · exact ⟨_, _, e⟩
theorem Gr.kept {w w' : World} {lo e sz n b : Nat} {v : Value} {xs : List Value} (h : Gr w lo e sz v n xs) (hk : Kept b w w') (hb : b < lo) : Gr w' lo e sz v n xs :=
  h.keep fun k h1 hk' _ => hk.block k hk' (fun e => by have := Option.some.inj e; omega)
theorem FtSt.keep {b : Nat} {a : Option Addr} {len cap : Nat} {w : World} {fs : List Int} {v : Value} {w1 w2 : World} (h : FtSt b a len cap w fs v w1) (hk : Kept b w1 w2) (hs : Src w2 b a len cap) (hb : b < w.heap.size) : FtSt b a len cap w fs v w2 :=
  ⟨h.gr.kept hk hb, hs, h.kept.trans hk⟩
theorem FtSt.next {b : Nat} {a : Option Addr} {len cap : Nat} {w : World} {fs : List Int} {v : Value} {w1 w2 : World} (h : FtSt b a len cap w fs v w1) (hb2 : Below w1.heap.size w1 w2) (hb : b < w.heap.size) : FtSt b a len cap w fs v w2 :=
  h.keep (below_kept hb2) (h.src.below hb2) hb
theorem FtSt.grow {b : Nat} {a : Option Addr} {len cap : Nat} {w : World} {fs : List Int} {v : Value} {w1 w2 : World} (h : FtSt b a len cap w fs v w1) (hb : b < w.heap.size) (x : Int) (g c : Nat)
    (hg : Gr w2 w.heap.size 2 1 (.slice (some ⟨g, 0, none⟩) (fs.length + 1) c) (fs.length + 1) (ints fs ++ [.int .i64 x])) (hgr : w1.grownBy w2 (blk v fs.length)) : FtSt b a len cap w (fs ++ [x]) (.slice (some ⟨g, 0, none⟩) (fs.length + 1) c) w2 := by
  have hlo : ∀ k, blk v fs.length = some k → w.heap.size ≤ k := fun k hk => (h.gr.own.blk k hk).1
  refine ⟨?_, h.src.grown hgr (fun e => by have := hlo b e; omega), ⟨hgr.os.trans h.kept.os, hgr.tape.trans h.kept.tape, hgr.output.trans h.kept.output, Nat.le_trans h.kept.size hgr.size, fun k hk hne => ?_⟩⟩
  · rw [List.length_append, ints_append]; exact hg
  · rw [hgr.block k (Nat.lt_of_lt_of_le hk h.kept.size) (fun e => by have := hlo k e.symm; omega)]
    exact h.kept.block k hk hne
theorem one_new (w : World) (T : TypeId) (v : Value) : ∀ (j : Nat) (u : Value), [v][j]? = some u → (w.alloc (.cells #[v] T)).cell? ((⟨w.heap.size, 0, none⟩ : Addr).add j) = some u := by
  intro j u hu
  match j, hu with
  | 0, hu => simp at hu; subst hu; exact (bx_new w T #[v]).cell 0
  | j + 1, hu => simp at hu
def FatesRel (b : Nat) (a : Option Addr) (len cap : Nat) (w : World) (v i : Value) (wr : World) : Prop :=
  ∃ (k : Nat) (fs : List Int), i = .int .i64 (k : Int) ∧ k ≤ 6 ∧ fs.length + k ≤ 6 ∧ (∀ f ∈ fs, -9223372036854775808 ≤ f ∧ f ≤ 9223372036854775807) ∧ FtSt b a len cap w fs v wr
/-- What l03Fates gives. -/
def DrawnFates (b : Nat) (a : Option Addr) (len cap : Nat) (w : World) (e : Ending) (w' : World) : Prop :=
  ∃ fs v, fs.length ≤ 7 ∧ (∀ f ∈ fs, -9223372036854775808 ≤ f ∧ f ≤ 9223372036854775807) ∧ e = .returned v ∧ FtSt b a len cap w fs v w'

set_option maxHeartbeats 2000000 in
set_option maxRecDepth 100000 in
theorem fates_any (b : Nat) (a : Option Addr) (len cap : Nat) (w : World) (hS : Src w b a len cap) (hR : Row w a len b) :
    Calls Try.prog 34 #[.pointer (some ⟨b, 0, none⟩)] w (DrawnFates b a len cap w) := by
  obtain ⟨i0, hi, hz0, hz1, hz2⟩ := info_parts Try.info2
  have hbl := hS.lt
  have HS := Lib.hid hS
  have HR := Lib.hid hR
  clear hS hR
  go_enter Try.func34, Try.ntmps34
  go_wp2_with fail
  have ST0 : Hid (FtSt b a len cap w [] (.slice (some ⟨w.heap.size, 0, none⟩) 0 0) (w.alloc (.cells #[] 2))) := Lib.hid ⟨.inr ⟨rfl, rfl, .inr ⟨_, rfl⟩⟩, HS.out.below (below_alloc1 w _), below_kept (below_alloc1 w _)⟩
  clear HS
  generalize w.alloc (.cells #[] 2) = W0 at *
  refine (n_any b a len cap 7 W0 ST0.out.src (HR.out.kept ST0.out.kept) (by omega) (by omega)).mono ?_
  rintro e w1 ⟨y, ⟨hy0, hy1⟩, rfl, hs1, hk1⟩
  have ST1 := Lib.hid (ST0.out.keep hk1 hs1 hbl)
  clear hs1 hk1 ST0
  go_wp2_with fail
  go_loopw [3, 4] (fun v i wr => FatesRel b a len cap w v i wr) (fun _ i _ => (intOf i).toNat)
  case atStart => exact ⟨y.toNat, [], by rw [Int.toNat_of_nonneg hy0], by omega, by simp; omega, by simp, ST1.out⟩
  case round =>
    clear ST1
    obtain ⟨k, fs, rfl, hk6, hlen, hbd, hst⟩ := hrel
    obtain ⟨x3, c3, rfl⟩ := hst.gr.form
    have ST := Lib.hid hst
    have BD := Lib.hid hbd
    clear hst hbd
    by_cases hk0 : k = 0
    · subst hk0
      go_wp2_with fail
      refine (one_any b a len cap 25 wr ST.out.src (HR.out.kept ST.out.kept) (by omega) (by omega)).mono ?_
      rintro e w2 ⟨bb, rfl, hs2, hk2⟩
      have ST2 := Lib.hid (ST.out.keep hk2 hs2 hbl)
      clear hs2 hk2 ST
      cases bb with
      | false =>
        go_wp2_with fail
        go_ret
        exact ⟨fs, _, by omega, BD.out, rfl, ST2.out⟩
      | true =>
        go_wp2_with fail
        refine (edge_any b a len cap w2 ST2.out.src (HR.out.kept ST2.out.kept)).mono ?_
        rintro e w3 ⟨x, hx, rfl, hs3, hk3⟩
        have ST3 := Lib.hid (ST2.out.keep hk3 hs3 hbl)
        have hz3 : w.heap.size ≤ w3.heap.size := ST3.out.kept.size
        clear hs3 hk3 ST2
        go_wp2_with ((with_reducible show wpList _ _ _ (⟨some 29, _, _, _, _, _⟩ :: _) _ _); refine wpList_append_gr (lo := w.heap.size) (e := 2) (sz := 1) (v := .slice x3 fs.length c3) (n := fs.length) (xs := ints fs) rfl (.tmp 25) (.tmp 28) 32 rfl i0 _ 8 Try.underlying32 hi hz0 hz1 hz2 rfl (by decide) rfl (by rw [ints_length]; omega) ?_ ⟨w3.heap.size, 0, none⟩ 1 1 rfl [.int .i64 x] (by decide) rfl ?_ ?_ (by unfold maxLen; omega) (by omega) (by simp; omega) ?_)
        · exact (ST3.out.next (below_alloc1 w3 _) hbl).gr
        · exact one_new w3 2 (.int .i64 x)
        · intro u hu; simp at hu; subst hu; rfl
        · intro gg cc w4 hgn hgr hloc
          have ST4 := Lib.hid ((ST3.out.next (below_alloc1 w3 _) hbl).grow hbl x gg cc hgn hgr)
          clear hgn hgr hloc
          go_wp2_with fail
          go_ret
          exact ⟨fs ++ [x], _, by simp; omega, fun f hf => by
            rcases List.mem_append.1 hf with h | h
            · exact BD.out f h
            · simp at h; rw [h]; exact hx, rfl, ST4.out⟩
    · have e0 : (0 : Int) < (k : Int) := by omega
      go_wp2_with fail
      refine (n_any b a len cap 12 wr ST.out.src (HR.out.kept ST.out.kept) (by omega) (by omega)).mono ?_
      rintro e w2 ⟨x, ⟨hx0, hx1⟩, rfl, hs2, hk2⟩
      have ST2 := Lib.hid (ST.out.keep hk2 hs2 hbl)
      have m0 : IntKind.i64.wrap (2 + x) = 2 + x := IntWalk.i64_in _ (by omega)
      clear hs2 hk2 ST
      go_wp2_with fail
      have ST3 := Lib.hid (ST2.out.next (below_alloc1 w2 (.cells #[.int .i64 0, .int .i64 1, .int .i64 (2 + x)] 2)) hbl)
      have X3 := Lib.hid (bx_new w2 2 #[.int .i64 0, .int .i64 1, .int .i64 (2 + x)])
      have hne : w2.heap.size ≠ b := by have := ST2.out.src.lt; omega
      clear ST2
      generalize w2.alloc (.cells #[.int .i64 0, .int .i64 1, .int .i64 (2 + x)] 2) = W3 at *
      generalize w2.heap.size = n2 at *
      clear w2
      refine (n_any b a len cap 3 W3 ST3.out.src (HR.out.kept ST3.out.kept) (by omega) (by omega)).mono ?_
      rintro e w4 ⟨z, ⟨hz0', hz1'⟩, rfl, hs4, hk4⟩
      have ST4 := Lib.hid (ST3.out.keep hk4 hs4 hbl)
      have hx4 := X3.out.kept hk4 hne
      obtain ⟨j, rfl⟩ := Int.eq_ofNat_of_zero_le hz0'
      obtain ⟨f, hf, hfb⟩ : ∃ f : Int, w4.cell? ⟨n2, j, none⟩ = some (.int .i64 f) ∧ (0 ≤ f ∧ f ≤ 13) := by
        have hj : j = 0 ∨ j = 1 ∨ j = 2 := by omega
        rcases hj with rfl | rfl | rfl
        · exact ⟨0, hx4.t0, by omega⟩
        · exact ⟨1, hx4.t1, by omega⟩
        · exact ⟨2 + x, hx4.t2, by omega⟩
      have hz4 : w.heap.size ≤ w4.heap.size := ST4.out.kept.size
      clear hs4 hk4 ST3 hx4 X3
      have e1 : (j : Int) < 3 := by omega
      have e2 : j < 3 := by omega
      go_wp2_with ((with_reducible show wpList _ _ _ (⟨some 22, _, _, _, _, _⟩ :: _) _ _); refine wpList_append_gr (lo := w.heap.size) (e := 2) (sz := 1) (v := .slice x3 fs.length c3) (n := fs.length) (xs := ints fs) rfl (.tmp 12) (.tmp 21) 32 rfl i0 _ 8 Try.underlying32 hi hz0 hz1 hz2 rfl (by decide) rfl (by rw [ints_length]; omega) ?_ ⟨w4.heap.size, 0, none⟩ 1 1 rfl [.int .i64 f] (by decide) rfl ?_ ?_ (by unfold maxLen; omega) (by omega) (by simp; omega) ?_)
      · exact (ST4.out.next (below_alloc1 w4 _) hbl).gr
      · exact one_new w4 2 (.int .i64 f)
      · intro u hu; simp at hu; subst hu; rfl
      · intro gg cc w5 hgn hgr hloc
        have ST5 := Lib.hid ((ST4.out.next (below_alloc1 w4 _) hbl).grow hbl f gg cc hgn hgr)
        clear hgn hgr hloc
        have m1 : IntKind.i64.wrap ((k : Int) - 1) = (k : Int) - 1 := IntWalk.i64_in _ (by omega)
        go_wp2_with fail
        go_roundw
        case rel =>
          refine ⟨k - 1, fs ++ [f], by first | rfl | (congr 1; omega) | (rw [show ((k - 1 : Nat) : Int) = (k : Int) - 1 by omega]), by omega, by simp; omega, fun q hq => ?_, ?_⟩
          · rcases List.mem_append.1 hq with h | h
            · exact BD.out q h
            · simp at h; rw [h]; omega
          · exact ST5.out
        case measure => simp [intOf]; omega
end Go.Proofs.Ytkeimgglikdbfaa
