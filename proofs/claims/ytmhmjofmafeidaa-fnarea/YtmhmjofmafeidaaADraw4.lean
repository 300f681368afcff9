/- spec.DrawFreeOf, DrawListOf, DrawFromBits; laws.lwRuns. -/
import Derived.Test.YtmhmjofmafeidaaADraw2
import Derived.Test.YtmhmjofmafeidaaASrun
import Derived.Test.YtmhmjofmafeidaaAIlo
namespace Go.Proofs.Ytmhmjofmafeidaa
open Go.RowKit

set_option maxHeartbeats 2000000 in
set_option maxRecDepth 100000 in
theorem lwRuns_any (v u : Value) (l : List extT) (w : World) (h : Rd w v l.length 2 (extCs l)) (k : Rd w u l.length 2 (extCs l)) (hn : l.length ≤ 1048576) :
    Calls Try.prog 19 #[v, u] w fun e w' => e = .returned (.bool true) ∧ Still w w' := by
  obtain ⟨_, a, c, rfl, hc⟩ := h
  obtain ⟨_, a', c', rfl, hc'⟩ := k
  have HC := Lib.hid hc
  have HC' := Lib.hid hc'
  clear hc hc'
  have d0 : ((l.length : Int) != (l.length : Int)) = false := by simp
  go_enter Try.func19, Try.ntmps19
  go_wp2_with fail
  go_loopw [5] (fun i wr => EqRel w l.length i wr) (fun i _ => l.length - (intOf i).toNat)
  case atStart => exact ⟨0, by omega, rfl, Still.refl w⟩
  case round =>
    obtain ⟨k, hk, rfl, hst⟩ := hrel
    by_cases hlt : k < l.length
    · obtain ⟨b, off, rfl, hbl, hcell⟩ := HC.out (by omega)
      obtain ⟨b', off', rfl, hbl', hcell'⟩ := HC'.out (by omega)
      have hc0 : wr.cell? ⟨b, off + k * 2, none⟩ = some (.int .i64 l[k].1) := by
        rw [(hst.below w.heap.size).cell (p := ⟨b, off + k * 2, none⟩) hbl, hcell (k * 2) (by omega), extCs_0 l k hlt]
      have hc1 : wr.cell? ⟨b, off + k * 2 + 1, none⟩ = some (.int .i64 l[k].2) := by
        rw [(hst.below w.heap.size).cell (p := ⟨b, off + k * 2 + 1, none⟩) hbl, Nat.add_assoc, hcell (k * 2 + 1) (by omega), extCs_1 l k hlt]
      have hd0 : wr.cell? ⟨b', off' + k * 2, none⟩ = some (.int .i64 l[k].1) := by
        rw [(hst.below w.heap.size).cell (p := ⟨b', off' + k * 2, none⟩) hbl', hcell' (k * 2) (by omega), extCs_0 l k hlt]
      have hd1 : wr.cell? ⟨b', off' + k * 2 + 1, none⟩ = some (.int .i64 l[k].2) := by
        rw [(hst.below w.heap.size).cell (p := ⟨b', off' + k * 2 + 1, none⟩) hbl', Nat.add_assoc, hcell' (k * 2 + 1) (by omega), extCs_1 l k hlt]
      have HST := Lib.hid hst
      clear hcell hcell' hst
      generalize l[k].1 = x at *
      generalize l[k].2 = y at *
      have e0 : (k : Int) < (l.length : Int) := by omega
      have e1 : (0 : Int) ≤ (k : Int) := by omega
      go_wp2_with fail
      go_quiet (fail)
      go_wp2_with fail
      go_roundw
      case rel => exact ⟨k + 1, by omega, by go_num, HST.out.trans ⟨_, rfl⟩⟩
      case measure => simp [intOf]; omega
    · obtain rfl : k = l.length := by omega
      go_wp2_with fail
      go_ret
      exact ⟨rfl, hst⟩
def DrawnFree (W : World) (e : Ending) (w' : World) : Prop :=
  ∃ la lb va vb, la.length ≤ 26 ∧ lb.length ≤ 26 ∧ e = .returned (.tuple #[va, vb]) ∧ Own w' W.heap.size va la.length 1 (ints la) ∧ Own w' W.heap.size vb lb.length 1 (ints lb) ∧ Below W.heap.size W w'
set_option maxHeartbeats 2000000 in
set_option maxRecDepth 100000 in
theorem drawFree_any (a : Option Addr) (len cap : Nat) (w : World) (hB : Bytes w a len) (hl : len ≤ 1048576) :
    Calls Try.prog 12 #[.slice a len cap] w (DrawnFree w) := by
  have HB := Lib.hid hB
  clear hB
  go_enter Try.func12, Try.ntmps12
  go_wp2_with fail
  refine (source_any a len cap w HB.out hl).mono ?_
  rintro e w1 ⟨rfl, hs1, hb1⟩
  have hbl := hs1.lt
  have HS1 := Lib.hid hs1
  have HR := Lib.hid (HB.out.row hb1 (Nat.le_refl _))
  have HB1 := Lib.hid hb1
  have hz1 := hb1.size
  clear hs1 hb1
  go_wp2_with fail
  refine (l05List_any w.heap.size a len cap w1 HS1.out HR.out).mono ?_
  rintro e w2 ⟨la, va, hla, rfl, hst⟩
  obtain ⟨xa, ca, rfl⟩ := hst.adr
  have SA := Lib.hid hst
  clear hst HS1
  go_wp2_with fail
  refine (l05List_any w.heap.size a len cap w2 SA.out.src (HR.out.kept SA.out.kept)).mono ?_
  rintro e w3 ⟨lb, vb, hlb, rfl, hst⟩
  obtain ⟨xb, cb, rfl⟩ := hst.adr
  have SB := Lib.hid (hst.from SA.out.kept)
  have GA := Lib.hid (SA.out.gr.kept hst.kept hbl)
  clear hst SA
  go_wp2_with fail
  refine bodyPost_ret (v := .tuple #[.slice (some xa) la.length ca, .slice (some xb) lb.length cb]) (by simp [results, Try.results12, go_sem]) rfl ?_
  exact ⟨la, lb, _, _, hla, hlb, rfl, GA.out.own.lower hz1, SB.out.gr.own.lower hz1, HB1.out.trans (SB.out.kept.below (Nat.le_refl _) hz1)⟩
/-- A list of extents that grows. -/
structure LeSt (b : Nat) (a : Option Addr) (len cap : Nat) (w : World) (es : List extT) (v : Value) (wr : World) : Prop where
  gr : Gr wr w.heap.size 40 2 v es.length (extCs es)
  src : Src wr b a len cap
  kept : Kept b w wr
section
variable {b : Nat} {a : Option Addr} {len cap : Nat} {w : World} {es : List extT} {v : Value} {w1 w2 : World}
theorem LeSt.keep (h : LeSt b a len cap w es v w1) (hk : Kept b w1 w2) (hs : Src w2 b a len cap) (hb : b < w.heap.size) : LeSt b a len cap w es v w2 :=
  ⟨h.gr.kept hk hb, hs, h.kept.trans hk⟩
theorem LeSt.next (h : LeSt b a len cap w es v w1) (hb2 : Below w1.heap.size w1 w2) (hb : b < w.heap.size) : LeSt b a len cap w es v w2 :=
  h.keep (below_kept hb2) (h.src.below hb2) hb
theorem LeSt.grow (h : LeSt b a len cap w es v w1) (hb : b < w.heap.size) (x : extT) (g c : Nat)
    (hg : Gr w2 w.heap.size 40 2 (.slice (some ⟨g, 0, none⟩) (es.length + 1) c) (es.length + 1) (extCs es ++ [.int .i64 x.1, .int .i64 x.2])) (hgr : w1.grownBy w2 (blk v es.length)) : LeSt b a len cap w (es ++ [x]) (.slice (some ⟨g, 0, none⟩) (es.length + 1) c) w2 := by
  have hlo : ∀ k, blk v es.length = some k → w.heap.size ≤ k := fun k hk => (h.gr.own.blk k hk).1
  refine ⟨?_, h.src.grown hgr (fun e => by have := hlo b e; omega), ⟨hgr.os.trans h.kept.os, hgr.tape.trans h.kept.tape, hgr.output.trans h.kept.output, Nat.le_trans h.kept.size hgr.size, fun k hk hne => ?_⟩⟩
  · rw [List.length_append, extCs_snoc]; exact hg
  · rw [hgr.block k (Nat.lt_of_lt_of_le hk h.kept.size) (fun e => by have := hlo k e.symm; omega)]
    exact h.kept.block k hk hne
end
theorem fit_snoc {l : List extT} {x : extT} (h : FitE l) (h1 : -9223372036854775808 ≤ x.1) (h2 : x.1 ≤ 9223372036854775807) : FitE (l ++ [x]) := fun j hj => by
  rw [List.getElem_append]
  split
  · exact h j _
  · simp only [List.length_append, List.length_cons, List.length_nil] at hj
    have : j - l.length = 0 := by omega
    simp only [this, List.getElem_cons_zero]
    exact ⟨h1, h2⟩
theorem fit_ext (l : List Int) : FitE (extO l) := fun j hj => by
  cases ho : okL l with
  | false => rw [show extO l = [] from extO_no l ho] at hj; simp at hj
  | true =>
    have hm : (extO l)[j] ∈ runsL l := by rw [← extO_yes l ho]; exact List.getElem_mem hj
    have := (goodE_iff _).1 (runsL_good l ho _ hm)
    omega
theorem draw_num (x y z : Int) (hx0 : 0 ≤ x) (hx1 : x < 256) (hy0 : 0 ≤ y) (hy1 : y < 256) (hz0 : 0 ≤ z) (hz1 : z < 256) : wrap64 (x * 65536) = x * 65536 ∧ wrap64 (y * 256) = y * 256 ∧ wrap64 (x * 65536 + y * 256) = x * 65536 + y * 256 ∧ wrap64 (x * 65536 + y * 256 + z) = x * 65536 + y * 256 + z :=
  ⟨IntWalk.wrap64_in _ (by omega), IntWalk.wrap64_in _ (by omega), IntWalk.wrap64_in _ (by omega), IntWalk.wrap64_in _ (by omega)⟩
def DrawnExts (W : World) (e : Ending) (w' : World) : Prop :=
  ∃ l v, FitE l ∧ l.length ≤ 26 ∧ e = .returned v ∧ Own w' W.heap.size v l.length 2 (extCs l) ∧ Below W.heap.size W w'
set_option maxHeartbeats 4000000 in
set_option maxRecDepth 100000 in
theorem drawList_any (a : Option Addr) (len cap : Nat) (w : World) (hB : Bytes w a len) (hl : len ≤ 1048576) :
    Calls Try.prog 14 #[.slice a len cap] w (DrawnExts w) := by
  obtain ⟨i0, hi, hz0, hz1, hz2'⟩ := info_parts Try.infoext
  have hz2 := hz2'
  clear hz2'
  have HB := Lib.hid hB
  clear hB
  go_enter Try.func14, Try.ntmps14
  go_wp2_with fail
  refine (source_any a len cap w HB.out hl).mono ?_
  rintro e w1 ⟨rfl, hs1, hb1⟩
  have hbl := hs1.lt
  have HS1 := Lib.hid hs1
  have HR := Lib.hid (HB.out.row hb1 (Nat.le_refl _))
  have HB1 := Lib.hid hb1
  have hy1 := hb1.size
  clear hs1 hb1
  go_wp2_with fail
  refine (l05List_any w.heap.size a len cap w1 HS1.out HR.out).mono ?_
  rintro e w2 ⟨la, va, hla, rfl, hst⟩
  obtain ⟨xa, ca, rfl⟩ := hst.adr
  have hy2 := hst.kept.size
  have hbl2 : w.heap.size < w2.heap.size := by omega
  have HS2 := Lib.hid hst.src
  have HK2 := Lib.hid hst.kept
  have HB2 := Lib.hid (HB1.out.trans (hst.kept.below (Nat.le_refl _) hy1))
  have RL := Lib.hid hst.gr.own.rd
  clear hst HS1 HB1
  go_wp2_with fail
  refine (specExt _ la w2 RL.out (by omega)).mono ?_
  rintro e w3 ⟨ev, rfl, hg3, hb3⟩
  obtain ⟨ea, ec, rfl⟩ := hg3.form
  have hel := extO_len la
  have HFIT := Lib.hid (fit_ext la)
  have S3 := Lib.hid (show LeSt w.heap.size a len cap w2 (extO la) _ w3 from ⟨hg3, HS2.out.below hb3, below_kept hb3⟩)
  clear hg3 hb3 RL HS2
  generalize extO la = es at *
  have hz3 : w.heap.size ≤ w2.heap.size := by omega
  go_wp2_with fail
  refine (one_any w.heap.size a len cap 3 w3 S3.out.src (HR.out.kept (HK2.out.trans S3.out.kept)) (by omega) (by omega)).mono ?_
  rintro e w4 ⟨bb, rfl, hs4, hk4⟩
  have S4 := Lib.hid (S3.out.keep hk4 hs4 hbl2)
  clear hs4 hk4 S3
  cases bb with
  | false =>
    go_wp2_with fail
    refine (one_any w.heap.size a len cap 15 w4 S4.out.src (HR.out.kept (HK2.out.trans S4.out.kept)) (by omega) (by omega)).mono ?_
    rintro e w7 ⟨bb, rfl, hs7, hk7⟩
    have S7 := Lib.hid (S4.out.keep hk7 hs7 hbl2)
    clear hs7 hk7 S4
    cases bb with
    | false =>
      go_wp2_with fail
      go_ret
      exact ⟨es, _, HFIT.out, by omega, rfl,  (S7.out.gr.own.lower hz3), HB2.out.trans (S7.out.kept.below (by omega) (by omega))⟩
    | true =>
      go_wp2_with fail
      refine (edge_any w.heap.size a len cap w7 S7.out.src (HR.out.kept (HK2.out.trans S7.out.kept))).mono ?_
      rintro e w8 ⟨p, ⟨hp0, hp1⟩, rfl, hs8, hk8⟩
      have S8 := Lib.hid (S7.out.keep hk8 hs8 hbl2)
      clear hs8 hk8 S7
      go_wp2_with fail
      refine (edge_any w.heap.size a len cap w8 S8.out.src (HR.out.kept (HK2.out.trans S8.out.kept))).mono ?_
      rintro e w9 ⟨q, -, rfl, hs9, hk9⟩
      have S9 := Lib.hid (S8.out.keep hk9 hs9 hbl2)
      clear hs9 hk9 S8
      go_wp2_with ((with_reducible show wpList _ _ _ (⟨some 29, _, _, _, _, _⟩ :: _) _ _); refine wpList_append_gr (lo := w2.heap.size) (e := 40) (sz := 2) (v := .slice ea es.length ec) (n := es.length) (xs := extCs es) rfl (.tmp 22) (.tmp 28) 26 rfl i0 _ 16 Try.underlying26 hi hz0 hz1 hz2 rfl (by decide) rfl (by rw [extCs_length]) ?_ ⟨w9.heap.size, 0, none⟩ 1 1 rfl [.int .i64 p, .int .i64 q] (by decide) rfl ?_ ?_ (by unfold maxLen; omega) (by omega) (by simp; have := S9.out.kept.size; omega) ?_)
      · exact (S9.out.next (below_alloc1 w9 _) hbl2).gr
      · exact two_new w9 (.int .i64 p) (.int .i64 q) 40
      · intro u hu; simp at hu; rcases hu with rfl | rfl <;> rfl
      intro gg cc w10 hgn hgr hloc
      have Sw10 := Lib.hid ((S9.out.next (below_alloc1 w9 _) hbl2).grow hbl2 (p, q) gg cc hgn hgr)
      clear hgn hgr hloc
      go_wp2_with fail
      go_ret
      exact ⟨es ++ [(p, q)], _, fit_snoc HFIT.out hp0 hp1, by simp; omega, rfl, by have := Sw10.out.gr.own.lower (lo' := w.heap.size) hz3; simpa using this, HB2.out.trans (Sw10.out.kept.below (by omega) (by omega))⟩
  | true =>
    go_wp2_with fail
    refine (n_any w.heap.size a len cap 25 w4 S4.out.src (HR.out.kept (HK2.out.trans S4.out.kept)) (by omega) (by omega)).mono ?_
    rintro e w5 ⟨x, ⟨hx0, hx1⟩, rfl, hs5, hk5⟩
    have S5 := Lib.hid (S4.out.keep hk5 hs5 hbl2)
    clear hs5 hk5 S4
    go_wp2_with fail
    refine (n_any w.heap.size a len cap 6 w5 S5.out.src (HR.out.kept (HK2.out.trans S5.out.kept)) (by omega) (by omega)).mono ?_
    rintro e w6 ⟨y, -, rfl, hs6, hk6⟩
    have S6 := Lib.hid (S5.out.keep hk6 hs6 hbl2)
    clear hs6 hk6 S5
    go_wp2_with ((with_reducible show wpList _ _ _ (⟨some 19, _, _, _, _, _⟩ :: _) _ _); refine wpList_append_gr (lo := w2.heap.size) (e := 40) (sz := 2) (v := .slice ea es.length ec) (n := es.length) (xs := extCs es) rfl (.tmp 12) (.tmp 18) 26 rfl i0 _ 16 Try.underlying26 hi hz0 hz1 hz2 rfl (by decide) rfl (by rw [extCs_length]) ?_ ⟨w6.heap.size, 0, none⟩ 1 1 rfl [.int .i64 x, .int .i64 y] (by decide) rfl ?_ ?_ (by unfold maxLen; omega) (by omega) (by simp; have := S6.out.kept.size; omega) ?_)
    · exact (S6.out.next (below_alloc1 w6 _) hbl2).gr
    · exact two_new w6 (.int .i64 x) (.int .i64 y) 40
    · intro u hu; simp at hu; rcases hu with rfl | rfl <;> rfl
    intro gg cc v6 hgn hgr hloc
    have Sv6 := Lib.hid ((S6.out.next (below_alloc1 w6 _) hbl2).grow hbl2 (x, y) gg cc hgn hgr)
    clear hgn hgr hloc
    have HFIT2 := Lib.hid (fit_snoc (x := (x, y)) HFIT.out (by simp only; omega) (by simp only; omega))
    have hel2 : (es ++ [(x, y)]).length ≤ 25 := by simp; omega
    have hlen2 : es.length + 1 = (es ++ [(x, y)]).length := by simp
    rw [hlen2] at Sv6 ⊢
    generalize es ++ [(x, y)] = es2 at *
    clear HFIT
    obtain ⟨ea, hea⟩ : ∃ ea : Option Addr, ea = some ⟨gg, 0, none⟩ := ⟨_, rfl⟩
    rw [← hea] at Sv6 ⊢
    clear hea
    go_wp2_with fail
    refine (one_any w.heap.size a len cap 15 v6 Sv6.out.src (HR.out.kept (HK2.out.trans Sv6.out.kept)) (by omega) (by omega)).mono ?_
    rintro e w7 ⟨bb, rfl, hs7, hk7⟩
    have S7 := Lib.hid (Sv6.out.keep hk7 hs7 hbl2)
    clear hs7 hk7 Sv6
    cases bb with
    | false =>
      go_wp2_with fail
      go_ret
      exact ⟨es2, _, HFIT2.out, by omega, rfl,  (S7.out.gr.own.lower hz3), HB2.out.trans (S7.out.kept.below (by omega) (by omega))⟩
    | true =>
      go_wp2_with fail
      refine (edge_any w.heap.size a len cap w7 S7.out.src (HR.out.kept (HK2.out.trans S7.out.kept))).mono ?_
      rintro e w8 ⟨p, ⟨hp0, hp1⟩, rfl, hs8, hk8⟩
      have S8 := Lib.hid (S7.out.keep hk8 hs8 hbl2)
      clear hs8 hk8 S7
      go_wp2_with fail
      refine (edge_any w.heap.size a len cap w8 S8.out.src (HR.out.kept (HK2.out.trans S8.out.kept))).mono ?_
      rintro e w9 ⟨q, -, rfl, hs9, hk9⟩
      have S9 := Lib.hid (S8.out.keep hk9 hs9 hbl2)
      clear hs9 hk9 S8
      go_wp2_with ((with_reducible show wpList _ _ _ (⟨some 29, _, _, _, _, _⟩ :: _) _ _); refine wpList_append_gr (lo := w2.heap.size) (e := 40) (sz := 2) (v := .slice ea es2.length cc) (n := es2.length) (xs := extCs es2) rfl (.tmp 22) (.tmp 28) 26 rfl i0 _ 16 Try.underlying26 hi hz0 hz1 hz2 rfl (by decide) rfl (by rw [extCs_length]) ?_ ⟨w9.heap.size, 0, none⟩ 1 1 rfl [.int .i64 p, .int .i64 q] (by decide) rfl ?_ ?_ (by unfold maxLen; omega) (by omega) (by simp; have := S9.out.kept.size; omega) ?_)
      · exact (S9.out.next (below_alloc1 w9 _) hbl2).gr
      · exact two_new w9 (.int .i64 p) (.int .i64 q) 40
      · intro u hu; simp at hu; rcases hu with rfl | rfl <;> rfl
      intro g9 c9 w10 hgn hgr hloc
      have Sw10 := Lib.hid ((S9.out.next (below_alloc1 w9 _) hbl2).grow hbl2 (p, q) g9 c9 hgn hgr)
      clear hgn hgr hloc
      go_wp2_with fail
      go_ret
      exact ⟨es2 ++ [(p, q)], _, fit_snoc HFIT2.out hp0 hp1, by simp; omega, rfl, by have := Sw10.out.gr.own.lower (lo' := w.heap.size) hz3; simpa using this, HB2.out.trans (Sw10.out.kept.below (by omega) (by omega))⟩

set_option maxHeartbeats 2000000 in
set_option maxRecDepth 100000 in
theorem drawBits_any (a : Option Addr) (len cap : Nat) (w : World) (hB : Bytes w a len) (hl : len ≤ 1048576) :
    Calls Try.prog 17 #[.slice a len cap] w fun e w' => ∃ v : Int, (-9223372036854775808 ≤ v ∧ v ≤ 9223372036854775807) ∧ e = .returned (.int .i64 v) ∧ Below w.heap.size w w' := by
  have HB := Lib.hid hB
  clear hB
  go_enter Try.func17, Try.ntmps17
  go_wp2_with fail
  refine (source_any a len cap w HB.out hl).mono ?_
  rintro e w1 ⟨rfl, hs1, hb1⟩
  have hbl := hs1.lt
  have HS1 := Lib.hid hs1
  have HR := Lib.hid (HB.out.row hb1 (Nat.le_refl _))
  have HB1 := Lib.hid hb1
  have hy1 := hb1.size
  clear hs1 hb1
  go_wp2_with fail
  refine (one_any w.heap.size a len cap 5 w1 HS1.out HR.out (by omega) (by omega)).mono ?_
  rintro e w2 ⟨bb, rfl, hs2, hk2⟩
  have HS2 := Lib.hid hs2
  have HK2 := Lib.hid hk2
  clear hs2 hk2 HS1
  cases bb with
  | true =>
    go_wp2_with fail
    refine (edge_any w.heap.size a len cap w2 HS2.out (HR.out.kept HK2.out)).mono ?_
    rintro e w3 ⟨p, hp, rfl, hs3, hk3⟩
    have HK3 := Lib.hid (HK2.out.trans hk3)
    have HS3 := Lib.hid hs3
    have hsz3 := hs3.lt
    clear hs3 hk3 HS2 HK2
    go_wp2_with fail
    have X := Lib.hid (bx_new w3 2 #[.int .i64 (-1), .int .i64 0, .int .i64 16777215, .int .i64 16777216, .int .i64 p])
    have hb4 := below_alloc1 w3 (.cells #[.int .i64 (-1), .int .i64 0, .int .i64 16777215, .int .i64 16777216, .int .i64 p] 2)
    have HS4 := Lib.hid (HS3.out.below hb4)
    have HK4 := Lib.hid (HK3.out.trans (below_kept hb4))
    clear hb4 HS3 HK3
    generalize w3.alloc (.cells #[.int .i64 (-1), .int .i64 0, .int .i64 16777215, .int .i64 16777216, .int .i64 p] 2) = w4 at *
    refine (n_any w.heap.size a len cap 5 w4 HS4.out (HR.out.kept HK4.out) (by omega) (by omega)).mono ?_
    rintro e w5 ⟨z, ⟨hz0, hz1⟩, rfl, hs5, hk5⟩
    have HK5 := Lib.hid (HK4.out.trans hk5)
    have hx5 : Bx w5 w3.heap.size 2 #[.int .i64 (-1), .int .i64 0, .int .i64 16777215, .int .i64 16777216, .int .i64 p] := (hk5.block _ X.out.lt (fun e => by have := Option.some.inj e; omega)).trans X.out
    obtain ⟨j, rfl⟩ := Int.eq_ofNat_of_zero_le hz0
    obtain ⟨f, hf, hfb⟩ : ∃ f : Int, w5.cell? ⟨w3.heap.size, j, none⟩ = some (.int .i64 f) ∧ (-9223372036854775808 ≤ f ∧ f ≤ 9223372036854775807) := by
      have hj : j = 0 ∨ j = 1 ∨ j = 2 ∨ j = 3 ∨ j = 4 := by omega
      rcases hj with rfl | rfl | rfl | rfl | rfl
      · exact ⟨-1, hx5.cell 0, by omega⟩
      · exact ⟨0, hx5.cell 1, by omega⟩
      · exact ⟨16777215, hx5.cell 2, by omega⟩
      · exact ⟨16777216, hx5.cell 3, by omega⟩
      · exact ⟨p, hx5.cell 4, hp⟩
    clear hs5 hk5 hx5 X HS4 HK4
    generalize w3.heap.size = n3 at *
    have e1 : (j : Int) < 5 := by omega
    have e2 : j < 5 := by omega
    go_wp2_with fail
    go_ret
    exact ⟨f, hfb, rfl, HB1.out.trans (HK5.out.below (Nat.le_refl _) hy1)⟩
  | false =>
    go_wp2_with fail
    refine (n_any w.heap.size a len cap 256 w2 HS2.out (HR.out.kept HK2.out) (by omega) (by omega)).mono ?_
    rintro e w3 ⟨x, ⟨hx0, hx1⟩, rfl, hs3, hk3⟩
    have HK3 := Lib.hid (HK2.out.trans hk3)
    have HS3 := Lib.hid hs3
    clear hs3 hk3 HS2 HK2
    go_wp2_with fail
    refine (n_any w.heap.size a len cap 256 w3 HS3.out (HR.out.kept HK3.out) (by omega) (by omega)).mono ?_
    rintro e w4 ⟨y, ⟨hy0, hy1'⟩, rfl, hs4, hk4⟩
    have HK4 := Lib.hid (HK3.out.trans hk4)
    have HS4 := Lib.hid hs4
    clear hs4 hk4 HS3 HK3
    go_wp2_with fail
    refine (n_any w.heap.size a len cap 256 w4 HS4.out (HR.out.kept HK4.out) (by omega) (by omega)).mono ?_
    rintro e w5 ⟨z, ⟨hz0, hz1⟩, rfl, hs5, hk5⟩
    have HK5 := Lib.hid (HK4.out.trans hk5)
    clear hs5 hk5 HS4 HK4
    obtain ⟨m1, m2, m3, m4⟩ := draw_num x y z hx0 hx1 hy0 hy1' hz0 hz1
    go_wp2_with fail
    go_ret
    exact ⟨_, by omega, rfl, HB1.out.trans (HK5.out.below (Nat.le_refl _) hy1)⟩
end Go.Proofs.Ytmhmjofmafeidaa
