/- The drawn lists of the area: spec.l01Src.l05List, spec.DrawReserve. -/
import Derived.Test.YtmhmjofmafeidaaADraw
namespace Go.Proofs.Ytmhmjofmafeidaa
open Go.RowKit

theorem LdSt.from {b : Nat} {a : Option Addr} {len cap : Nat} {w w1 w2 : World} {fs : List Int} {v : Value} (h : LdSt b a len cap w1 fs v w2) (hk : Kept b w w1) : LdSt b a len cap w fs v w2 :=
  ⟨h.gr.lower hk.size, h.adr, h.src, hk.trans h.kept⟩
theorem row_one (w : World) (x : Value) (lo : Nat) (T : TypeId) (h : lo ≤ w.heap.size) : (w.alloc (.cells #[x] T)).ownsRow lo T 1 (.slice (some ⟨w.heap.size, 0, none⟩) 1 1) 1 [x] :=
  ⟨rfl, .inr ⟨w.heap.size, 1, #[x], rfl, h, bx_new w T #[x], Nat.le_refl _, by unfold maxLen; omega, rfl, rfl⟩⟩
set_option maxHeartbeats 4000000 in
set_option maxRecDepth 100000 in
theorem l05List_any (b : Nat) (a : Option Addr) (len cap : Nat) (w : World) (hS : Src w b a len cap) (hR : Row w a len b) :
    Calls Try.prog 45 #[.pointer (some ⟨b, 0, none⟩)] w (DrawnL b a len cap 26 w) := by
  obtain ⟨i0, hi, hz0, hz1, hz2⟩ := info_parts Try.info2
  have hbl := hS.lt
  have HR := Lib.hid hR
  have HS := Lib.hid hS
  clear hS hR
  go_enter Try.func45, Try.ntmps45
  go_wp2_with fail
  refine (n_any b a len cap 4 w HS.out HR.out (by omega) (by omega)).mono ?_
  rintro e w1 ⟨x, ⟨hx0, hx1⟩, rfl, hs1, hk1⟩
  have m0 : wrap64 (2 + x) = 2 + x := IntWalk.wrap64_in _ (by omega)
  have HS1 := Lib.hid hs1
  have HK1 := Lib.hid hk1
  clear hs1 hk1
  go_wp2_with fail
  refine (rising_any b a len cap (2 + x) w1 HS1.out (HR.out.kept HK1.out) (by omega) (by omega)).mono ?_
  rintro e w2 ⟨fs, v, hlen, rfl, hst⟩
  obtain ⟨x3, c3, rfl⟩ := hst.adr
  have ST := Lib.hid (hst.from HK1.out)
  clear hst m0 HS1 HK1
  go_wp2_with fail
  refine (one_any b a len cap 15 w2 ST.out.src (HR.out.kept ST.out.kept) (by omega) (by omega)).mono ?_
  rintro e w3 ⟨bb, rfl, hs2, hk2⟩
  have ST2 := Lib.hid (ST.out.keep hk2 hs2 hbl)
  clear hs2 hk2 ST
  cases bb with
  | false =>
    go_wp2_with fail
    go_ret
    exact ⟨fs, _, by omega, rfl, ST2.out⟩
  | true =>
    go_wp2_with fail
    refine (n_any b a len cap 3 w3 ST2.out.src (HR.out.kept ST2.out.kept) (by omega) (by omega)).mono ?_
    rintro e w4 ⟨y, ⟨hy0, hy1⟩, rfl, hs4, hk4⟩
    have ST4 := Lib.hid (ST2.out.keep hk4 hs4 hbl)
    clear hs4 hk4 ST2
    have hz4 : w.heap.size ≤ w4.heap.size := ST4.out.kept.size
    have hy : y = 0 ∨ y = 1 ∨ y = 2 := by omega
    clear hy0 hy1
    rcases hy with rfl | rfl | rfl
    · go_wp2_with fail
      refine (n_any b a len cap 26 w4 ST4.out.src (HR.out.kept ST4.out.kept) (by omega) (by omega)).mono ?_
      rintro e w5 ⟨z, ⟨hz0', hz1'⟩, rfl, hs5, hk5⟩
      have ST5 := Lib.hid (ST4.out.keep hk5 hs5 hbl)
      clear hs5 hk5 ST4
      have hz5 : w.heap.size ≤ w5.heap.size := ST5.out.kept.size
      have m1 : wrap64 (z - 1) = z - 1 := IntWalk.wrap64_in _ (by omega)
      have m2 : IntKind.i64.wrap (z - 1) = z - 1 := IntWalk.i64_in _ (by omega)
      go_wp2_with ((with_reducible show wpList _ _ _ (⟨some 25, _, _, _, _, _⟩ :: _) _ _); refine wpList_append_gr (lo := w.heap.size) (e := 2) (sz := 1) (v := .slice (some x3) fs.length c3) (n := fs.length) (xs := ints fs) rfl (.tmp 20) (.tmp 24) 23 rfl i0 _ 8 Try.underlying23 hi hz0 hz1 hz2 rfl (by decide) rfl (by rw [ints_length]; omega) ?_ ⟨w5.heap.size, 0, none⟩ 1 1 rfl [.int .i64 (z - 1)] (by decide) rfl ?_ ?_ (by unfold maxLen; omega) (by omega) (by simp; omega) ?_)
      · exact (ST5.out.next (below_alloc1 w5 _) hbl).gr
      · exact one_new w5 2 (.int .i64 (z - 1))
      · intro u hu; simp at hu; subst hu; rfl
      · intro gg cc w6 hgn hgr hloc
        have ST6 := Lib.hid ((ST5.out.next (below_alloc1 w5 _) hbl).grow hbl (z - 1) gg cc hgn hgr)
        clear hgn hgr hloc m1 m2
        go_wp2_with fail
        go_ret
        exact ⟨fs ++ [z - 1], _, by simp; omega, rfl, by have := ST6.out; simpa using this⟩
    · have hrow := row_one w4 (.int .i64 5) w.heap.size 2 hz4
      have hcs : ∀ j u, (ints fs)[j]? = some u → (w4.alloc (.cells #[.int .i64 5] 2)).cell? (x3.add j) = some u := fun j u hj => by
        have hb := below_alloc1 w4 (.cells #[.int .i64 5] 2)
        have hj' : j < fs.length := by
          have := (List.getElem?_eq_some_iff.1 hj).1
          rwa [ints_length] at this
        obtain ⟨bk, off, e3, hbk, hc⟩ := (ST4.out.gr.own.rd.below hb (Nat.le_refl _)).get (by omega)
        simp at e3
        subst e3
        rw [Addr.add_lit, hc j (by omega), hj]
      have HCS := Lib.hid hcs
      clear hcs
      go_wp2_with ((with_reducible show wpList _ _ _ (⟨some 30, _, _, _, _, _⟩ :: _) _ _); refine wpList_append_own _ rfl (.tmp 28) (.tmp 29) 23 rfl w.heap.size 2 i0 _ 1 8 Try.underlying23 hi hz0 hz1 hz2 rfl (by decide) _ _ _ rfl hrow x3 fs.length c3 (ints fs) rfl (by rw [ints_length]; omega) HCS.out ?_ (by unfold maxLen; omega) (by omega) (by simp; omega) ?_)
      · intro u hu; simp [ints] at hu; obtain ⟨q, _, rfl⟩ := hu; rfl
      · intro v' w6 hown hgr hnil
        obtain ⟨g, cc, hv, -, -⟩ := hown.form (by omega)
        have hbw : Below w4.heap.size w4 w6 := (below_alloc1 w4 _).trans ((Below.refl _ _).grown hgr (by simp) (by intro k hk; simp [Value.ownBlock] at hk; omega))
        have ST6 := Lib.hid (show LdSt b a len cap w ((5 : Int) :: fs) v' w6 from ⟨.inl ⟨by simp, by simpa [ints, Nat.add_comm] using hown⟩, ⟨_, _, by rw [hv]; simp [Nat.add_comm]; exact ⟨rfl, rfl⟩⟩, ST4.out.src.below hbw, ST4.out.kept.trans (below_kept hbw)⟩)
        subst hv
        clear hown hgr hnil hbw hrow
        go_wp2_with fail
        go_ret
        exact ⟨(5 : Int) :: fs, _, by simp; omega, rfl, ST6.out⟩
    · go_wp2_with fail
      refine (n_any b a len cap 2 w4 ST4.out.src (HR.out.kept ST4.out.kept) (by omega) (by omega)).mono ?_
      rintro e w5 ⟨z, ⟨hz0', hz1'⟩, rfl, hs5, hk5⟩
      have ST5 := Lib.hid (ST4.out.keep hk5 hs5 hbl)
      clear hs5 hk5 ST4
      have m1 : wrap64 (24 + z) = 24 + z := IntWalk.wrap64_in _ (by omega)
      obtain ⟨q, hq⟩ : ∃ q : Nat, 24 + z = (q : Int) := ⟨(24 + z).toNat, by omega⟩
      have hq2 : q ≤ 26 := by omega
      rw [hq] at m1
      go_wp2_with fail
      refine (list_any b a len cap q 0 23 w5 ST5.out.src (HR.out.kept ST5.out.kept) (by omega) (by omega) (by omega) (by omega)).mono ?_
      rintro e w6 ⟨gs, v6, hlen6, rfl, hst6⟩
      obtain ⟨x6, c6, rfl⟩ := hst6.adr
      have ST6 := Lib.hid (hst6.from ST5.out.kept)
      clear hst6 m1
      go_wp2_with fail
      go_ret
      exact ⟨gs, _, by omega, rfl, ST6.out⟩
end Go.Proofs.Ytmhmjofmafeidaa
