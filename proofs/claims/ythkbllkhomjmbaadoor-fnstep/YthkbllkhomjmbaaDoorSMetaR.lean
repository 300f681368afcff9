/- The model's MetaRead. -/
import Derived.Test.YthkbllkhomjmbaaDoorSMeta
import Derived.Test.YthkbllkhomjmbaaDoorUnseal
import Derived.Test.YthkbllkhomjmbaaDoorGTextLaw
import Derived.Test.YthkbllkhomjmbaaDoorLBox
namespace Go.Proofs.YthkbllkhomjmbaaDoor
open Go.RowKit

/-- A text read at x. -/
def textR (s : ByteArray) (x : Int) : ByteArray × Int × Int :=
  if (getR s x).2.2 = 0 then (if (getR s x).1 < 0 ∨ 8000 < (getR s x).1 then (⟨#[]⟩, 0, 3) else if (getR s x).2.1.toNat + (getR s x).1.toNat ≤ s.size then (s.extract (getR s x).2.1.toNat ((getR s x).2.1.toNat + (getR s x).1.toNat), ((getR s x).2.1.toNat : Int) + ((getR s x).1.toNat : Int), 0) else (⟨#[]⟩, 0, 4))
  else (⟨#[]⟩, 0, (getR s x).2.2)
theorem textR_size (s : ByteArray) (x : Int) : (textR s x).1.size ≤ s.size := by
  unfold textR
  split
  · split
    · exact Nat.zero_le _
    · split
      · simp; omega
      · exact Nat.zero_le _
  · exact Nat.zero_le _
theorem specTextR (s : ByteArray) (x : Int) (w : World) (hs : s.size ≤ maxLen) (hx : x ≤ 9223372036854775807) :
    Calls Tryd.prog 88 #[.string s, .int .i64 x] w fun e w' => e = .returned (textV (textR s x).1 (textR s x).2.1 (textR s x).2.2) ∧ Below w.heap.size w w' := by
  unfold textR
  by_cases hc : (getR s x).2.2 = 0
  · rw [if_pos hc]
    obtain ⟨h8, hq0, hq1⟩ := getR_ok s x hc
    have e : getR s x = ((getR s x).1, (getR s x).2.1, 0) := by rw [← hc]
    generalize (getR s x).1 = n at *
    generalize (getR s x).2.1 = q at *
    by_cases hn : n < 0 ∨ 8000 < n
    · rw [if_pos hn]; exact specText_B s x w hs hx n q e hn
    · rw [if_neg hn]
      obtain ⟨m, rfl⟩ := Int.eq_ofNat_of_zero_le (show 0 ≤ n by omega)
      obtain ⟨k, rfl⟩ := Int.eq_ofNat_of_zero_le hq0
      simp only [Int.toNat_natCast]
      by_cases hk : k + m ≤ s.size
      · rw [if_pos hk]; exact specText_D s x w hs hx m k e h8 (by omega) hk
      · rw [if_neg hk]; exact specText_C s x w hs hx m k e h8 (by omega) (by omega) (by omega)
  · rw [if_neg hc]
    exact specText_A s x w hs hx _ (getR_bad s x hc) (by rw [bne_iff_ne]; exact hc)
theorem implTextR (s : ByteArray) (x : Int) (w : World) (hs : s.size ≤ maxLen) (hx : x ≤ 9223372036854775807) (hL : Laid w) :
    Calls Tryd.prog 18 #[.string s, .int .i64 x] w fun e w' => e = .returned (textV (textR s x).1 (textR s x).2.1 (textR s x).2.2) ∧ Below w.heap.size w w' := by
  unfold textR
  by_cases hc : (getR s x).2.2 = 0
  · rw [if_pos hc]
    obtain ⟨h8, hq0, hq1⟩ := getR_ok s x hc
    have e : getR s x = ((getR s x).1, (getR s x).2.1, 0) := by rw [← hc]
    generalize (getR s x).1 = n at *
    generalize (getR s x).2.1 = q at *
    by_cases hn : n < 0 ∨ 8000 < n
    · rw [if_pos hn]; exact implText_B s x w hs hx hL n q e hn
    · rw [if_neg hn]
      obtain ⟨m, rfl⟩ := Int.eq_ofNat_of_zero_le (show 0 ≤ n by omega)
      obtain ⟨k, rfl⟩ := Int.eq_ofNat_of_zero_le hq0
      simp only [Int.toNat_natCast]
      by_cases hk : k + m ≤ s.size
      · rw [if_pos hk]; exact implText_D s x w hs hx hL m k e h8 (by omega) hk
      · rw [if_neg hk]; exact implText_C s x w hs hx hL m k e h8 (by omega) (by omega) (by omega)
  · rw [if_neg hc]
    exact implText_A s x w hs hx hL _ (getR_bad s x hc) (by rw [bne_iff_ne]; exact hc)
theorem getR_at (s : ByteArray) (x : Int) (hs : s.size ≤ maxLen) : 0 ≤ (getR s x).2.1 ∧ (getR s x).2.1 ≤ 8000 := by
  by_cases hc : (getR s x).2.2 = 0
  · obtain ⟨h8, hq0, hq1⟩ := getR_ok s x hc
    exact ⟨hq0, by omega⟩
  · rw [getR_bad s x hc]; simp
/-- The metadata that a sector holds. -/
def metaR (s : ByteArray) : Int × ByteArray × Int :=
  if (unsealT s).2 = 0 then
    (if (getR (unsealT s).1 0).2.2 = 0 ∧ (textR (unsealT s).1 (getR (unsealT s).1 0).2.1).2.2 = 0 ∧ ((metaB (getR (unsealT s).1 0).1 (textR (unsealT s).1 (getR (unsealT s).1 0).2.1).1).toList == s.toList) = true
     then ((getR (unsealT s).1 0).1, (textR (unsealT s).1 (getR (unsealT s).1 0).2.1).1, 0) else (0, ⟨#[]⟩, 3))
  else (0, ⟨#[]⟩, (unsealT s).2)
def metaV (R : Int × ByteArray × Int) : Value := .agg #[.int .i64 R.1, .string R.2.1, .int .i64 R.2.2]

set_option maxHeartbeats 2000000 in
set_option maxRecDepth 100000 in
theorem specMetaR (s : ByteArray) (w : World) (hs : s.size ≤ maxLen) :
    Calls Tryd.prog 43 #[.string s] w fun e w' => e = .returned (metaV (metaR s)) ∧ Below w.heap.size w w' := by
  obtain ⟨R, hR⟩ : ∃ R, R = metaR s := ⟨_, rfl⟩
  rw [← hR]
  unfold metaR at hR
  have hus := unsealT_size s
  have HU := Lib.hid (fun w => specUnsealT s w hs)
  obtain ⟨t, ht⟩ : ∃ t, t = (unsealT s).1 := ⟨_, rfl⟩
  obtain ⟨cu, hcu⟩ : ∃ cu, cu = (unsealT s).2 := ⟨_, rfl⟩
  rw [← ht, ← hcu] at hR
  rw [← ht] at hus
  rw [← ht, ← hcu] at HU
  clear ht hcu
  have htm : t.size ≤ maxLen := by unfold maxLen; omega
  have hat := getR_at t 0 htm
  have HN := Lib.hid (fun w => specGet_any t 0 w htm (by decide))
  obtain ⟨n, hn⟩ : ∃ n, n = (getR t 0).1 := ⟨_, rfl⟩
  obtain ⟨q, hq⟩ : ∃ q, q = (getR t 0).2.1 := ⟨_, rfl⟩
  obtain ⟨cn, hcn⟩ : ∃ cn, cn = (getR t 0).2.2 := ⟨_, rfl⟩
  unfold numV at HN
  rw [← hn, ← hq, ← hcn] at hR HN
  rw [← hq] at hat
  clear hn hq hcn
  have hts := textR_size t q
  have HT := Lib.hid (fun w => specTextR t q w htm (by omega))
  obtain ⟨x, hx⟩ : ∃ x, x = (textR t q).1 := ⟨_, rfl⟩
  obtain ⟨xa, hxa⟩ : ∃ xa, xa = (textR t q).2.1 := ⟨_, rfl⟩
  obtain ⟨cx, hcx⟩ : ∃ cx, cx = (textR t q).2.2 := ⟨_, rfl⟩
  unfold textV at HT
  rw [← hx, ← hxa, ← hcx] at HT
  rw [← hx, ← hcx] at hR
  rw [← hx] at hts
  clear hx hxa hcx
  have HM := Lib.hid (fun w => specMetaB n x w (by unfold maxLen; omega))
  obtain ⟨M, hM⟩ : ∃ M, M = metaB n x := ⟨_, rfl⟩
  rw [← hM] at hR HM
  clear hM
  have H0 := Lib.hid hR
  clear hR
  go_enter Tryd.func43, Tryd.ntmps43
  go_wp2_with fail
  have Y0 := Lib.hid (bx_new w 57 #[.int .i64 0, .string { data := #[] }, .int .i64 0])
  have b0 := below_alloc1 w (.cells #[.int .i64 0, .string { data := #[] }, .int .i64 0] 57)
  have z0 := size_alloc1 w (.cells #[.int .i64 0, .string { data := #[] }, .int .i64 0] 57)
  generalize w.alloc (.cells #[.int .i64 0, .string { data := #[] }, .int .i64 0] 57) = W0 at *
  have B0 := Lib.hid b0
  clear b0
  refine (HU.out W0).mono ?_
  rintro e w1 ⟨rfl, hb1⟩
  have g1 : W0.heap.size ≤ w1.heap.size := hb1.size
  have b1 := below_alloc1 w1 (.cells #[.string t, .int .i64 0, .int .i64 cu] 31)
  have b01 := hb1.trans (b1.mono g1)
  have y1 := Y0.out.next b01
  have r0 := y1.t0
  have r1 := y1.t1
  have r2 := y1.t2
  have s0 := y1.frozen 0
  have s1 := y1.frozen 1
  have s2 := y1.frozen 2
  have z1 := size_alloc1 w1 (.cells #[.string t, .int .i64 0, .int .i64 cu] 31)
  have Y1 := Lib.hid y1
  have B1 := Lib.hid (B0.out.trans (b01.mono (by omega)))
  have U1 := Lib.hid (bx_new w1 31 #[.string t, .int .i64 0, .int .i64 cu])
  clear hb1 b1 b01 y1 Y0 B0
  by_cases hcu : cu = 0
  · subst hcu
    have H1 := Lib.hid (H0.out.trans (if_pos rfl))
    clear H0
    go_wp2_with fail
    generalize w1.alloc (.cells #[.string t, .int .i64 0, .int .i64 0] 31) = W1 at *
    generalize w1.heap.size = n1 at *
    clear w1
    clear r0 r1 r2 s0 s1 s2
    refine (HN.out W1).mono ?_
    rintro e w2 ⟨rfl, hb2⟩
    have g2 : W1.heap.size ≤ w2.heap.size := hb2.size
    have b2 := below_alloc1 w2 (.cells #[.int .i64 n, .int .i64 q, .int .i64 cn] 26)
    have z2 := size_alloc1 w2 (.cells #[.int .i64 n, .int .i64 q, .int .i64 cn] 26)
    have b12 := hb2.trans (b2.mono g2)
    have u2 := U1.out.next b12
    have k0 := u2.t0
    have Y2 := Lib.hid (Y1.out.next b12)
    have B2 := Lib.hid (B1.out.trans (b12.mono (by omega)))
    have N2 := Lib.hid (bx_new w2 26 #[.int .i64 n, .int .i64 q, .int .i64 cn])
    clear hb2 b2 b12 u2 Y1 B1 U1
    go_wp2_with fail
    generalize w2.alloc (.cells #[.int .i64 n, .int .i64 q, .int .i64 cn] 26) = W2 at *
    generalize w2.heap.size = n2 at *
    clear w2
    clear k0
    refine (HT.out W2).mono ?_
    rintro e w3 ⟨rfl, hb3⟩
    have g3 : W2.heap.size ≤ w3.heap.size := hb3.size
    have b3 := below_alloc1 w3 (.cells #[.string x, .int .i64 xa, .int .i64 cx] 31)
    have z3 := size_alloc1 w3 (.cells #[.string x, .int .i64 xa, .int .i64 cx] 31)
    have b23 := hb3.trans (b3.mono g3)
    have y3 := Y2.out.next b23
    have v3 := N2.out.next b23
    have r0 := y3.t0
    have r1 := y3.t1
    have r2 := y3.t2
    have s0 := y3.frozen 0
    have s1 := y3.frozen 1
    have s2 := y3.frozen 2
    have k0 := v3.t0
    have k1 := v3.t1
    have k2 := v3.t2
    have Y3 := Lib.hid y3
    have N3 := Lib.hid v3
    have X3 := Lib.hid (bx_new w3 31 #[.string x, .int .i64 xa, .int .i64 cx])
    have B3 := Lib.hid (B2.out.trans (b23.mono (by omega)))
    clear hb3 b3 b23 y3 v3 Y2 N2 B2
    by_cases hcn : cn = 0
    · by_cases hcx : cx = 0
      · subst hcn
        subst hcx
        go_wp2_with fail
        generalize w3.alloc (.cells #[.string x, .int .i64 xa, .int .i64 0] 31) = W3 at *
        generalize w3.heap.size = n3 at *
        clear w3
        clear r0 r1 r2 s0 s1 s2 k0 k1 k2
        refine (HM.out W3).mono ?_
        rintro e w4 ⟨rfl, hb4⟩
        have g4 : W3.heap.size ≤ w4.heap.size := hb4.size
        have y4 := Y3.out.next hb4
        have v4 := N3.out.next hb4
        have x4 := X3.out.next hb4
        have r0 := y4.t0
        have r1 := y4.t1
        have r2 := y4.t2
        have s0 := y4.frozen 0
        have s1 := y4.frozen 1
        have s2 := y4.frozen 2
        have k0 := v4.t0
        have l0 := x4.t0
        have B4 := Lib.hid (B3.out.trans (hb4.mono (by omega)))
        clear hb4 y4 v4 x4
        by_cases hm : (M.toList == s.toList) = true
        · have hO : R = (n, x, 0) := by have := H1.out; simpa [hm] using this
          clear H1
          subst hO
          have d1 : (M.toList != s.toList) = false := by simp [bne, hm]
          go_wp2_with fail
          refine bodyPost_ret (v := metaV (n, x, 0)) (by simp [metaV, results, Tryd.results43, go_sem, r0, r1, r2]) rfl ⟨rfl, ?_⟩
          exact ((B4.out.setCell (p := ⟨w.heap.size, 0, none⟩) (Nat.le_refl _) _).setCell (p := ⟨w.heap.size, 1, none⟩) (Nat.le_refl _) _).setCell (p := ⟨w.heap.size, 2, none⟩) (Nat.le_refl _) _
        · have hm' : (M.toList == s.toList) = false := by simpa using hm
          have d1 : (M.toList != s.toList) = true := by simp [bne, hm']
          have hO : R = (0, ⟨#[]⟩, 3) := by have := H1.out; simpa [hm'] using this
          clear H1
          subst hO
          go_wp2_with fail
          refine bodyPost_ret (v := metaV (0, ⟨#[]⟩, 3)) (by simp [metaV, results, Tryd.results43, go_sem, r0, r1, r2]) rfl ⟨rfl, ?_⟩
          exact ((B4.out.setCell (p := ⟨w.heap.size, 0, none⟩) (Nat.le_refl _) _).setCell (p := ⟨w.heap.size, 1, none⟩) (Nat.le_refl _) _).setCell (p := ⟨w.heap.size, 2, none⟩) (Nat.le_refl _) _
      · have NO := Lib.hid (show ¬ (cn = 0 ∧ cx = 0 ∧ (M.toList == s.toList) = true) from fun h => hcx h.2.1)
        subst hcn
        have d1 : (cx != 0) = true := by simpa using hcx
        clear hcx
        have hO : R = (0, ⟨#[]⟩, 3) := by rw [H1.out, if_neg NO.out]
        clear H1
        subst hO
        go_wp2_with fail
        refine bodyPost_ret (v := metaV (0, ⟨#[]⟩, 3)) (by simp [metaV, results, Tryd.results43, go_sem, r0, r1, r2]) rfl ⟨rfl, ?_⟩
        exact ((B3.out.setCell (p := ⟨w.heap.size, 0, none⟩) (Nat.le_refl _) _).setCell (p := ⟨w.heap.size, 1, none⟩) (Nat.le_refl _) _).setCell (p := ⟨w.heap.size, 2, none⟩) (Nat.le_refl _) _
    · have NO := Lib.hid (show ¬ (cn = 0 ∧ cx = 0 ∧ (M.toList == s.toList) = true) from fun h => hcn h.1)
      have d1 : (cn != 0) = true := by simpa using hcn
      clear hcn
      have hO : R = (0, ⟨#[]⟩, 3) := by rw [H1.out, if_neg NO.out]
      clear H1
      subst hO
      go_wp2_with fail
      refine bodyPost_ret (v := metaV (0, ⟨#[]⟩, 3)) (by simp [metaV, results, Tryd.results43, go_sem, r0, r1, r2]) rfl ⟨rfl, ?_⟩
      exact ((B3.out.setCell (p := ⟨w.heap.size, 0, none⟩) (Nat.le_refl _) _).setCell (p := ⟨w.heap.size, 1, none⟩) (Nat.le_refl _) _).setCell (p := ⟨w.heap.size, 2, none⟩) (Nat.le_refl _) _
  · have hO : R = (0, ⟨#[]⟩, cu) := by rw [H0.out, if_neg hcu]
    clear H0
    subst hO
    have d0 : (cu != 0) = true := by simpa using hcu
    go_wp2_with fail
    refine bodyPost_ret (v := metaV (0, ⟨#[]⟩, cu)) (by simp [metaV, results, Tryd.results43, go_sem, r0, r1, r2]) rfl ⟨rfl, ?_⟩
    exact ((B1.out.setCell (p := ⟨w.heap.size, 0, none⟩) (Nat.le_refl _) _).setCell (p := ⟨w.heap.size, 1, none⟩) (Nat.le_refl _) _).setCell (p := ⟨w.heap.size, 2, none⟩) (Nat.le_refl _) _
end Go.Proofs.YthkbllkhomjmbaaDoor
