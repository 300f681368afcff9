/- The program's MetaRead, and its law. -/
import Derived.Test.YtocjjkjjojdpdaaDoorRRMMath
import Derived.Test.YtocjjkjjojdpdaaDoorRRIErrs
import Derived.Test.YtocjjkjjojdpdaaDoorRRIMeta
namespace Go.Proofs.YtocjjkjjojdpdaaDoorRR
open Go.RowKit

/-- Which error a code is. -/
def errI (c : Int) : Nat := if c = 2 then 0 else if c = 4 then 1 else if c = 5 then 2 else 3
def badV (a : Nat → Addr) (c : Int) : Value := .iface 50 (.agg #[.iface 97 (.pointer (some (a (errI c))))])
/-- What readCopy gives. -/
def copyV (a : Nat → Addr) (R : Int × ByteArray × Int) : Value :=
  if R.2.2 = 0 then .tuple #[.agg #[.int .i64 0, .int .i64 R.1, .string R.2.1], .nilIface] else .tuple #[.agg #[.int .i64 0, .int .i64 0, .string ⟨#[]⟩], badV a R.2.2]
theorem sealErr {c : Int} (hc : c = 2 ∨ c = 4 ∨ c = 5) (w : World) (a : Nat → Addr) (h : Sents w a) : Calls Tryd.prog 20 #[.int .i64 c] w fun e w' => e = .returned (.iface 97 (.pointer (some (a (errI c))))) ∧ w' = w := by
  rcases hc with rfl | rfl | rfl
  · exact sealErr0 w a h
  · exact sealErr1 w a h
  · exact sealErr2 w a h
theorem metaCode {c : Int} (hc : c = 2 ∨ c = 4 ∨ c = 5 ∨ c = 3) (w : World) (a : Nat → Addr) (h : Sents w a) : Calls Tryd.prog 12 #[badV a c] w fun e w' => e = .returned (.int .i64 c) ∧ Below w.heap.size w w' := by
  rcases hc with rfl | rfl | rfl | rfl
  · exact metaCode0 w a h
  · exact metaCode1 w a h
  · exact metaCode2 w a h
  · exact metaCode3 w a h
theorem metaR_code (s : ByteArray) : (metaR s).2.2 = 0 ∨ ((metaR s).2.2 = 2 ∨ (metaR s).2.2 = 4 ∨ (metaR s).2.2 = 5 ∨ (metaR s).2.2 = 3) ∧ metaR s = (0, ⟨#[]⟩, (metaR s).2.2) := by
  unfold metaR
  split
  · split
    · exact .inl rfl
    · exact .inr ⟨.inr (.inr (.inr rfl)), rfl⟩
  · rename_i h
    refine .inr ⟨?_, rfl⟩
    rcases unsealT_code s with h1 | h1 | h1 | h1
    · exact absurd h1 h
    · exact .inl h1
    · exact .inr (.inl h1)
    · exact .inr (.inr (.inl h1))

set_option maxHeartbeats 4000000 in
set_option maxRecDepth 100000 in
theorem readCopy (s : ByteArray) (a : Nat → Addr) (w : World) (hs : s.size ≤ maxLen) (hL : Laid w) (hE : Sents w a) :
    Calls Tryd.prog 11 #[.string s] w fun e w' => e = .returned (copyV a (metaR s)) ∧ Below w.heap.size w w' := by
  obtain ⟨R, hR⟩ : ∃ R, R = metaR s := ⟨_, rfl⟩
  rw [← hR]
  rw [metaR_cmp] at hR
  have hus := unsealT_size s
  have hucode := unsealT_code s
  have HU := Lib.hid (fun w => implUnsealT s w hs)
  obtain ⟨t, ht⟩ : ∃ t, t = (unsealT s).1 := ⟨_, rfl⟩
  obtain ⟨cu, hcu⟩ : ∃ cu, cu = (unsealT s).2 := ⟨_, rfl⟩
  rw [← ht, ← hcu] at hR
  rw [← ht] at hus
  rw [← hcu] at hucode
  rw [← ht, ← hcu] at HU
  clear ht hcu
  have htm : t.size ≤ maxLen := by unfold maxLen; omega
  have hat := getR_at t 0 htm
  have HN := Lib.hid (fun w => implGet_any t 0 w htm (by decide))
  obtain ⟨n, hn⟩ : ∃ n, n = (getR t 0).1 := ⟨_, rfl⟩
  obtain ⟨q, hq⟩ : ∃ q, q = (getR t 0).2.1 := ⟨_, rfl⟩
  obtain ⟨cn, hcn⟩ : ∃ cn, cn = (getR t 0).2.2 := ⟨_, rfl⟩
  unfold numV at HN
  rw [← hn, ← hq] at hR
  rw [← hn, ← hq, ← hcn] at HN
  rw [← hq] at hat
  clear hn hq hcn
  have hts := textR_size t q
  have HT := Lib.hid (fun w => implTextR t q w htm (by omega))
  obtain ⟨x, hx⟩ : ∃ x, x = (textR t q).1 := ⟨_, rfl⟩
  obtain ⟨xa, hxa⟩ : ∃ xa, xa = (textR t q).2.1 := ⟨_, rfl⟩
  obtain ⟨cx, hcx⟩ : ∃ cx, cx = (textR t q).2.2 := ⟨_, rfl⟩
  unfold textV at HT
  rw [← hx, ← hxa, ← hcx] at HT
  rw [← hx] at hR
  rw [← hx] at hts
  clear hx hxa hcx
  have HM := Lib.hid (fun w => implMetaB n x w (by unfold maxLen; omega))
  obtain ⟨M, hM⟩ : ∃ M, M = metaB n x := ⟨_, rfl⟩
  rw [← hM] at hR HM
  clear hM
  have H0 := Lib.hid hR
  have HL := Lib.hid hL
  have HE := Lib.hid hE
  clear hR hL hE
  go_enter Tryd.func11, Tryd.ntmps11
  go_wp2_with fail
  have Y0 := Lib.hid (bx_new w 36 #[.int .i64 0, .int .i64 0, .string { data := #[] }])
  have b0 := below_alloc1 w (.cells #[.int .i64 0, .int .i64 0, .string { data := #[] }] 36)
  have z0 := size_alloc1 w (.cells #[.int .i64 0, .int .i64 0, .string { data := #[] }] 36)
  generalize w.alloc (.cells #[.int .i64 0, .int .i64 0, .string { data := #[] }] 36) = W0 at *
  have B0 := Lib.hid b0
  clear b0
  refine (HU.out W0).mono ?_
  rintro e w1 ⟨rfl, hb1⟩
  have g1 : W0.heap.size ≤ w1.heap.size := hb1.size
  have b1 := below_alloc1 w1 (.cells #[.string t, .int .i64 0, .int .i64 cu] 28)
  have b01 := hb1.trans (b1.mono g1)
  have z1 := size_alloc1 w1 (.cells #[.string t, .int .i64 0, .int .i64 cu] 28)
  have Y1 := Lib.hid (Y0.out.next b01)
  have B1 := Lib.hid (B0.out.trans (b01.mono (by omega)))
  have U1 := Lib.hid (bx_new w1 28 #[.string t, .int .i64 0, .int .i64 cu])
  clear hb1 b1 b01 Y0 B0
  by_cases hcu : cu = 0
  · subst hcu
    have H1 := Lib.hid (H0.out.trans (if_pos rfl))
    clear H0
    go_wp2_with fail
    generalize w1.alloc (.cells #[.string t, .int .i64 0, .int .i64 0] 28) = W1 at *
    generalize w1.heap.size = n1 at *
    clear w1
    refine (HN.out W1 (HL.out.below B1.out)).mono ?_
    rintro e w2 ⟨rfl, hb2⟩
    have g2 : W1.heap.size ≤ w2.heap.size := hb2.size
    have b2 := below_alloc1 w2 (.cells #[.int .i64 n, .int .i64 q, .int .i64 cn] 31)
    have z2 := size_alloc1 w2 (.cells #[.int .i64 n, .int .i64 q, .int .i64 cn] 31)
    have b12 := hb2.trans (b2.mono g2)
    have u2 := U1.out.next b12
    have k0 := u2.t0
    have Y2 := Lib.hid (Y1.out.next b12)
    have B2 := Lib.hid (B1.out.trans (b12.mono (by omega)))
    have N2 := Lib.hid (bx_new w2 31 #[.int .i64 n, .int .i64 q, .int .i64 cn])
    clear hb2 b2 b12 u2 Y1 B1 U1
    go_wp2_with fail
    generalize w2.alloc (.cells #[.int .i64 n, .int .i64 q, .int .i64 cn] 31) = W2 at *
    generalize w2.heap.size = n2 at *
    clear w2
    clear k0
    refine (HT.out W2 (HL.out.below B2.out)).mono ?_
    rintro e w3 ⟨rfl, hb3⟩
    have g3 : W2.heap.size ≤ w3.heap.size := hb3.size
    have b3 := below_alloc1 w3 (.cells #[.string x, .int .i64 xa, .int .i64 cx] 28)
    have z3 := size_alloc1 w3 (.cells #[.string x, .int .i64 xa, .int .i64 cx] 28)
    have b23 := hb3.trans (b3.mono g3)
    have v3 := N2.out.next b23
    have k0 := v3.t0
    have Y3 := Lib.hid (Y2.out.next b23)
    have N3 := Lib.hid v3
    have X3 := Lib.hid (bx_new w3 28 #[.string x, .int .i64 xa, .int .i64 cx])
    have B3 := Lib.hid (B2.out.trans (b23.mono (by omega)))
    clear hb3 b3 b23 v3 Y2 N2 B2
    go_wp2_with fail
    generalize w3.alloc (.cells #[.string x, .int .i64 xa, .int .i64 cx] 28) = W3 at *
    generalize w3.heap.size = n3 at *
    clear w3
    clear k0
    refine (HM.out W3).mono ?_
    rintro e w4 ⟨rfl, hb4⟩
    have g4 : W3.heap.size ≤ w4.heap.size := hb4.size
    have y4 := Y3.out.next hb4
    have v4 := N3.out.next hb4
    have x4 := X3.out.next hb4
    have r0 := y4.t0
    have r1 := y4.t1
    have r2 := y4.t2
    have s0 := y4.frozen 0
    have s1 := y4.frozen 1
    have s2 := y4.frozen 2
    have k0 := v4.t0
    have l0 := x4.t0
    have B4 := Lib.hid (B3.out.trans (hb4.mono (by omega)))
    have E4 := Lib.hid (HE.out.next B4.out)
    clear hb4 y4 v4 x4
    by_cases hm : (M.toList == s.toList) = true
    · have hO : R = (n, x, 0) := by rw [H1.out, if_pos hm]
      clear H1
      subst hO
      have d1 : (M.toList != s.toList) = false := by simp [bne, hm]
      go_wp2_with fail
      refine bodyPost_ret (v := copyV a (n, x, 0)) (by simp [copyV, results, Tryd.results11, go_sem, r0, r1, r2]) rfl ⟨rfl, ?_⟩
      exact ((B4.out.setCell (p := ⟨w.heap.size, 0, none⟩) (Nat.le_refl _) _).setCell (p := ⟨w.heap.size, 1, none⟩) (Nat.le_refl _) _).setCell (p := ⟨w.heap.size, 2, none⟩) (Nat.le_refl _) _
    · have hm' : (M.toList == s.toList) = false := by simpa using hm
      have d1 : (M.toList != s.toList) = true := by simp [bne, hm']
      have hO : R = (0, ⟨#[]⟩, 3) := by rw [H1.out, if_neg hm]
      clear H1
      subst hO
      have e3 := E4.out.c3
      have hgl : 0 < w.heap.size := cell_lt HE.out.c3
      have hgn : ¬ w.heap.size = 0 := by omega
      have hgm : ¬ 0 = w.heap.size := by omega
      have e3' : (((w4.setCell ⟨w.heap.size, 0, none⟩ (.int .i64 0)).setCell ⟨w.heap.size, 1, none⟩ (.int .i64 0)).setCell ⟨w.heap.size, 2, none⟩ (.string { data := #[] })).cell? ⟨0, 0, none⟩ = some (.iface 97 (.pointer (some (a 3)))) := by
        rw [World.cell?_setCell_other (h := by simp [hgm]), World.cell?_setCell_other (h := by simp [hgm]), World.cell?_setCell_other (h := by simp [hgm])]; exact e3
      go_wp2_with fail
      go_region
      all_goals (
        go_wp2_with fail
        refine bodyPost_ret (v := copyV a (0, ⟨#[]⟩, 3)) (by simp [copyV, badV, errI, results, Tryd.results11, go_sem, r0, r1, r2]) rfl ⟨rfl, ?_⟩
        have hfin := ((B4.out.setCell (p := ⟨w.heap.size, 0, none⟩) (Nat.le_refl _) (.int .i64 0)).setCell (p := ⟨w.heap.size, 1, none⟩) (Nat.le_refl _) (.int .i64 0)).setCell (p := ⟨w.heap.size, 2, none⟩) (Nat.le_refl _) (.string { data := #[] })
        first | exact hfin | exact hfin.drew)
  · have hO : R = (0, ⟨#[]⟩, cu) := by rw [H0.out, if_neg hcu]
    clear H0
    subst hO
    have d0 : (cu != 0) = true := by simpa using hcu
    have hcc : cu = 2 ∨ cu = 4 ∨ cu = 5 := by rcases hucode with h | h | h | h; exact absurd h hcu; exact .inl h; exact .inr (.inl h); exact .inr (.inr h)
    have hE1 := HE.out.next B1.out
    have y1 := Y1.out
    have r0 := y1.t0
    have r1 := y1.t1
    have r2 := y1.t2
    have s0 := y1.frozen 0
    have s1 := y1.frozen 1
    have s2 := y1.frozen 2
    have E1 := Lib.hid hE1
    have HC := Lib.hid hcc
    clear hE1 y1 hucode hcc
    go_wp2_with fail
    refine (sealErr HC.out _ a E1.out).mono ?_
    rintro e w2 ⟨rfl, rfl⟩
    go_wp2_with fail
    refine bodyPost_ret (v := copyV a (0, ⟨#[]⟩, cu)) (by simp [copyV, badV, hcu, results, Tryd.results11, go_sem, r0, r1, r2]) rfl ⟨rfl, ?_⟩
    exact ((B1.out.setCell (p := ⟨w.heap.size, 0, none⟩) (Nat.le_refl _) _).setCell (p := ⟨w.heap.size, 1, none⟩) (Nat.le_refl _) _).setCell (p := ⟨w.heap.size, 2, none⟩) (Nat.le_refl _) _
end Go.Proofs.YtocjjkjjojdpdaaDoorRR
