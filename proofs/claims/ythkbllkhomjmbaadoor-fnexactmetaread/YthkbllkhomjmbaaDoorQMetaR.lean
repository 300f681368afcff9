/- The program's readCopy, metaError and metaCode. -/
import Derived.Test.YthkbllkhomjmbaaDoorMMath
import Derived.Test.YthkbllkhomjmbaaDoorKUns
import Derived.Test.YthkbllkhomjmbaaDoorIMeta
namespace Go.Proofs.YthkbllkhomjmbaaDoor
open Go.RowKit

def metaM : List Nat := [4, 6, 5]
abbrev metaG : List Nat := sealG ++ metaM
def metaW : ByteArray := ⟨#[109, 101, 116, 97, 100, 97, 116, 97]⟩
def errM (c : Int) : Nat := if c = 3 then 3 else errI c
theorem errM_seal {c : Int} (h : c = 2 ∨ c = 4 ∨ c = 5) : errM c = errI c := by unfold errM; rw [if_neg (by omega)]
/-- What readCopy gives. -/
def copyU (a : Nat → Addr) (R : Int × ByteArray × Int) : Value :=
  if R.2.2 = 0 then .tuple #[.agg #[.int .i64 0, .int .i64 R.1, .string R.2.1], .nilIface] else .tuple #[.agg #[.int .i64 0, .int .i64 0, .string ⟨#[]⟩], eL metaW (eP (a (errM R.2.2)))]
theorem Sent.m3 {w : World} {a : Nat → Addr} (h : Sent w metaG a) : w.cell? ⟨4, 0, none⟩ = some (.iface 178 (.pointer (some (a 3)))) := h.cell 3 (by simp [metaG, metaM, sealG])
theorem Sent.m4 {w : World} {a : Nat → Addr} (h : Sent w metaG a) : w.cell? ⟨6, 0, none⟩ = some (.iface 178 (.pointer (some (a 4)))) := h.cell 4 (by simp [metaG, metaM, sealG])
theorem Sent.m5 {w : World} {a : Nat → Addr} (h : Sent w metaG a) : w.cell? ⟨5, 0, none⟩ = some (.iface 178 (.pointer (some (a 5)))) := h.cell 5 (by simp [metaG, metaM, sealG])
theorem metaG_lt {i : Nat} (h : i < 6) : i < metaG.length := by simp [metaG, metaM, sealG]; omega
theorem metaError_any (t : TypeId) (v : Value) (w : World) : Calls Tryd.prog 112 #[.iface t v] w fun e w' => e = .returned (eL metaW (.iface t v)) ∧ w' = w := by
  go_enter Tryd.func112, Tryd.ntmps112
  go_wp2
  go_ret
  exact ⟨rfl, rfl⟩
theorem errM_lt {c : Int} (hc : c = 2 ∨ c = 4 ∨ c = 5 ∨ c = 3) : errM c < 4 := by
  unfold errM errI
  split
  · omega
  · split
    · omega
    · split <;> omega
set_option maxHeartbeats 1000000 in
theorem metaCode_any (c : Int) (hc : c = 2 ∨ c = 4 ∨ c = 5 ∨ c = 3) (a : Nat → Addr) (w : World) (hE : Sent w metaG a) :
    Calls Tryd.prog 91 #[eL metaW (eP (a (errM c)))] w fun e w' => e = .returned (.int .i64 c) ∧ Below w.heap.size w w' := by
  have B0 := Lib.hid (Below.refl w.heap.size w)
  have IS := Lib.hid (show ∀ (j : Nat) (w' : World), 4 ≤ j → j < 6 → Sent w' metaG a → Calls Tryd.prog 108 #[eL metaW (eP (a (errM c))), eP (a j)] w' fun e w'' => e = .returned (.bool false) ∧ Below w'.heap.size w' w'' from fun j w' h4 h6 hE' => by
    have hl := errM_lt hc
    obtain ⟨ca, ta, ha⟩ := hE'.row (errM c) (metaG_lt (by omega))
    obtain ⟨cb, tb, hb⟩ := hE'.row j (metaG_lt h6)
    exact is_LPo _ metaW _ w' (hE'.ne (errM c) j (metaG_lt (by omega)) (metaG_lt h6) (by omega)) ca cb ta tb ha hb)
  have SC := Lib.hid (show ∀ w', Sent w' metaG a → Calls Tryd.prog 71 #[eL metaW (eP (a (errM c)))] w' fun e w'' => e = .returned (.int .i64 c) ∧ Below w'.heap.size w' w'' from fun w' hE' => by
    by_cases h3 : c = 3
    · have he : errM c = 3 := by unfold errM; rw [if_pos h3]
      rw [he, h3]
      refine sealedCode_other _ _ metaM a w' hE' fun j hj w2 hb => ?_
      have hE2 := hE'.next hb
      obtain ⟨ca, ta, ha⟩ := hE2.row 3 (metaG_lt (by omega))
      obtain ⟨cb, tb, hb⟩ := hE2.row j (metaG_lt (by omega))
      exact is_LPo (a 3) metaW (a j) w2 (hE2.ne 3 j (metaG_lt (by omega)) (metaG_lt (by omega)) (by omega)) ca cb ta tb ha hb
    · have hc3 : c = 2 ∨ c = 4 ∨ c = 5 := by omega
      rw [errM_seal hc3]
      exact sealedCode_L metaW c hc3 metaM a w' hE')
  have H0 := Lib.hid hE
  have p5 := hE.m5
  clear hE
  generalize errM c = i at *
  unfold eL eP at IS SC ⊢
  go_enter Tryd.func91, Tryd.ntmps91
  go_wp2_with fail
  refine (IS.out 5 _ (by omega) (by omega) H0.out).mono ?_
  rintro e w1 ⟨rfl, hb⟩
  have H1 := Lib.hid (H0.out.next hb)
  have B1 := Lib.hid (B0.out.trans (hb.mono B0.out.size))
  have p4 := H1.out.m4
  clear hb p5 H0 B0
  go_wp2_with fail
  refine (IS.out 4 _ (by omega) (by omega) H1.out).mono ?_
  rintro e w2 ⟨rfl, hb⟩
  have H2 := Lib.hid (H1.out.next hb)
  have B2 := Lib.hid (B1.out.trans (hb.mono B1.out.size))
  clear hb p4 H1 B1
  go_wp2_with fail
  refine (SC.out _ H2.out).mono ?_
  rintro e w3 ⟨rfl, hb⟩
  have B3 := Lib.hid (B2.out.trans (hb.mono B2.out.size))
  clear hb H2 B2
  go_wp2_with fail
  go_ret
  exact ⟨rfl, B3.out⟩
theorem metaR_code (s : ByteArray) : (metaR s).2.2 = 0 ∨ ((metaR s).2.2 = 2 ∨ (metaR s).2.2 = 4 ∨ (metaR s).2.2 = 5 ∨ (metaR s).2.2 = 3) ∧ metaR s = (0, ⟨#[]⟩, (metaR s).2.2) := by
  unfold metaR
  split
  · split
    · exact .inl rfl
    · exact .inr ⟨.inr (.inr (.inr rfl)), rfl⟩
  · rename_i h
    refine .inr ⟨?_, rfl⟩
    rcases unsealT_code s with h1 | h1 | h1 | h1
    · exact absurd h1 h
    · exact .inl h1
    · exact .inr (.inl h1)
    · exact .inr (.inr (.inl h1))

set_option maxHeartbeats 4000000 in
set_option maxRecDepth 100000 in
theorem readCopy_any (s : ByteArray) (a : Nat → Addr) (w : World) (hs : s.size ≤ maxLen) (hL : Laid w) (hE : Sent w metaG a) :
    Calls Tryd.prog 90 #[.string s] w fun e w' => e = .returned (copyU a (metaR s)) ∧ Below w.heap.size w w' := by
  obtain ⟨R, hR⟩ : ∃ R, R = metaR s := ⟨_, rfl⟩
  rw [← hR]
  rw [metaR_cmp] at hR
  have hus := unsealT_size s
  have hucode := unsealT_code s
  have HU := Lib.hid (fun w hE => unsealed_any s metaM a w hs hE)
  unfold unsV at HU
  obtain ⟨t, ht⟩ : ∃ t, t = (unsealT s).1 := ⟨_, rfl⟩
  obtain ⟨cu, hcu⟩ : ∃ cu, cu = (unsealT s).2 := ⟨_, rfl⟩
  rw [← ht, ← hcu] at hR
  rw [← ht] at hus
  rw [← hcu] at hucode
  rw [← ht, ← hcu] at HU
  clear ht hcu
  have htm : t.size ≤ maxLen := by unfold maxLen; omega
  have hat := getR_at t 0 htm
  have HN := Lib.hid (fun w => implGet_any t 0 w htm (by decide))
  obtain ⟨n, hn⟩ : ∃ n, n = (getR t 0).1 := ⟨_, rfl⟩
  obtain ⟨q, hq⟩ : ∃ q, q = (getR t 0).2.1 := ⟨_, rfl⟩
  obtain ⟨cn, hcn⟩ : ∃ cn, cn = (getR t 0).2.2 := ⟨_, rfl⟩
  unfold numV at HN
  rw [← hn, ← hq] at hR
  rw [← hn, ← hq, ← hcn] at HN
  rw [← hq] at hat
  clear hn hq hcn
  have hts := textR_size t q
  have HT := Lib.hid (fun w => implTextR t q w htm (by omega))
  obtain ⟨x, hx⟩ : ∃ x, x = (textR t q).1 := ⟨_, rfl⟩
  obtain ⟨xa, hxa⟩ : ∃ xa, xa = (textR t q).2.1 := ⟨_, rfl⟩
  obtain ⟨cx, hcx⟩ : ∃ cx, cx = (textR t q).2.2 := ⟨_, rfl⟩
  unfold textV at HT
  rw [← hx, ← hxa, ← hcx] at HT
  rw [← hx] at hR
  rw [← hx] at hts
  clear hx hxa hcx
  have HM := Lib.hid (fun w => implMetaB n x w (by unfold maxLen; omega))
  obtain ⟨M, hM⟩ : ∃ M, M = metaB n x := ⟨_, rfl⟩
  rw [← hM] at hR HM
  clear hM
  have H0 := Lib.hid hR
  have HL := Lib.hid hL
  have HE := Lib.hid hE
  clear hR hL hE
  go_enter Tryd.func90, Tryd.ntmps90
  go_wp2_with fail
  have Y0 := Lib.hid (bx_new w 112 #[.int .i64 0, .int .i64 0, .string { data := #[] }])
  have b0 := below_alloc1 w (.cells #[.int .i64 0, .int .i64 0, .string { data := #[] }] 112)
  have z0 := size_alloc1 w (.cells #[.int .i64 0, .int .i64 0, .string { data := #[] }] 112)
  generalize w.alloc (.cells #[.int .i64 0, .int .i64 0, .string { data := #[] }] 112) = W0 at *
  have B0 := Lib.hid b0
  clear b0
  refine (HU.out W0 (HE.out.next B0.out)).mono ?_
  clear HU
  by_cases hcu : cu = 0
  · subst hcu
    have H1 := Lib.hid (H0.out.trans (if_pos rfl))
    clear H0
    rw [if_pos rfl]
    rintro e W1 ⟨rfl, hb1⟩
    have g1 : W0.heap.size ≤ W1.heap.size := hb1.size
    have Y1 := Lib.hid (Y0.out.next hb1)
    have B1 := Lib.hid (B0.out.trans (hb1.mono (by omega)))
    clear hb1 Y0 B0
    go_wp2_with fail
    refine (HN.out W1 (HL.out.below B1.out)).mono ?_
    rintro e w2 ⟨rfl, hb2⟩
    have g2 : W1.heap.size ≤ w2.heap.size := hb2.size
    have b2 := below_alloc1 w2 (.cells #[.int .i64 n, .int .i64 q, .int .i64 cn] 26)
    have z2 := size_alloc1 w2 (.cells #[.int .i64 n, .int .i64 q, .int .i64 cn] 26)
    have b12 := hb2.trans (b2.mono g2)
    have Y2 := Lib.hid (Y1.out.next b12)
    have B2 := Lib.hid (B1.out.trans (b12.mono (by omega)))
    have N2 := Lib.hid (bx_new w2 26 #[.int .i64 n, .int .i64 q, .int .i64 cn])
    clear hb2 b2 b12 Y1 B1
    go_wp2_with fail
    generalize w2.alloc (.cells #[.int .i64 n, .int .i64 q, .int .i64 cn] 26) = W2 at *
    generalize w2.heap.size = n2 at *
    clear w2
    refine (HT.out W2 (HL.out.below B2.out)).mono ?_
    rintro e w3 ⟨rfl, hb3⟩
    have g3 : W2.heap.size ≤ w3.heap.size := hb3.size
    have b3 := below_alloc1 w3 (.cells #[.string x, .int .i64 xa, .int .i64 cx] 31)
    have z3 := size_alloc1 w3 (.cells #[.string x, .int .i64 xa, .int .i64 cx] 31)
    have b23 := hb3.trans (b3.mono g3)
    have v3 := N2.out.next b23
    have k0 := v3.t0
    have Y3 := Lib.hid (Y2.out.next b23)
    have N3 := Lib.hid v3
    have X3 := Lib.hid (bx_new w3 31 #[.string x, .int .i64 xa, .int .i64 cx])
    have B3 := Lib.hid (B2.out.trans (b23.mono (by omega)))
    clear hb3 b3 b23 v3 Y2 N2 B2
    go_wp2_with fail
    generalize w3.alloc (.cells #[.string x, .int .i64 xa, .int .i64 cx] 31) = W3 at *
    generalize w3.heap.size = n3 at *
    clear w3
    clear k0
    refine (HM.out W3).mono ?_
    rintro e w4 ⟨rfl, hb4⟩
    have g4 : W3.heap.size ≤ w4.heap.size := hb4.size
    have y4 := Y3.out.next hb4
    have v4 := N3.out.next hb4
    have x4 := X3.out.next hb4
    have r0 := y4.t0
    have r1 := y4.t1
    have r2 := y4.t2
    have s0 := y4.frozen 0
    have s1 := y4.frozen 1
    have s2 := y4.frozen 2
    have k0 := v4.t0
    have l0 := x4.t0
    have B4 := Lib.hid (B3.out.trans (hb4.mono (by omega)))
    have E4 := Lib.hid (HE.out.next B4.out)
    clear hb4 y4 v4 x4
    by_cases hm : (M.toList == s.toList) = true
    · have hO : R = (n, x, 0) := by rw [H1.out, if_pos hm]
      clear H1
      subst hO
      have d1 : (M.toList != s.toList) = false := by simp [bne, hm]
      go_wp2_with fail
      refine bodyPost_ret (v := copyU a (n, x, 0)) (by simp [copyU, results, Tryd.results90, go_sem, r0, r1, r2]) rfl ⟨rfl, ?_⟩
      exact ((B4.out.setCell (p := ⟨w.heap.size, 0, none⟩) (Nat.le_refl _) _).setCell (p := ⟨w.heap.size, 1, none⟩) (Nat.le_refl _) _).setCell (p := ⟨w.heap.size, 2, none⟩) (Nat.le_refl _) _
    · have hm' : (M.toList == s.toList) = false := by simpa using hm
      have d1 : (M.toList != s.toList) = true := by simp [bne, hm']
      have hO : R = (0, ⟨#[]⟩, 3) := by rw [H1.out, if_neg hm]
      clear H1
      subst hO
      have e3 := E4.out.m3
      go_wp2_with fail
      refine (metaError_any _ _ _).mono ?_
      rintro e w5 ⟨rfl, rfl⟩
      unfold eL
      go_wp2_with fail
      refine bodyPost_ret (v := copyU a (0, ⟨#[]⟩, 3)) (by simp [copyU, eL, eP, errM, results, Tryd.results90, go_sem, r0, r1, r2]) rfl ⟨rfl, ?_⟩
      exact ((B4.out.setCell (p := ⟨w.heap.size, 0, none⟩) (Nat.le_refl _) _).setCell (p := ⟨w.heap.size, 1, none⟩) (Nat.le_refl _) _).setCell (p := ⟨w.heap.size, 2, none⟩) (Nat.le_refl _) _
  · have hO : R = (0, ⟨#[]⟩, cu) := by rw [H0.out, if_neg hcu]
    clear H0
    subst hO
    have hcc : cu = 2 ∨ cu = 4 ∨ cu = 5 := by rcases hucode with h | h | h | h; exact absurd h hcu; exact .inl h; exact .inr (.inl h); exact .inr (.inr h)
    rw [if_neg hcu]
    rintro e w1 ⟨rfl, hb1⟩
    have Y1 := Lib.hid (Y0.out.next hb1)
    have B1 := Lib.hid (B0.out.trans (hb1.mono B0.out.size))
    have y1 := Y1.out
    have r0 := y1.t0
    have r1 := y1.t1
    have r2 := y1.t2
    have s0 := y1.frozen 0
    have s1 := y1.frozen 1
    have s2 := y1.frozen 2
    have hem : errM cu = errI cu := errM_seal hcc
    clear hb1 y1 hucode Y0 B0
    unfold eP
    go_wp2_with fail
    refine (metaError_any _ _ _).mono ?_
    rintro e w5 ⟨rfl, rfl⟩
    unfold eL
    go_wp2_with fail
    refine bodyPost_ret (v := copyU a (0, ⟨#[]⟩, cu)) (by simp [copyU, eL, eP, hem, hcu, results, Tryd.results90, go_sem, r0, r1, r2]) rfl ⟨rfl, ?_⟩
    exact ((B1.out.setCell (p := ⟨w.heap.size, 0, none⟩) (Nat.le_refl _) _).setCell (p := ⟨w.heap.size, 1, none⟩) (Nat.le_refl _) _).setCell (p := ⟨w.heap.size, 2, none⟩) (Nat.le_refl _) _
end Go.Proofs.YthkbllkhomjmbaaDoor
