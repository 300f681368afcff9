/- spec.l05Reserve. -/
import Derived.Test.YtmhmjofmafeidaaASrun
import Derived.Test.YtmhmjofmafeidaaASlo
import Derived.Test.YtmhmjofmafeidaaAOutL
import Derived.Test.YtmhmjofmafeidaaASel
namespace Go.Proofs.Ytmhmjofmafeidaa
open Go.RowKit

def lresO (a b : List Int) (n : Int) : List Int × Int := if n ≤ ((freeT a b 24).length : Int) then (selL (freeT a b 24) n.toNat, 0) else ([], 11)
theorem resO_l (a b : List Int) (n : Int) (h : ¬ (400 < a.length ∨ 400 < b.length)) (oa : okL a = true) (ob : okL b = true) (hn : 0 ≤ n) : resO a b n = lresO a b n := by
  unfold resO lresO; rw [if_neg h, if_pos ⟨oa, ob, hn⟩]
theorem lresO_few (a b : List Int) (n : Int) (h : ((freeT a b 24).length : Int) < n) : lresO a b n = ([], 11) := by unfold lresO; rw [if_neg (by omega)]
theorem lresO_ok (a b : List Int) (n : Nat) (h : n ≤ (freeT a b 24).length) : lresO a b (n : Int) = (selL (freeT a b 24) n, 0) := by unfold lresO; rw [if_pos (by omega)]; rfl
theorem one_ext (W : World) (f m : Int) (T : TypeId) : Rd (W.alloc (.cells #[.int .i64 f, .int .i64 m] T)) (.slice (some ⟨W.heap.size, 0, none⟩) 1 1) [(f, m)].length 2 (extCs [(f, m)]) := by
  refine ⟨rfl, _, _, rfl, fun _ => ⟨_, _, rfl, by simp, fun j hj => ?_⟩⟩
  rw [(bx_new W T #[.int .i64 f, .int .i64 m]).cell]
  simp [extCs]
theorem one_extD (W : World) (f m : Int) (T : TypeId) : Rd (W.alloc (.cells #[.int .i64 f, .int .i64 m] T)).drew (.slice (some ⟨W.heap.size, 0, none⟩) 1 1) [(f, m)].length 2 (extCs [(f, m)]) := one_ext W f m T
theorem fit_one (f M : Nat) (h : f ≤ 24) : FitE [((f : Int), (M : Int))] := fun j hj => by
  have hj0 : j = 0 := by simpa using hj
  subst hj0
  simp only [List.getElem_cons_zero]
  omega
set_option maxRecDepth 100000 in
theorem max_any (N : Nat) (w : World) :
    Calls Try.prog 67 #[.int .i64 1, .int .i64 (N : Int)] w fun e w' => e = .returned (.int .i64 ((max 1 N : Nat) : Int)) ∧ w' = w := by
  by_cases h : N < 1
  · have d : decide ((N : Int) < 1) = true := decide_eq_true (by omega)
    obtain rfl : N = 0 := by omega
    go_enter Try.func67, Try.ntmps67
    go_wp2_with fail
    go_ret
    exact ⟨rfl, rfl⟩
  · have d : decide ((N : Int) < 1) = false := decide_eq_false (by omega)
    have hm : max 1 N = N := by omega
    rw [hm]
    go_enter Try.func67, Try.ntmps67
    go_wp2_with fail
    go_ret
    exact ⟨rfl, rfl⟩
def LrsRel (rs : List extT) (N : Nat) (w W2 : World) (i : Value) (wr : World) : Prop :=
  ∃ k : Nat, k ≤ rs.length ∧ i = .int .i64 k ∧ (∀ x ∈ rs.take k, x.2 < (N : Int)) ∧ wr = W2
theorem field_out (v : Value) (c : Int) (w : World) : (Instr.field 30 (.agg #[v, .int .i64 c]) 0).run Try.prog w = .ok v w := by
  simp [Instr.field, go_sem, asAgg]
set_option maxRecDepth 100000 in
set_option maxHeartbeats 4000000 in
theorem specLRes (u v : Value) (a b : List Int) (n : Int) (w : World) (h1 : Rd w u a.length 1 (ints a)) (h2 : Rd w v b.length 1 (ints b)) (n1 : a.length ≤ 1048576) (n2 : b.length ≤ 1048576) (i0 : -9223372036854775808 ≤ n) (i1 : n ≤ 9223372036854775807) (hn : 0 ≤ n) :
    Calls Try.prog 58 #[u, v, .int .i64 n] w (OwnL w (lresO a b n)) := by
  obtain ⟨ua, uc, rfl, -⟩ := id h1.2
  obtain ⟨va, vc, rfl, -⟩ := id h2.2
  have HA := Lib.hid h1
  have HB := Lib.hid h2
  clear h1 h2
  have g0 := below_alloc1 w (.cells #[.slice none 0 0, .int .i64 0] 30)
  have X0 := Lib.hid (bx_new w 30 #[.slice none 0 0, .int .i64 0])
  have hz := size_alloc1 w (.cells #[.slice none 0 0, .int .i64 0] 30)
  have hfl := freeT_len a b 24
  obtain ⟨R, hR⟩ : ∃ R, R = lresO a b n := ⟨_, rfl⟩
  rw [← hR]
  have HR := Lib.hid hR
  clear hR
  go_enter Try.func58, Try.ntmps58
  go_wp2_with fail
  generalize w.alloc (.cells #[.slice none 0 0, .int .i64 0] 30) = W0 at *
  refine (specLFree _ _ a b W0 (HA.out.below g0 (Nat.le_refl _)) (HB.out.below g0 (Nat.le_refl _)) n1 n2).mono ?_
  rintro e W1 ⟨fv, rfl, hg, hb⟩
  obtain ⟨fa, fc, rfl⟩ := hg.form
  have hroom := hg.room
  have X1 := Lib.hid (X0.out.next hb)
  have G1 := Lib.hid (g0.trans (hb.mono (by omega)))
  have HG := Lib.hid hg
  have hs1 := hb.size
  clear hg hb HA HB g0 X0
  by_cases hfew : ((freeT a b 24).length : Int) < n
  · have d3 : decide (((freeT a b 24).length : Int) < n) = true := decide_eq_true hfew
    have hRR : R = ([], 11) := by rw [HR.out]; exact lresO_few a b n hfew
    subst hRR
    have c0 := X1.out.cell 0
    have c1 := X1.out.cell 1
    have z0 := X1.out.frozen 0
    have z1 := X1.out.frozen 1
    simp at c0 c1
    go_wp2_with fail
    refine bodyPost_ret (v := .agg #[.slice none 0 0, .int .i64 11]) (by simp [results, Try.results58, go_sem, c0, c1]) rfl ⟨_, rfl, own_nil _ _ _ _ _, ?_⟩
    exact (G1.out.setCell (p := ⟨w.heap.size, 0, none⟩) (Nat.le_refl _) _).setCell (p := ⟨w.heap.size, 1, none⟩) (Nat.le_refl _) _
  have d3 : decide (((freeT a b 24).length : Int) < n) = false := decide_eq_false hfew
  obtain ⟨N, rfl⟩ : ∃ N : Nat, n = (N : Int) := ⟨n.toNat, by omega⟩
  have hRR : R = (selL (freeT a b 24) N, 0) := by rw [HR.out]; exact lresO_ok a b N (by omega)
  subst hRR
  clear HR i0 i1
  have hok := freeT_ok a b
  have hN : N ≤ (freeT a b 24).length := by omega
  generalize freeT a b 24 = fr at *
  go_wp2_with fail
  refine (specRuns _ fr W1 HG.out.own.rd hok).mono ?_
  rintro e W2 ⟨rv, rfl, hr, hb⟩
  obtain ⟨ra, rc, rfl⟩ := hr.form
  have X2 := Lib.hid (X1.out.next hb)
  have G2 := Lib.hid (G1.out.trans (hb.mono G1.out.size))
  have HF := Lib.hid (HG.out.own.below hb (Nat.le_refl _))
  have HRS := Lib.hid hr.own.rd
  have hs2 := hb.size
  have hrl := runsL_len fr
  have HGD := Lib.hid (runsL_good fr hok)
  have hsl := selL_len fr N hN
  obtain ⟨rs, hrs⟩ : ∃ rs, rs = runsL fr := ⟨_, rfl⟩
  rw [← hrs] at HRS HGD hrl
  have HSS := Lib.hid (selL_some fr N)
  have HSN := Lib.hid (selL_none fr N)
  rw [← hrs] at HSS HSN ⊢
  clear hr hb HG X1 G1 hrs
  go_wp2_with fail
  go_loopw [9] (fun i wr => LrsRel rs N w W2 i wr) (fun i _ => rs.length - (intOf i).toNat)
  case atStart => exact ⟨0, by omega, rfl, by simp, rfl⟩
  case round =>
    obtain ⟨k, hk, rfl, hlow, rfl⟩ := hrel
    have HLW := Lib.hid hlow
    clear hlow
    by_cases hlt : k < rs.length
    · obtain ⟨b', off, rfl, hbl, hcell⟩ := HRS.out.get (by omega)
      have r0 := hcell (k * 2) (by omega)
      have r1 := hcell (k * 2 + 1) (by omega)
      rw [extCs_0 rs k hlt] at r0
      rw [extCs_1 rs k hlt, ← Nat.add_assoc] at r1
      clear hcell
      have hgk := (goodE_iff _).1 (HGD.out rs[k] (List.getElem_mem hlt))
      have hsplit : rs = rs.take k ++ rs[k] :: rs.drop (k + 1) := by rw [List.getElem_cons_drop, List.take_append_drop]
      obtain ⟨x, hx⟩ : ∃ x, x = rs[k] := ⟨_, rfl⟩
      rw [← hx] at r0 r1 hgk hsplit
      have HSP := Lib.hid hsplit
      clear hsplit
      have e0 : (k : Int) < (rs.length : Int) := by omega
      have e1 : (0 : Int) ≤ (k : Int) := by omega
      by_cases hge : (N : Int) ≤ x.2
      · have d4 : decide ((N : Int) ≤ x.2) = true := decide_eq_true hge
        have HSEL := Lib.hid (HSS.out x (by rw [HSP.out]; exact firstR_at _ _ x N HLW.out hge))
        obtain ⟨f, hf⟩ : ∃ f : Nat, x.1 = (f : Int) := ⟨x.1.toNat, by omega⟩
        rw [hf] at r0 HSEL
        have hfm : f + max 1 N ≤ 24 := by omega
        have HL1 := Lib.hid (listO_one f (max 1 N) (by omega) hfm)
        have hm1 : N ≤ max 1 N := by omega
        have HTK := Lib.hid (spanL_take (f : Int) N (max 1 N) hm1)
        have hma := max_any N
        obtain ⟨M, hM⟩ : ∃ M, M = max 1 N := ⟨_, rfl⟩
        rw [← hM] at HL1 HTK hm1 hfm hma
        have HMA := Lib.hid hma
        clear hM hma hf hgk hx
        have c0 := X2.out.cell 0
        have c1 := X2.out.cell 1
        have z0 := X2.out.frozen 0
        have z1 := X2.out.frozen 1
        simp at c0 c1
        have e2 : (0 : Int) ≤ (N : Int) := by omega
        go_wp2_with fail
        go_region_with (first
          | (go_at_call 67; refine (HMA.out _).mono ?_; rintro e w5 ⟨rfl, rfl⟩)
          | (go_at_call 16; refine (specListOf _ [((f : Int), (M : Int))] _ (one_extD wr _ _ _) (by simp) (fit_one f M (by omega))).mono ?_; rw [HL1.out]; rintro e w6 ⟨v6, rfl, hg6, hb6⟩; obtain ⟨a6, c6, rfl⟩ := hg6.form; have hr6 := hg6.room; rw [spanL_len] at hr6; have hbb := (below_alloc1 wr (.cells #[.int .i64 (f : Int), .int .i64 (M : Int)] 40)).drew.trans (hb6.mono (by simp)); have k0 := (X2.out.next hbb).cell 0; have k1 := (X2.out.next hbb).cell 1; have y0 := (X2.out.next hbb).frozen 0; have y1 := (X2.out.next hbb).frozen 1; have e6 : (N : Int) ≤ (c6 : Int) := (by omega); have ff := field_out (.slice a6 (spanL (f : Int) M).length c6) 0 w6; simp at k0 k1))
        all_goals (
          clear c0 c1 z0 z1 ff r0 r1
          have p0 := ((X2.out.next hbb).set (j := 0) (.slice a6 N c6)).set (j := 1) (.int .i64 0)
          have q0 := p0.cell 0
          have q1 := p0.cell 1
          simp at q0 q1
          go_wp2_with fail
          refine bodyPost_ret (v := .agg #[.slice a6 N c6, .int .i64 0]) (by simp [results, Try.results58, go_sem, q0, q1]) rfl ⟨_, rfl, ?_, ?_⟩
          · show Own _ _ _ (selL fr N).length 1 (ints (selL fr N))
            rw [hsl, HSEL.out]
            have hg7 := hg6
            rw [spanL_len] at hg7
            have h7 := (hg7.own.lower (lo' := w.heap.size + 1) (by simp; omega)).take hm1 c6
            have h8 : (ints (spanL (f : Int) M)).take N = ints (spanL (f : Int) N) := by rw [← HTK.out]; simp [ints, List.map_take]
            rw [h8] at h7
            refine ((h7.other ⟨w.heap.size, 0, none⟩ _ (fun k hk => ?_)).other ⟨w.heap.size, 1, none⟩ _ (fun k hk => ?_)).lower (by omega)
            · have := (h7.blk k hk).1
              simp; omega
            · have := (h7.blk k hk).1
              simp; omega
          · exact ((G2.out.trans (hbb.mono G2.out.size)).setCell (p := ⟨w.heap.size, 0, none⟩) (Nat.le_refl _) _).setCell (p := ⟨w.heap.size, 1, none⟩) (Nat.le_refl _) _)
      · have d4 : decide ((N : Int) ≤ x.2) = false := decide_eq_false hge
        have HLW2 : ∀ y ∈ rs.take (k + 1), y.2 < (N : Int) := fun y hy => by
          rw [List.take_succ_eq_append_getElem hlt] at hy
          rcases List.mem_append.1 hy with h | h
          · exact HLW.out y h
          · simp at h; rw [h, ← hx]; omega
        have HLW3 := Lib.hid HLW2
        clear HLW2 hx
        go_wp2_with fail
        go_roundw
        case rel => exact ⟨k + 1, by omega, by go_num, HLW3.out, rfl⟩
        case measure => simp [intOf]; omega
    · obtain rfl : k = rs.length := by omega
      have HSEL := Lib.hid (HSN.out (firstR_none rs N (by have := HLW.out; rwa [List.take_length] at this)))
      have c0 := X2.out.cell 0
      have c1 := X2.out.cell 1
      have z0 := X2.out.frozen 0
      have z1 := X2.out.frozen 1
      simp at c0 c1
      have e2 : (0 : Int) ≤ (N : Int) := by omega
      have e3 : (N : Int) ≤ (fc : Int) := by omega
      go_wp2_with fail
      refine bodyPost_ret (v := .agg #[.slice fa N fc, .int .i64 0]) (by simp [results, Try.results58, go_sem, c0, c1]) rfl ⟨_, rfl, ?_, ?_⟩
      · show Own _ _ _ (selL fr N).length 1 (ints (selL fr N))
        rw [hsl, HSEL.out]
        have h7 := (HF.out.lower (lo' := w.heap.size + 1) (by omega)).take hN fc
        have h8 : (ints fr).take N = ints (fr.take N) := by simp [ints, List.map_take]
        rw [h8] at h7
        refine ((h7.other ⟨w.heap.size, 0, none⟩ _ (fun k hk => ?_)).other ⟨w.heap.size, 1, none⟩ _ (fun k hk => ?_)).lower (by omega)
        · have := (h7.blk k hk).1
          simp; omega
        · have := (h7.blk k hk).1
          simp; omega
      · exact (G2.out.setCell (p := ⟨w.heap.size, 0, none⟩) (Nat.le_refl _) _).setCell (p := ⟨w.heap.size, 1, none⟩) (Nat.le_refl _) _
end Go.Proofs.Ytmhmjofmafeidaa
