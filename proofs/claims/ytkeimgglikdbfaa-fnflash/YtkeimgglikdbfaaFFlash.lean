/- The drawn flash: spec.l01Src.l03Flash. -/
import Derived.Test.YtkeimgglikdbfaaFSet
namespace Go.Proofs.Ytkeimgglikdbfaa
open Go.RowKit

def lenAt (m : Nat) (w : World) : Nat := match w.cell? ⟨m, 0, none⟩ with | some (.slice _ n _) => n | _ => 0
theorem lenAt_of {m n c : Nat} {w : World} {x : Option Addr} (h : w.cell? ⟨m, 0, none⟩ = some (.slice x n c)) : lenAt m w = n := by unfold lenAt; rw [h]
theorem keepM {wr w' : World} {m b : Nat} {T : TypeId} {su du : Value} (hx : Bx wr m T #[su, du]) (hn : m ≠ b) (hk : Kept b wr w') : w'.cell? ⟨m, 0, none⟩ = some su ∧ w'.cell? ⟨m, 1, none⟩ = some du ∧ Kept b wr w' := ⟨(hx.kept hk hn).c0, (hx.kept hk hn).c1, hk⟩
theorem put_self (a : Act) (d : Nat) : a.put (some d) (a.tmps.getD d undef) = a := by
  unfold Act.put
  have : a.tmps.setIfInBounds d (a.tmps.getD d undef) = a.tmps := by
    apply Array.ext_getElem?
    intro i
    by_cases h : d = i
    · subst h
      rw [Array.getElem?_setIfInBounds_self]
      by_cases hd : d < a.tmps.size
      · simp [hd]
      · simp [hd]
    · rw [Array.getElem?_setIfInBounds_ne h]
  simp only [this]
theorem fr5_self (a0 : Act) : a0 = fr5 a0 (a0.tmps.getD 5 undef) (a0.tmps.getD 16 undef) (a0.tmps.getD 17 undef) (a0.tmps.getD 18 undef) (a0.tmps.getD 19 undef) (a0.tmps.getD 20 undef) (a0.tmps.getD 21 undef) (a0.tmps.getD 22 undef) (a0.tmps.getD 23 undef) := by
  simp only [fr5_eq, put_self]

theorem wp_append_gr {P : Program} {w : World} {lo e sz n : Nat} {v : Value} {xs : List Value} {o : Oper} {a : Act} {K : Act → World → Prop} {Q : Exit → Act → World → Prop} (s x : Operand) (t : TypeId)
    (hop : o.op = Op.call { callee := Callee.builtin Builtin.append, args := #[s, x], argTypes := #[t, t] })
    (i : TypeInfo) (z : Value) (bytes : Nat) (ht : P.underlying t = some (.slice e)) (hi : P.info? e = some i) (hz : i.zero = some z) (hsize : i.size = sz) (hby : i.bytes = bytes) (hzs : z.cells.size = sz) (hsz : 0 < sz)
    (hs : a.eval s = v) (hl : xs.length = n * sz) (hg : Gr w lo e sz v n xs) (ad : Addr) (m c : Nat) (hx : a.eval x = .slice (some ad) m c) (news : List Value) (hm : 0 < m) (hn : news.length = m * sz) (hnews : ∀ j u, news[j]? = some u → w.cell? (ad.add j) = some u) (h1 : ∀ u ∈ news, u.oneCell' = true)
    (h63 : n + m ≤ maxLen) (hbytes : (n + m) * bytes ≤ 140737488355328) (hlo : lo ≤ w.heap.size)
    (hK : ∀ g cap w', Gr w' lo e sz (.slice (some ⟨g, 0, none⟩) (n + m) cap) (n + m) (xs ++ news) → w.grownBy w' (blk v n) → (blk v n = some g ∨ w.heap.size ≤ g) → K (a.put o.dst (.slice (some ⟨g, 0, none⟩) (n + m) cap)) w') :
    Oper.wp P o a w K Q := by
  obtain ⟨g, cap, w', hrun, r1, r2, r3⟩ := run_append_gr (P := P) t o.type i z bytes ht hi hz hsize hby hzs hsz hl hg ad m c news hm hn hnews h1 h63 hbytes hlo
  unfold Oper.wp
  simp [execOp, hop, resolve, invoke, builtin, hs, hx, hrun, Result.andThen]
  exact hK g cap w' r1 r2 r3
theorem fr17_self (a0 : Act) : a0 = fr17 a0 (a0.tmps.getD 54 undef) (a0.tmps.getD 55 undef) (a0.tmps.getD 56 undef) (a0.tmps.getD 57 undef) (a0.tmps.getD 58 undef) (a0.tmps.getD 59 undef) (a0.tmps.getD 60 undef) (a0.tmps.getD 61 undef) := by
  simp only [fr17_eq, put_self]
theorem fr19_self (a0 : Act) : a0 = fr19 a0 (a0.tmps.getD 64 undef) (a0.tmps.getD 65 undef) (a0.tmps.getD 66 undef) (a0.tmps.getD 67 undef) (a0.tmps.getD 68 undef) (a0.tmps.getD 69 undef) (a0.tmps.getD 70 undef) (a0.tmps.getD 71 undef) := by
  simp only [fr19_eq, put_self]
theorem Try.infoU8 : (Try.prog.info? 5).map (fun i => (i.zero, i.size, i.bytes)) = some (some (.int .u8 0), 1, 1) := by kernel_rfl
theorem zsize (n : Nat) : (⟨(List.replicate n (0 : UInt8)).toArray⟩ : ByteArray).size = n := by simp [ByteArray.size]
set_option maxHeartbeats 2000000 in
set_option maxRecDepth 100000 in
theorem flash_any (b : Nat) (a : Option Addr) (len cap : Nat) (w : World) (hS : Src w b a len cap) (hR : Row w a len b) :
    Calls Try.prog 26 #[.pointer (some ⟨b, 0, none⟩)] w (DrawnF b a len cap w) := by
  have hbl := hS.lt
  have HS := Lib.hid hS
  have HR := Lib.hid hR
  clear hS hR
  go_enter Try.func26, Try.ntmps26
  go_wp2_with fail
  have x0 := bx_new w 26 #[.slice none 0 0, .slice none 0 0]
  have b0 := below_alloc1 w (.cells #[.slice none 0 0, .slice none 0 0] 26)
  have z0 := size_alloc1 w (.cells #[.slice none 0 0, .slice none 0 0] 26)
  generalize (w.alloc (.cells #[.slice none 0 0, .slice none 0 0] 26)) = W at *
  have hk0 : Kept b w W := below_kept b0
  refine (n_any b a len cap 7 W (HS.out.below b0) (HR.out.kept hk0) (by omega) (by omega)).mono ?_
  rintro e w1 ⟨x, ⟨hx0, hx1⟩, rfl, hs1, hk1⟩
  have x1 := x0.kept hk1 (by omega)
  have kk1 := hk0.trans hk1
  have m0 : IntKind.i64.wrap (1 + x) = 1 + x := IntWalk.i64_in _ (by omega)
  have hz1 : w.heap.size + 1 ≤ w1.heap.size := by have := hk1.size; omega
  clear x0 b0 hk0 hk1 z0
  clear W
  go_wp2_with fail
  refine (specNewG (1 + x) w1).mono ?_
  rintro e w2 ⟨sv, dv, rfl, hg, hb2⟩
  obtain ⟨a1, n1, rfl, -⟩ := id hg.1.2
  obtain ⟨a2, n2, rfl, -⟩ := id hg.2.1.2
  have bn := below_alloc1 w2 (.cells #[.slice a1 (freshOf (1 + x)).sec.length n1, .slice a2 (freshOf (1 + x)).dir.length n2] 26)
  have hst : FSt b a len cap w w2.heap.size (freshOf (1 + x)) (.slice a1 (freshOf (1 + x)).sec.length n1) (.slice a2 (freshOf (1 + x)).dir.length n2) (w2.alloc (.cells #[.slice a1 (freshOf (1 + x)).sec.length n1, .slice a2 (freshOf (1 + x)).dir.length n2] 26)) :=
    ⟨(x1.next hb2).next bn, bx_new _ _ _, (hg.lower hz1).below bn (Nat.le_refl _), fun k hk => by have := (hg.in k hk).2; omega, (hs1.below hb2).below bn, (kk1.trans (below_kept hb2)).trans (below_kept bn)⟩
  have hbd : Bd (freshOf (1 + x)) := bd_new (by omega) (by omega)
  have hm : w.heap.size < w2.heap.size := by have := hb2.size; omega
  go_wp2_with fail
  have HST := Lib.hid hst
  have HBD := Lib.hid hbd
  generalize w2.alloc (.cells #[.slice a1 (freshOf (1 + x)).sec.length n1, .slice a2 (freshOf (1 + x)).dir.length n2] 26) = W at *
  generalize w2.heap.size = m at *
  clear hg hb2 bn hst hbd x1 hs1 kk1 m0 hz1
  refine (n_any b a len cap 9 W HST.out.src (HR.out.kept HST.out.kept) (by omega) (by omega)).mono ?_
  rintro e w3 ⟨y, ⟨hy0, hy1⟩, rfl, hs3, hk3⟩
  have HST3 := Lib.hid (HST.out.keep hk3 hs3 hbl hm)
  clear HST hs3 hk3
  obtain ⟨y, rfl⟩ : ∃ n : Nat, y = n := ⟨y.toNat, by omega⟩
  go_wp2_with fail
  go_loopw [4] (fun i wr => FlashRel b a len cap w m i wr) (fun i _ => (intOf i).toNat)
  case atStart => exact ⟨y, _, _, _, by omega, rfl, HBD.out, HST3.out⟩
  case round =>
    obtain ⟨n, F, sv, dv, hn, rfl, hbd, hst⟩ := hrel
    obtain ⟨a3, n3, rfl, -⟩ := id hst.fg.1.2
    obtain ⟨a4, n4, rfl, -⟩ := id hst.fg.2.1.2
    have BD := Lib.hid hbd
    have ST := Lib.hid hst
    have KW := Lib.hid hst.kept
    have hbW : b < wr.heap.size := hst.src.lt
    have hmW : m < wr.heap.size := hst.box.lt
    clear hbd hst HST3 HBD
    by_cases h0 : 0 < n
    · go_wp2_with fail
      refine wp_region_inv0 (fun a0 l a1 w1 => ∃ v5 v16 v17 v18 v19 v20 v21 v22 v23 : Value, a1 = fr5 a0 v5 v16 v17 v18 v19 v20 v21 v22 v23 ∧ J5 wr 30 b a len cap (.agg #[.slice a3 F.sec.length n3, .slice a4 F.dir.length n4]) #[.slice none 0 0, .slice none 0 0, .string { data := #[] }, .int .i64 0] (fun O => ∃ at_ x, O = writeOf F at_ x) l w1 v5 v16 v17 v18 v19 v20 v21 v22 v23) (by kernel_rfl) (by kernel_rfl) ?_ ?_ ?_
      · refine ⟨_, _, _, _, _, _, _, _, _, fr5_self _, ⟨(Kept.refl b wr).drew, ST.out.src.drew, fun _ _ h => absurd h (by decide), fun h => absurd h (by decide), fun h => absurd h (by decide), fun h => absurd h (by decide), fun h => absurd h (by decide), fun h => absurd h (by decide), fun h => absurd h (by decide), fun h => absurd h (by decide), fun h => absurd h (by decide), fun h => absurd h (by decide), fun h => absurd h (by decide)⟩⟩
      · refine ⟨⟨⟨⟨⟨⟨⟨⟨⟨⟨trivial, ?_⟩, ?_⟩, ?_⟩, ?_⟩, ?_⟩, ?_⟩, ?_⟩, ?_⟩, ?_⟩, ?_⟩
        all_goals (intro o ho l a1 w1 hJ hl hd K hK; obtain rfl := Option.some.inj ho; clear ho; obtain ⟨v5, v16, v17, v18, v19, v20, v21, v22, v23, ha, hJ⟩ := hJ; subst ha)
        all_goals (rw [if_pos (by rfl)]; simp [Region.binds] at hd)
        · have kb := ST.out.box.kept hJ.kept (show m ≠ b by omega)
          have c0 := kb.c0
          have c1 := kb.c1
          clear kb
          (simp only [fr5_eq, Act.put, List.setIfInBounds_toArray, List.set_cons_zero, List.set_cons_succ])
          go_simp
          exact hK _ _ ⟨_, _, _, _, _, _, _, _, _, by (simp only [fr5_eq, Act.put, List.setIfInBounds_toArray, List.set_cons_zero, List.set_cons_succ]), hJ.p0⟩
        · (simp only [fr5_eq, Act.put, List.setIfInBounds_toArray, List.set_cons_zero, List.set_cons_succ])
          go_simp
          exact hK _ _ ⟨_, _, _, _, _, _, _, _, _, by (simp only [fr5_eq, Act.put, List.setIfInBounds_toArray, List.set_cons_zero, List.set_cons_succ]), hJ.p1⟩
        · obtain rfl := hJ.k1 hd
          (simp only [fr5_eq, Act.put, List.setIfInBounds_toArray, List.set_cons_zero, List.set_cons_succ])
          go_simp
          refine (n_any b a len cap 7 w1 hJ.src (HR.out.kept (KW.out.trans hJ.kept)) (by omega) (by omega)).mono ?_
          rintro e w2 ⟨x, -, rfl, hs2, hk2⟩
          exact hK _ _ ⟨_, _, _, _, _, _, _, _, _, by (simp only [fr5_eq, Act.put, List.setIfInBounds_toArray, List.set_cons_zero, List.set_cons_succ]), (hJ.keep hk2 hs2 hbW).p2 x⟩
        · (simp only [fr5_eq, Act.put, List.setIfInBounds_toArray, List.set_cons_zero, List.set_cons_succ])
          go_simp
          exact hK _ _ ⟨_, _, _, _, _, _, _, _, _, by (simp only [fr5_eq, Act.put, List.setIfInBounds_toArray, List.set_cons_zero, List.set_cons_succ]), hJ.p3⟩
        · (simp only [fr5_eq, Act.put, List.setIfInBounds_toArray, List.set_cons_zero, List.set_cons_succ])
          go_simp
          exact hK _ _ ⟨_, _, _, _, _, _, _, _, _, by (simp only [fr5_eq, Act.put, List.setIfInBounds_toArray, List.set_cons_zero, List.set_cons_succ]), hJ.p4⟩
        · obtain rfl := hJ.k4 hd.1
          (simp only [fr5_eq, Act.put, List.setIfInBounds_toArray, List.set_cons_zero, List.set_cons_succ])
          go_simp
          refine (n_any b a len cap 5 w1 hJ.src (HR.out.kept (KW.out.trans hJ.kept)) (by omega) (by omega)).mono ?_
          rintro e w2 ⟨x, ⟨x0, x1⟩, rfl, hs2, hk2⟩
          obtain ⟨x, rfl⟩ : ∃ n : Nat, x = n := ⟨x.toNat, by omega⟩
          exact hK _ _ ⟨_, _, _, _, _, _, _, _, _, by (simp only [fr5_eq, Act.put, List.setIfInBounds_toArray, List.set_cons_zero, List.set_cons_succ]), (hJ.keep hk2 hs2 hbW).p5 x (by omega)⟩
        · obtain rfl := hJ.k3 hd.1
          obtain ⟨x, hx, rfl⟩ := hJ.k5 hd.2
          (simp only [fr5_eq, Act.put, List.setIfInBounds_toArray, List.set_cons_zero, List.set_cons_succ])
          go_simp
          refine (bytes_any b a len cap x w1 hJ.src (HR.out.kept (KW.out.trans hJ.kept)) (by omega)).mono ?_
          rintro e w2 ⟨t, ht, rfl, hs2, hk2⟩
          exact hK _ _ ⟨_, _, _, _, _, _, _, _, _, by (simp only [fr5_eq, Act.put, List.setIfInBounds_toArray, List.set_cons_zero, List.set_cons_succ]), (hJ.keep hk2 hs2 hbW).p6 t (by omega)⟩
        · obtain rfl := hJ.k0 hd.1
          obtain ⟨x, rfl⟩ := hJ.k2 hd.2.1
          obtain ⟨t, ht, rfl⟩ := hJ.k6 hd.2.2
          (simp only [fr5_eq, Act.put, List.setIfInBounds_toArray, List.set_cons_zero, List.set_cons_succ])
          go_simp
          refine (specWriteG _ _ F x t w1 (ST.out.fg.kept hJ.kept (by omega)).rd BD.out.fits BD.out.ss BD.out.ds (by omega)).mono ?_
          rintro e w2 ⟨sv', dv', rfl, hg, hb2⟩
          exact hK _ _ ⟨_, _, _, _, _, _, _, _, _, by (simp only [fr5_eq, Act.put, List.setIfInBounds_toArray, List.set_cons_zero, List.set_cons_succ]), hJ.p7 hl hbW _ sv' dv' ⟨x, t, rfl⟩ hg hb2⟩
        · (simp only [fr5_eq, Act.put, List.setIfInBounds_toArray, List.set_cons_zero, List.set_cons_succ])
          go_simp
          exact hK _ _ ⟨_, _, _, _, _, _, _, _, _, by (simp only [fr5_eq, Act.put, List.setIfInBounds_toArray, List.set_cons_zero, List.set_cons_succ]), hJ.p8 hl hbW⟩
        · obtain ⟨q8, q7, q0, q1, q2, q3, q4, q5, q6, -⟩ := hd
          obtain ⟨p, O, sv', dv', rfl, rfl, hx, hg9, hJ⟩ := hJ.p9 hl (fun i hi => by
            have : i = 0 ∨ i = 1 ∨ i = 2 ∨ i = 3 ∨ i = 4 ∨ i = 5 ∨ i = 6 ∨ i = 7 ∨ i = 8 := by omega
            rcases this with rfl | rfl | rfl | rfl | rfl | rfl | rfl | rfl | rfl <;> assumption) hbW
          obtain ⟨a5, n5, rfl, -⟩ := id hg9.1.2
          obtain ⟨a6, n6, rfl, -⟩ := id hg9.2.1.2
          have c0 := hx.q0
          have c1 := hx.q1
          have c2 := hx.q2
          have c3 := hx.q3
          have f0 := hx.frozen 0
          have f1 := hx.frozen 1
          have f2 := hx.frozen 2
          have f3 := hx.frozen 3
          (simp only [fr5_eq, Act.put, List.setIfInBounds_toArray, List.set_cons_zero, List.set_cons_succ])
          go_simp
          refine hK _ _ ?_
          exact ⟨_, _, _, _, _, _, _, _, _, by (simp only [fr5_eq, Act.put, List.setIfInBounds_toArray, List.set_cons_zero, List.set_cons_succ]), hJ⟩
      · rintro a1 W1 ⟨v5, v16, v17, v18, v19, v20, v21, v22, v23, ha, hJ⟩
        subst ha
        obtain ⟨p, O, sv', dv', rfl, hp, ⟨at_, x, rfl⟩, hx, hg, hap⟩ := hJ.k9 rfl
        have ST1 := Lib.hid (ST.out.keep hJ.kept hJ.src hbl hm)
        (simp only [fr5_eq, Act.put, List.setIfInBounds_toArray, List.set_cons_zero, List.set_cons_succ])
        go_wp2_with fail
        have HX := Lib.hid hx
        have HG := Lib.hid hg
        have hz1 : wr.heap.size ≤ W1.heap.size := hJ.kept.size
        have mn : IntKind.i64.wrap ((n : Int) - 1) = ((n - 1 : Nat) : Int) := by rw [IntWalk.i64_in _ (by omega)]; omega
        have hfp : Hid (Apart (.slice a3 F.sec.length n3) (.slice a4 F.dir.length n4) F p) := Lib.hid (fun k hk => by have := (ST.out.fg.in k hk).2; omega)
        clear hJ hx hg hap ST
        refine (one_any b a len cap 4 W1 ST1.out.src (HR.out.kept ST1.out.kept) (by omega) (by omega)).mono ?_
        rintro e W2 ⟨v, rfl, hs2, hk2⟩
        have ST2 := Lib.hid (ST1.out.keep hk2 hs2 hbl hm)
        have hx2 := HX.out.kept hk2 (show p ≠ b by omega)
        have HG2 := Lib.hid (HG.out.kept hk2 hbW)
        have hz2 : wr.heap.size ≤ W2.heap.size := Nat.le_trans hz1 hk2.size
        clear HX HG ST1 hs2 hk2 KW
        obtain ⟨O, hO⟩ : ∃ O, O = writeOf F at_ x := ⟨_, rfl⟩
        have HO := Lib.hid hO
        rw [← hO] at hx2 HG2
        clear hO
        obtain ⟨a7, n7, rfl, -⟩ := id HG2.out.1.2
        obtain ⟨a8, n8, rfl, -⟩ := id HG2.out.2.1.2
        cases v with
        | false =>
          have y0 := hx2.q0
          have y1 := hx2.q1
          have y2 := hx2.q2
          have y3 := hx2.q3
          have m0 := ST2.out.box.c0
          have m1 := ST2.out.box.c1
          have g0 := ST2.out.box.frozen 0
          have g1 := ST2.out.box.frozen 1
          clear hx2
          by_cases hc : O.code = 0
          · have D0 : (O.code == 0) = true := by simpa using hc
            have D1 : (decide (O.code = 0)) = true := by simpa using hc
            have HST4 := Lib.hid (ST2.out.store HG2.out hmW hbl hm)
            have BD4 : Hid (Bd O.fl) := Lib.hid (by rw [HO.out] at hc ⊢; exact BD.out.write hc)
            go_wp2
            go_roundw
            case rel => exact ⟨n - 1, _, _, _, by omega, rfl, BD4.out, HST4.out⟩
            case measure => simp [intOf]; omega
          · have D0 : (O.code == 0) = false := by simpa using hc
            have D1 : (decide (O.code = 0)) = false := by simpa using hc
            go_wp2
            go_roundw
            case rel => exact ⟨n - 1, _, _, _, by omega, rfl, BD.out, ST2.out⟩
            case measure => simp [intOf]; omega
        | true =>
          have HX2 := Lib.hid hx2
          have c0 := ST2.out.box.c0
          have c1 := ST2.out.box.c1
          clear hx2
          obtain ⟨Y, hY⟩ : ∃ Y, Y = fsyncOf F := ⟨_, rfl⟩
          have HY := Lib.hid hY
          have HC := Lib.hid (specFSyncG _ _ F W2 ST2.out.fg.rd BD.out.fits BD.out.ss BD.out.ds)
          rw [← hY] at HC
          clear hY
          go_wp2_with fail
          refine HC.out.mono ?_
          rintro e W3 ⟨su, du, rfl, hg3, hb3⟩
          have ST3 := Lib.hid (ST2.out.next hb3 hbl hm)
          have hx3 := HX2.out.next hb3
          have hp2 := HX2.out.lt
          obtain ⟨a9, n9, rfl, -⟩ := id hg3.1.2
          obtain ⟨a10, n10, rfl, -⟩ := id hg3.2.1.2
          have y0 := hx3.q0
          have y1 := hx3.q1
          have y2 := hx3.q2
          have y3 := hx3.q3
          have f0 := hx3.frozen 0
          have f1 := hx3.frozen 1
          have f2 := hx3.frozen 2
          have f3 := hx3.frozen 3
          have ap3 : Apart (.slice a9 Y.fl.sec.length n9) (.slice a10 Y.fl.dir.length n10) Y.fl p := fun k hk => by have := (hg3.in k hk).1; omega
          have ST4 := Lib.hid (ST3.out.set4 (show m < p by omega) hfp.out hbl hm (.slice a9 Y.fl.sec.length n9) (.slice a10 Y.fl.dir.length n10) (.string Y.data) (.int .i64 Y.code))
          have HG4 := Lib.hid (hg3.set4 ap3 (.slice a9 Y.fl.sec.length n9) (.slice a10 Y.fl.dir.length n10) (.string Y.data) (.int .i64 Y.code))
          have m0 := ST3.out.box.c0
          have m1 := ST3.out.box.c1
          have g0 := ST3.out.box.frozen 0
          have g1 := ST3.out.box.frozen 1
          have hpm : p ≠ m := by omega
          have hmp : m ≠ p := by omega
          simp only [set4] at ST4 HG4
          clear hx3 ap3 hg3 hb3 HX2 ST2 ST3 HG2 HO c0 c1 HC
          by_cases hc : Y.code = 0
          · have D0 : (Y.code == 0) = true := by simpa using hc
            have D1 : (decide (Y.code = 0)) = true := by simpa using hc
            have HST4 := Lib.hid (ST4.out.store HG4.out (by omega) hbl hm)
            rw [hc] at HST4
            have BD4 : Hid (Bd Y.fl) := Lib.hid (by rw [HY.out] at hc ⊢; exact BD.out.sync hc)
            go_wp2
            go_roundw
            case rel => exact ⟨n - 1, _, _, _, by omega, rfl, BD4.out, HST4.out⟩
            case measure => simp [intOf]; omega
          · have D0 : (Y.code == 0) = false := by simpa using hc
            have D1 : (decide (Y.code = 0)) = false := by simpa using hc
            go_wp2
            go_roundw
            case rel => exact ⟨n - 1, _, _, _, by omega, rfl, BD.out, ST4.out⟩
            case measure => simp [intOf]; omega
    · obtain rfl : n = 0 := by omega
      go_wp2_with fail
      refine (one_any b a len cap 15 wr ST.out.src (HR.out.kept ST.out.kept) (by omega) (by omega)).mono ?_
      rintro e W1 ⟨v, rfl, hs1, hk1⟩
      have ST1 := Lib.hid (ST.out.keep hk1 hs1 hbl hm)
      clear ST KW hs1 hk1 hbW hmW
      cases v with
      | false =>
        have k0 := ST1.out.box.c0
        have k1 := ST1.out.box.c1
        have r0 := ST1.out.ans.c0
        have r1 := ST1.out.ans.c1
        have g0 := ST1.out.ans.frozen 0
        have g1 := ST1.out.ans.frozen 1
        obtain ⟨hans, hfin⟩ := ST1.out.answer BD.out.df hbl
        have FIN := Lib.hid hfin
        have q0 := hans.c0
        have q1 := hans.c1
        clear hans hfin
        go_wp2_with fail
        refine bodyPost_ret (v := .agg #[.slice a3 F.sec.length n3, .slice a4 F.dir.length n4]) (by simp [results, Try.results26, go_sem, q0, q1]) rfl FIN.out
      | true =>
        go_wp2_with fail
        refine (n_any b a len cap 4 W1 ST1.out.src (HR.out.kept ST1.out.kept) (by omega) (by omega)).mono ?_
        rintro e W2 ⟨x4, ⟨p0, p1⟩, rfl, hs2, hk2⟩
        have ST2 := Lib.hid (ST1.out.keep hk2 hs2 hbl hm)
        clear ST1 hs2 hk2
        have hx4 : x4 = 0 ∨ x4 = 1 ∨ x4 = 2 ∨ x4 = 3 := by omega
        clear p0 p1
        rcases hx4 with rfl | rfl | rfl | rfl
        · have k0 := ST2.out.box.c0
          have k1 := ST2.out.box.c1
          have f0 := ST2.out.box.frozen 0
          have ST3 := Lib.hid (ST2.out.bare hbl hm)
          have DF3 : Hid (DF ⟨[], F.dir⟩) := Lib.hid ⟨by simp, BD.out.df.dirty, fun s hs => by simp at hs, BD.out.df.dir⟩
          have k0 := ST3.out.box.c0
          have k1 := ST3.out.box.c1
          have r0 := ST3.out.ans.c0
          have r1 := ST3.out.ans.c1
          have g0 := ST3.out.ans.frozen 0
          have g1 := ST3.out.ans.frozen 1
          obtain ⟨hans, hfin⟩ := ST3.out.answer DF3.out hbl
          have FIN := Lib.hid hfin
          have q0 := hans.c0
          have q1 := hans.c1
          clear hans hfin
          go_wp2_with fail
          refine bodyPost_ret (v := .agg #[.slice none 0 0, .slice a4 F.dir.length n4]) (by simp [results, Try.results26, go_sem, q0, q1]) rfl FIN.out
        · obtain ⟨j0, hj, hy0, hy1, hy2⟩ := info_parts Try.infoD
          have hd41 := BD.out.dirty
          go_wp2_with fail
          refine wp_region_inv0 (fun a0 l a1 w1 => ∃ v54 v55 v56 v57 v58 v59 v60 v61 : Value, a1 = fr17 a0 v54 v55 v56 v57 v58 v59 v60 v61 ∧ J17 b a len cap w m F (.slice a3 F.sec.length n3) (.slice a4 F.dir.length n4) l w1 v54 v55 v56 v57 v58 v59 v60 v61) (by kernel_rfl) (by kernel_rfl) ?_ ?_ ?_
          · refine ⟨_, _, _, _, _, _, _, _, fr17_self _, ⟨fun _ _ h => absurd h (by decide), fun h => absurd h (by decide), fun _ => ST2.out.keep (Kept.refl b W2).drew ST2.out.src.drew hbl hm, fun h => absurd h (by decide), fun h => absurd h (by decide), fun h => absurd h (by decide), fun h => absurd h (by decide), fun h => absurd h (by decide), fun h => absurd h (by decide), fun h => absurd h (by decide), fun h => absurd h (by decide), fun h => absurd h (by decide)⟩⟩
          · refine ⟨⟨⟨⟨⟨⟨⟨⟨⟨trivial, ?_⟩, ?_⟩, ?_⟩, ?_⟩, ?_⟩, ?_⟩, ?_⟩, ?_⟩, ?_⟩
            all_goals (intro o ho l a1 w1 hJ hl hd K hK; obtain rfl := Option.some.inj ho; clear ho; obtain ⟨v54, v55, v56, v57, v58, v59, v60, v61, ha, hJ⟩ := hJ; subst ha; simp [Region.binds] at hd)
            · rw [if_pos (by rfl)]
              (simp only [fr17_eq, Act.put, List.setIfInBounds_toArray, List.set_cons_zero, List.set_cons_succ])
              go_simp
              exact hK _ _ ⟨_, _, _, _, _, _, _, _, by (simp only [fr17_eq, Act.put, List.setIfInBounds_toArray, List.set_cons_zero, List.set_cons_succ]), hJ.p0⟩
            · obtain rfl := hJ.k0 hd
              have c1 := (hJ.st (hJ.off (by decide) hl)).box.c1
              rw [if_pos (by rfl)]
              (simp only [fr17_eq, Act.put, List.setIfInBounds_toArray, List.set_cons_zero, List.set_cons_succ])
              go_simp
              exact hK _ _ ⟨_, _, _, _, _, _, _, _, by (simp only [fr17_eq, Act.put, List.setIfInBounds_toArray, List.set_cons_zero, List.set_cons_succ]), hJ.p1⟩
            · rw [if_pos (by rfl)]
              (simp only [fr17_eq, Act.put, List.setIfInBounds_toArray, List.set_cons_zero, List.set_cons_succ])
              go_simp
              exact hK _ _ ⟨_, _, _, _, _, _, _, _, by (simp only [fr17_eq, Act.put, List.setIfInBounds_toArray, List.set_cons_zero, List.set_cons_succ]), hJ.p2⟩
            · obtain rfl := hJ.k2 hd
              have h6 := hJ.off (by decide) hl
              have st := hJ.st h6
              rw [if_pos (by rfl)]
              (simp only [fr17_eq, Act.put, List.setIfInBounds_toArray, List.set_cons_zero, List.set_cons_succ])
              go_simp
              refine (n_any b a len cap 8 w1 st.src (HR.out.kept st.kept) (by omega) (by omega)).mono ?_
              rintro e w5 ⟨x5, -, rfl, hs5, hk5⟩
              exact hK _ _ ⟨_, _, _, _, _, _, _, _, by (simp only [fr17_eq, Act.put, List.setIfInBounds_toArray, List.set_cons_zero, List.set_cons_succ]), (hJ.keep h6 hk5 hs5 hbl hm).p3 x5⟩
            · obtain ⟨x5, rfl⟩ := hJ.k3 hd
              rw [if_pos (by rfl)]
              (simp only [fr17_eq, Act.put, List.setIfInBounds_toArray, List.set_cons_zero, List.set_cons_succ])
              go_simp
              exact hK _ _ ⟨_, _, _, _, _, _, _, _, by (simp only [fr17_eq, Act.put, List.setIfInBounds_toArray, List.set_cons_zero, List.set_cons_succ]), hJ.p4 x5⟩
            · obtain ⟨x5, rfl⟩ := hJ.k4 hd
              rw [if_pos (by rfl)]
              (simp only [fr17_eq, Act.put, List.setIfInBounds_toArray, List.set_cons_zero, List.set_cons_succ])
              go_simp
              exact hK _ _ ⟨_, _, _, _, _, _, _, _, by (simp only [fr17_eq, Act.put, List.setIfInBounds_toArray, List.set_cons_zero, List.set_cons_succ]), hJ.p5 hl x5 hbl hm⟩
            · obtain rfl := hJ.k1 hd.1
              obtain ⟨x5, p5, rfl, -, hx5⟩ := hJ.k5 hd.2.1 hl
              have st := hJ.st hl
              rw [if_pos (by rfl)]
              (simp only [fr17_eq, Act.put, List.setIfInBounds_toArray, List.set_cons_zero, List.set_cons_succ])
              refine wp_append_gr (lo := w.heap.size + 1) (e := 63) (sz := 2) (v := .slice a4 F.dir.length n4) (n := F.dir.length) (xs := dirs F.dir) (.tmp 55) (.tmp 59) 24 (by rfl) j0 _ 24 Try.underlying24 hj hy0 hy1 hy2 rfl (by decide) (by rfl) (dirs_length _) st.fg.2.2.2.2 ⟨p5, 0, none⟩ 1 1 (by rfl) [.int .i64 x5, .string ⟨#[]⟩] (by decide) rfl ?_ ?_ (by unfold maxLen; omega) (by omega) (by have := st.box.lt; omega) ?_
              · intro jj u hu
                match jj, hu with
                | 0, hu => simp at hu; subst hu; exact hx5.cell 0
                | 1, hu => simp at hu; subst hu; exact hx5.cell 1
                | jj + 2, hu => simp at hu
              · intro u hu; simp at hu; rcases hu with rfl | rfl <;> rfl
              · intro gg cc w6 hgn hgr hloc
                refine hK _ _ ?_
                exact ⟨_, _, _, _, _, _, _, _, by first | ((simp only [fr17_eq, Act.put, List.setIfInBounds_toArray, List.set_cons_zero, List.set_cons_succ]); done) | (simp only [fr17_eq, Act.put, List.getElem_toArray, List.getElem_cons_succ, List.getElem_cons_zero, List.setIfInBounds_toArray, List.set_cons_zero, List.set_cons_succ]; done) | (simp [fr17_eq, Act.put]; done), hJ.p6 hl (fun i hi => by rcases hi with rfl | rfl | rfl <;> first | exact hd.1 | exact hd.2.2 | exact hd.2.1) x5 gg cc hgn hgr hloc⟩
            · rw [if_pos (by rfl)]
              (simp only [fr17_eq, Act.put, List.setIfInBounds_toArray, List.set_cons_zero, List.set_cons_succ])
              go_simp
              exact hK _ _ ⟨_, _, _, _, _, _, _, _, by (simp only [fr17_eq, Act.put, List.setIfInBounds_toArray, List.set_cons_zero, List.set_cons_succ]), hJ.p7⟩
            · obtain ⟨gg, cc, -, rfl, hbx, hJ8⟩ := hJ.p8 hl hd.2.1 hbl hm
              obtain rfl := hJ.k7 hd.1
              have c1 := hbx.c1
              have f1 := hbx.frozen 1
              rw [if_pos (by rfl)]
              (simp only [fr17_eq, Act.put, List.setIfInBounds_toArray, List.set_cons_zero, List.set_cons_succ])
              go_simp
              refine hK _ _ ?_
              exact ⟨_, _, _, _, _, _, _, _, by (simp only [fr17_eq, Act.put, List.setIfInBounds_toArray, List.set_cons_zero, List.set_cons_succ]), hJ8⟩
          · rintro a1 W3 ⟨v54, v55, v56, v57, v58, v59, v60, v61, ha, hJ⟩
            subst ha
            obtain ⟨x5, gg, cc, hst3⟩ := hJ.k8 rfl
            have ST3 := Lib.hid hst3
            have DF3 : Hid (DF ⟨F.sec, F.dir ++ [(x5, ⟨#[]⟩)]⟩) := Lib.hid ⟨BD.out.df.most, by simp; omega, BD.out.df.sec, fun d hd => by
              rcases List.mem_append.1 hd with hd | hd
              · exact BD.out.df.dir d hd
              · simp at hd; subst hd; simp [ByteArray.size]⟩
            clear hJ hst3 ST2
            (simp only [fr17_eq, Act.put, List.setIfInBounds_toArray, List.set_cons_zero, List.set_cons_succ])
            have k0 := ST3.out.box.c0
            have k1 := ST3.out.box.c1
            have r0 := ST3.out.ans.c0
            have r1 := ST3.out.ans.c1
            have g0 := ST3.out.ans.frozen 0
            have g1 := ST3.out.ans.frozen 1
            obtain ⟨hans, hfin⟩ := ST3.out.answer DF3.out hbl
            have FIN := Lib.hid hfin
            have q0 := hans.c0
            have q1 := hans.c1
            clear hans hfin
            go_wp2_with fail
            refine bodyPost_ret (v := .agg #[.slice a3 F.sec.length n3, .slice (some ⟨gg, 0, none⟩) (F.dir.length + 1) cc]) (by simp [results, Try.results26, go_sem, q0, q1]) rfl FIN.out
        · have hlst := BD.out.least
          obtain ⟨g3, off3, rfl, -⟩ := ST2.out.fg.1.get (by omega)
          obtain rfl := ST2.out.fg.2.2.2.1.at0 (by omega)
          obtain ⟨j0, hj, hy0, hy1, hy2⟩ := info_parts Try.infoU8
          have e00 : (0 : Int) < (F.sec.length : Int) := by omega
          go_wp2_with fail
          refine wp_region_inv0 (fun a0 l a1 w1 => ∃ v64 v65 v66 v67 v68 v69 v70 v71 : Value, a1 = fr19 a0 v64 v65 v66 v67 v68 v69 v70 v71 ∧ J19 b a len cap w m F g3 n3 (.slice a4 F.dir.length n4) l w1 v64 v65 v66 v67 v68 v69 v70 v71) (by kernel_rfl) (by kernel_rfl) ?_ ?_ ?_
          · refine ⟨_, _, _, _, _, _, _, _, fr19_self _, ⟨fun _ _ h => absurd h (by decide), fun _ _ h => absurd h (by decide), fun _ => ST2.out.keep (Kept.refl b W2).drew ST2.out.src.drew hbl hm, fun h => absurd h (by decide), fun h => absurd h (by decide), fun h => absurd h (by decide), fun h => absurd h (by decide), fun h => absurd h (by decide), fun h => absurd h (by decide), fun h => absurd h (by decide), fun h => absurd h (by decide), fun h => absurd h (by decide)⟩⟩
          · refine ⟨⟨⟨⟨⟨⟨⟨⟨⟨trivial, ?_⟩, ?_⟩, ?_⟩, ?_⟩, ?_⟩, ?_⟩, ?_⟩, ?_⟩, ?_⟩
            all_goals (intro o ho l a1 w1 hJ hl hd K hK; obtain rfl := Option.some.inj ho; clear ho; obtain ⟨v64, v65, v66, v67, v68, v69, v70, v71, ha, hJ⟩ := hJ; subst ha; simp [Region.binds] at hd)
            · rw [if_pos (by rfl)]
              (simp only [fr19_eq, Act.put, List.setIfInBounds_toArray, List.set_cons_zero, List.set_cons_succ])
              go_simp
              exact hK _ _ ⟨_, _, _, _, _, _, _, _, by (simp only [fr19_eq, Act.put, List.setIfInBounds_toArray, List.set_cons_zero, List.set_cons_succ]), hJ.p0⟩
            · obtain rfl := hJ.k0 hd
              have c0 := (hJ.st (hJ.off (by decide) hl)).box.c0
              rw [if_pos (by rfl)]
              (simp only [fr19_eq, Act.put, List.setIfInBounds_toArray, List.set_cons_zero, List.set_cons_succ])
              go_simp
              exact hK _ _ ⟨_, _, _, _, _, _, _, _, by (simp only [fr19_eq, Act.put, List.setIfInBounds_toArray, List.set_cons_zero, List.set_cons_succ]), hJ.p1⟩
            · rw [if_pos (by rfl)]
              (simp only [fr19_eq, Act.put, List.setIfInBounds_toArray, List.set_cons_zero, List.set_cons_succ])
              go_simp
              exact hK _ _ ⟨_, _, _, _, _, _, _, _, by (simp only [fr19_eq, Act.put, List.setIfInBounds_toArray, List.set_cons_zero, List.set_cons_succ]), hJ.p2⟩
            · obtain rfl := hJ.k2 hd
              have h8 := hJ.off (by decide) hl
              have st := hJ.st h8
              rw [if_pos (by rfl)]
              (simp only [fr19_eq, Act.put, List.setIfInBounds_toArray, List.set_cons_zero, List.set_cons_succ])
              go_simp
              refine (n_any b a len cap 2 w1 st.src (HR.out.kept st.kept) (by omega) (by omega)).mono ?_
              rintro e w5 ⟨x5, ⟨y0, y1⟩, rfl, hs5, hk5⟩
              exact hK _ _ ⟨_, _, _, _, _, _, _, _, by (simp only [fr19_eq, Act.put, List.setIfInBounds_toArray, List.set_cons_zero, List.set_cons_succ]), (hJ.keep h8 hk5 hs5 hbl hm).p3 x5 y0 y1⟩
            · obtain ⟨x5, rfl, y0, y1⟩ := hJ.k3 hd
              have hw5 : IntKind.i64.wrap (96 + x5) = 96 + x5 := IntWalk.i64_in _ (by omega)
              rw [if_pos (by rfl)]
              (simp only [fr19_eq, Act.put, List.setIfInBounds_toArray, List.set_cons_zero, List.set_cons_succ])
              go_simp
              obtain ⟨n5, hn5⟩ : ∃ n5 : Nat, 96 + x5 = (n5 : Int) := ⟨(96 + x5).toNat, by omega⟩
              exact hK _ _ ⟨_, _, _, _, _, _, _, _, by (simp only [fr19_eq, Act.put, List.setIfInBounds_toArray, List.set_cons_zero, List.set_cons_succ]), hJ.p4 hn5 (by omega) (by omega)⟩
            · obtain ⟨n5, rfl, y0, y1⟩ := hJ.k4 hd
              rw [if_pos (by rfl)]
              (simp only [fr19_eq, Act.put, List.setIfInBounds_toArray, List.set_cons_zero, List.set_cons_succ])
              refine wp_make_own (.tmp 68) (.tmp 68) 22 (by rfl) 5 j0 _ 1 Try.underlying22 hj hy0 hy1 n5 (by rfl) (by rfl) (by rw [hy2]; omega) (by unfold maxLen; omega) ?_
              intro w6 ho6 hg6
              refine hK _ _ ?_
              exact ⟨_, _, _, _, _, _, _, _, by (first | (simp only [fr19_eq, Act.put, List.setIfInBounds_toArray, List.set_cons_zero, List.set_cons_succ]; done) | (simp only [fr19_eq, Act.put, List.getElem_toArray, List.getElem_cons_succ, List.getElem_cons_zero, List.setIfInBounds_toArray, List.set_cons_zero, List.set_cons_succ]; done) | (simp [fr19_eq, Act.put]; done)), hJ.p5 hl n5 y0 y1 ho6 hg6 hbl hm⟩
            · have h8 := hJ.off (by decide) hl
              obtain ⟨n5, p5, c5, rfl, y0, -, -, hz5⟩ := hJ.k5 hd h8
              rw [if_pos (by rfl)]
              (simp only [fr19_eq, Act.put, List.setIfInBounds_toArray, List.set_cons_zero, List.set_cons_succ])
              refine wp_conv_zero (.tmp 69) 22 9 (by rfl) 5 Try.underlying22 Try.underlying5 Try.underlying9 p5 n5 c5 (by rfl) hz5 ?_
              refine hK _ _ ?_
              exact ⟨_, _, _, _, _, _, _, _, by (first | (simp only [fr19_eq, Act.put, List.setIfInBounds_toArray, List.set_cons_zero, List.set_cons_succ]; done) | (simp only [fr19_eq, Act.put, List.getElem_toArray, List.getElem_cons_succ, List.getElem_cons_zero, List.setIfInBounds_toArray, List.set_cons_zero, List.set_cons_succ]; done) | (simp [fr19_eq, Act.put]; done)), hJ.p6 ⟨(List.replicate n5 (0 : UInt8)).toArray⟩ (by rw [zsize]; omega)⟩
            · obtain rfl := hJ.k1 hd.1
              have e0n : 0 < F.sec.length := by omega
              rw [if_pos (by rfl)]
              (simp only [fr19_eq, Act.put, List.setIfInBounds_toArray, List.set_cons_zero, List.set_cons_succ])
              go_simp
              refine hK _ _ ?_
              exact ⟨_, _, _, _, _, _, _, _, by (simp only [fr19_eq, Act.put, List.setIfInBounds_toArray, List.set_cons_zero, List.set_cons_succ]), hJ.p7 ⟨hd.2.1, hd.1, hd.2.2.2.1, hd.2.2.2.2.1, hd.2.2.2.2.2.1, hd.2.2.2.2.2.2.1, hd.2.2.2.2.2.2.2⟩⟩
            · obtain ⟨s5, rfl, y0⟩ := hJ.k6 (hJ.m7 6 (by decide) hd.1)
              obtain rfl := hJ.k7 hd.1
              have st := hJ.st hl
              obtain ⟨⟨u0, hu0⟩, hf0⟩ := st.fg.1.cellEx 0 (by omega)
              rw [Nat.zero_add] at hu0 hf0
              rw [if_pos (by rfl)]
              (simp only [fr19_eq, Act.put, List.setIfInBounds_toArray, List.set_cons_zero, List.set_cons_succ])
              go_simp
              refine hK _ _ ?_
              exact ⟨_, _, _, _, _, _, _, _, by (simp only [fr19_eq, Act.put, List.setIfInBounds_toArray, List.set_cons_zero, List.set_cons_succ]), hJ.p8 hl (fun i hi => if h7 : i = 7 then h7 ▸ hd.1 else hJ.m7 i (by omega) hd.1) (by omega) hbl s5 y0⟩
          · rintro a1 W3 ⟨v64, v65, v66, v67, v68, v69, v70, v71, ha, hJ⟩
            subst ha
            obtain ⟨s5, hs5, hst3⟩ := hJ.k8 rfl
            have ST3 := Lib.hid hst3
            have DF3 : Hid (DF ⟨F.sec.set 0 s5, F.dir⟩) := Lib.hid ⟨by have := BD.out.df.most; simpa using this, BD.out.df.dirty, fun s hs => by
              rcases List.mem_or_eq_of_mem_set hs with h | h
              · exact BD.out.df.sec s h
              · rw [h]; exact hs5, BD.out.df.dir⟩
            clear hJ hst3 ST2
            (simp only [fr19_eq, Act.put, List.setIfInBounds_toArray, List.set_cons_zero, List.set_cons_succ])
            have k0 := ST3.out.box.c0
            have k1 := ST3.out.box.c1
            have r0 := ST3.out.ans.c0
            have r1 := ST3.out.ans.c1
            have g0 := ST3.out.ans.frozen 0
            have g1 := ST3.out.ans.frozen 1
            obtain ⟨hans, hfin⟩ := ST3.out.answer DF3.out hbl
            have FIN := Lib.hid hfin
            have q0 := hans.c0
            have q1 := hans.c1
            clear hans hfin
            go_wp2_with fail
            refine bodyPost_ret (v := .agg #[.slice (some ⟨g3, 0, none⟩) F.sec.length n3, .slice a4 F.dir.length n4]) (by simp [results, Try.results26, go_sem, q0, q1]) rfl FIN.out
        · obtain ⟨i0, hi, hz0, hz1, hz2⟩ := info_parts Try.info9
          go_wp2_with fail
          go_loopw [] (fun wr2 => ∃ (G : FM) (su du : Value), DF G ∧ FSt b a len cap w m G su du wr2) (fun wr2 => 42 - lenAt m wr2)
          case atStart => exact ⟨F, _, _, BD.out.df, ST2.out⟩
          case round =>
            obtain ⟨G, su, du, hdf, hst⟩ := hrel
            obtain ⟨a5, n5, rfl, -⟩ := id hst.fg.1.2
            obtain ⟨a6, n6, rfl, -⟩ := id hst.fg.2.1.2
            have HDF := Lib.hid hdf
            have ST3 := Lib.hid hst
            have k0 := hst.box.c0
            have k1 := hst.box.c1
            have hx3 := Lib.hid hst.box
            have hmb : m ≠ b := by omega
            have hl41 := hdf.most
            clear hdf hst ST2
            go_wp2_with fail
            go_region_held3 (fun w' => w'.cell? ⟨m, 0, none⟩ = some (.slice a5 G.sec.length n5) ∧ w'.cell? ⟨m, 1, none⟩ = some (.slice a6 G.dir.length n6) ∧ Kept b wr w')
              (first | (with_reducible exact keepM hx3.out hmb (Kept.refl b wr).drew) | (with_reducible exact keepM hx3.out hmb HK5.out))
              ((go_at_call 27; refine (n_any b a len cap 2 _ ST3.out.src.drew (HR.out.kept ST3.out.kept.drew) (by omega) (by omega)).mono ?_; rintro e w5 ⟨x5, ⟨x50, x51⟩, rfl, hs5, hk5⟩; have HK5 := Lib.hid ((Kept.refl b wr).drew.trans hk5); have HS5 := Lib.hid hs5; have mm : IntKind.i64.wrap (40 + x5) = 40 + x5 := (IntWalk.i64_in _ (by omega)); clear hs5 hk5))
            have ST4 := Lib.hid (ST3.out.keep HK5.out HS5.out hbl hm)
            have LK := Lib.hid k0
            clear ST3 hx3 k0 k1
            by_cases hlt : (G.sec.length : Int) < 40 + x5
            · have D : (decide ((G.sec.length : Int) < 40 + x5)) = true := by simpa using hlt
              have k0 := ST4.out.box.c0
              have k1 := ST4.out.box.c1
              have hb5 := below_alloc1 w5 (.cells #[.string { data := #[] }] 9)
              have ST5 := Lib.hid (ST4.out.next hb5 hbl hm)
              have hz5 : w.heap.size + 1 ≤ w5.heap.size := by have := ST4.out.box.lt; omega
              go_wp2_with ((with_reducible show wpList _ _ _ (⟨some 47, _, _, _, _, _⟩ :: _) _ _); refine wpList_append_gr (lo := w.heap.size + 1) (e := 9) (sz := 1) (v := .slice a5 G.sec.length n5) (n := G.sec.length) (xs := strs G.sec) rfl (.tmp 45) (.tmp 46) 23 rfl i0 _ 16 Try.underlying23 hi hz0 hz1 hz2 rfl (by decide) rfl (by simp [strs]) ?_ ⟨w5.heap.size, 0, none⟩ 1 1 rfl [.string ⟨#[]⟩] (by decide) rfl ?_ ?_ (by unfold maxLen; omega) (by omega) (by simp; omega) ?_)
              · exact ST5.out.fg.2.2.2.1
              · intro jj u hu
                cases jj with
                | zero => simp at hu; subst hu; exact (bx_new w5 9 #[.string { data := #[] }]).cell 0
                | succ jj => simp at hu
              · intro u hu; simp at hu; subst hu; rfl
              · intro gg cc w6 hgn hgr hloc
                have hst6 := ST5.out.growS hbl hm ⟨#[]⟩ gg cc hgn hgr (hloc.imp id (fun q => by rw [size_alloc1]; exact q))
                have hbox : Bx w6 m 26 #[.slice a5 G.sec.length n5, .slice a6 G.dir.length n6] := ST5.out.box.grown hgr (fun e => ST5.out.ap m (.inl e.symm) rfl)
                have l0 := hbox.c0
                have l1 := hbox.frozen 0
                have ST6 := Lib.hid hst6
                have HLN := Lib.hid (show lenAt m (w6.setCell ⟨m, 0, none⟩ (.slice (some ⟨gg, 0, none⟩) (G.sec.length + 1) cc)) = G.sec.length + 1 from lenAt_of hst6.box.c0)
                have HLO := Lib.hid (show lenAt m wr = G.sec.length from lenAt_of LK.out)
                have DF6 : Hid (DF ⟨G.sec ++ [⟨#[]⟩], G.dir⟩) := Lib.hid ⟨by simp; omega, HDF.out.dirty, fun s hs => by
                  rcases List.mem_append.1 hs with hs | hs
                  · exact HDF.out.sec s hs
                  · simp at hs; subst hs; simp [ByteArray.size], HDF.out.dir⟩
                clear hst6 hbox hgn hgr hloc k0 k1
                go_wp2
                go_roundw
                case rel => exact ⟨_, _, _, DF6.out, ST6.out⟩
                case measure => rw [HLN.out, HLO.out]; omega
            · have D : (decide ((G.sec.length : Int) < 40 + x5)) = false := by simpa using hlt
              have k0 := ST4.out.box.c0
              have k1 := ST4.out.box.c1
              have r0 := ST4.out.ans.c0
              have r1 := ST4.out.ans.c1
              have g0 := ST4.out.ans.frozen 0
              have g1 := ST4.out.ans.frozen 1
              obtain ⟨hans, hfin⟩ := ST4.out.answer HDF.out hbl
              have FIN := Lib.hid hfin
              have q0 := hans.c0
              have q1 := hans.c1
              clear hans hfin
              go_wp2_with fail
              refine bodyPost_ret (v := .agg #[.slice a5 G.sec.length n5, .slice a6 G.dir.length n6]) (by simp [results, Try.results26, go_sem, q0, q1]) rfl FIN.out
end Go.Proofs.Ytkeimgglikdbfaa
