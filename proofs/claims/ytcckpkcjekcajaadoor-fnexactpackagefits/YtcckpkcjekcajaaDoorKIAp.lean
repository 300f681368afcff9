/- slices.Clone at []string, with the capacity; and ImageApply of the program, with the capacity. -/
import Derived.Test.YtcckpkcjekcajaaDoorCIAp
namespace Go.Proofs.YtcckpkcjekcajaaDoor
open Go.RowKit

theorem Gr.cap0 {w : World} {lo e sz n c : Nat} {a : Option Addr} {xs : List Value} (h : Gr w lo e sz (.slice a n c) n xs) : n ≤ c := by
  rcases h with ⟨h0, h1, ⟨h2, h3⟩ | ⟨g, cap, cur, h2, h3, h4, h5, h6⟩⟩ | ⟨rfl, -, -⟩
  · omega
  · simp only [Value.slice.injEq] at h2
    obtain ⟨-, -, rfl⟩ := h2
    exact h5
  · exact Nat.zero_le _
theorem wpList_append_copyK {P : Program} (w : World) {ops : Array Oper} {rest : List Oper} {o : Oper} {a : Act} {Q : Exit → Act → World → Prop} (hg : o.guard = none) (s x : Operand) (t : TypeId)
    (hop : o.op = Op.call { callee := Callee.builtin Builtin.append, args := #[s, x], argTypes := #[t, t] })
    (e : TypeId) (i : TypeInfo) (z : Value) (sz bytes : Nat) (ht : P.underlying t = some (.slice e)) (hi : P.info? e = some i) (hz : i.zero = some z) (hsize : i.size = sz) (hby : i.bytes = bytes) (hzs : z.cells.size = sz) (hsz : 0 < sz)
    (g : Addr) (hs : a.eval s = .slice (some g) 0 0) (src : Value) (hx : a.eval x = src) (n : Nat) (xs : List Value) (hr : Rd w src n sz xs) (h63 : n ≤ maxLen) (hbytes : n * bytes ≤ 140737488355328)
    (hK : ∀ ad cap w', Own w' w.heap.size (.slice ad n cap) n sz xs → Grow w' w.heap.size e sz (.slice ad n cap) n xs → Below w.heap.size w w' → wpList P ops Q rest (a.put o.dst (.slice ad n cap)) w') :
    wpList P ops Q (o :: rest) a w := by
  refine wpList_plain hg fun K hK' => ?_
  obtain ⟨v', w', hrun, h1, h3, h2⟩ := run_append_copyA (P := P) w t o.type e i z sz bytes ht hi hz hsize hby hzs hsz g src n xs hr h63 hbytes
  obtain ⟨ad, cap, rfl, _⟩ := id h1.2
  unfold Oper.wp
  simp [execOp, hop, resolve, invoke, builtin, hs, hx, hrun, Result.andThen]
  exact hK' _ _ (hK ad cap w' h1 h3 ⟨h2.os, h2.tape, h2.output, h2.size, fun k hk => h2.block k hk (by simp)⟩)
def SyncRelG (F : FM) (W : World) (lo b off cap : Nat) (i : Value) (wr : World) : Prop :=
  ∃ k : Nat, k ≤ F.dir.length ∧ i = .int .i64 k ∧ Own wr lo (.slice (some ⟨b, off, none⟩) F.sec.length cap) F.sec.length 1 (strs (syncL F.sec (F.dir.take k))) ∧ Gr wr lo 9 1 (.slice (some ⟨b, off, none⟩) F.sec.length cap) F.sec.length (strs (syncL F.sec (F.dir.take k))) ∧ W.grownBy wr (some b)

set_option maxHeartbeats 1000000 in
set_option maxRecDepth 100000 in
theorem cloneC (v : Value) (l : List ByteArray) (w : World) (h : Rd w v l.length 1 (strs l)) (hn : l.length ≤ 1048576) :
    Calls Tryd.prog 33 #[v] w fun e w' => ∃ a c, e = .returned (.slice a l.length c) ∧ l.length ≤ c ∧ Own w' w.heap.size (.slice a l.length c) l.length 1 (strs l) ∧ Below w.heap.size w w' := by
  obtain ⟨i0, hi, hz0, hz1, hz2⟩ := info_parts Tryd.info9
  obtain ⟨a, c, rfl, -⟩ := id h.2
  cases a with
  | none =>
    have hl : l.length = 0 := by
      by_cases h0 : 0 < l.length
      · obtain ⟨b, off, e, _⟩ := h.get h0; cases e
      · omega
    have hn : l = [] := List.eq_nil_of_length_eq_zero hl
    subst hn
    have q0 := Lib.run_eql_slice_nil (P := Tryd.prog) w 23 _ none 0 c 0 0 Tryd.underlying23
    clear h hi hz0 hz1 hz2
    go_enter Tryd.func33, Tryd.ntmps33
    go_wp2_with fail
    go_ret
    exact ⟨_, _, rfl, Nat.zero_le _, ⟨rfl, _, _, rfl, fun h => absurd h (Nat.lt_irrefl 0)⟩, Below.refl _ _⟩
  | some x =>
    have HR := Lib.hid h
    have q0 := Lib.run_eql_slice_nil (P := Tryd.prog) w 23 _ (some x) l.length c 0 0 Tryd.underlying23
    clear h
    go_enter Tryd.func33, Tryd.ntmps33
    go_wp2_with (at_builtin; refine wpList_append_copyK _ rfl _ _ 23 rfl 9 i0 _ 1 16 Tryd.underlying23 hi hz0 hz1 hz2 rfl (by decide) _ rfl _ rfl l.length (strs l) (HR.out.below (alloc_below w _) (Nat.le_refl _)) (by unfold maxLen; omega) (by omega) ?_)
    intro ad cap w2 ho hgw hb
    have hcap : l.length ≤ cap := (Gr.of_grow hgw (by rw [strs_length]; omega)).cap0
    have HCP := Lib.hid hcap
    clear hgw hcap
    have HO := Lib.hid (ho.lower (show w.heap.size ≤ _ by simp))
    have HB := Lib.hid ((alloc_below w (.cells #[] 9)).trans (hb.mono (by simp)))
    clear ho hb
    go_wp2_with fail
    go_ret
    exact ⟨_, _, rfl, HCP.out, HO.out, HB.out⟩

def OwnZC (w : World) (o : List ByteArray × Int) (e : Ending) (w' : World) : Prop := ∃ a c, e = .returned (.agg #[.slice a o.1.length c, .int .i64 o.2]) ∧ o.1.length ≤ c ∧ Own w' w.heap.size (.slice a o.1.length c) o.1.length 1 (strs o.1) ∧ Below w.heap.size w w'
set_option maxRecDepth 100000 in
set_option maxHeartbeats 4000000 in
theorem implImageApplyC (v u : Value) (image : List ByteArray) (l : List stpT) (w : World) (h : Rd w v image.length 1 (strs image)) (hl : Rd w u l.length 4 (stpCs l)) (hn : image.length ≤ 1048576) (hm : l.length ≤ 1048576) :
    Calls Tryd.prog 6 #[v, u] w (OwnZC w (applyR image l)) := by
  obtain ⟨a, c, rfl, -⟩ := id h.2
  obtain ⟨a', c', rfl, -⟩ := id hl.2
  obtain ⟨R, hR⟩ : ∃ R, R = applyR image l := ⟨_, rfl⟩
  rw [← hR]
  have HR := Lib.hid hR
  clear hR
  have g0 := below_alloc1 w (.cells #[.slice none 0 0, .int .i64 0] 28)
  have X0 := Lib.hid (bx_new w 28 #[.slice none 0 0, .int .i64 0])
  have HA := Lib.hid (h.below g0 (Nat.le_refl _))
  have HL := Lib.hid (hl.below g0 (Nat.le_refl _))
  have hz := size_alloc1 w (.cells #[.slice none 0 0, .int .i64 0] 28)
  have G0 := Lib.hid g0
  clear g0 h hl
  obtain ⟨C, hC⟩ : ∃ C, C = applyC image l := ⟨_, rfl⟩
  have HC := Lib.hid hC
  clear hC
  by_cases hc0 : C = 0
  rotate_left
  · have hr : R = ([], C) := by rw [HR.out, HC.out]; exact applyR_no (by rw [← HC.out]; exact hc0)
    subst hr
    have dc : (C != 0) = true := by simpa using hc0
    clear HR hc0
    go_enter Tryd.func6, Tryd.ntmps6
    go_wp2_with fail
    generalize w.alloc (.cells #[.slice none 0 0, .int .i64 0] 28) = W0 at *
    have hs := implAC _ _ image l W0 HA.out HL.out hn hm
    rw [← HC.out] at hs
    refine hs.mono ?_
    clear hs
    rintro e W1 ⟨rfl, hb⟩
    have hx := X0.out.next hb
    have c0 := hx.cell 0
    have c1 := hx.cell 1
    have z0 := hx.frozen 0
    have z1 := hx.frozen 1
    simp at c0 c1
    have G9 := Lib.hid (G0.out.trans (hb.mono (by omega)))
    clear hb hx
    go_wp2_with fail
    refine bodyPost_ret (v := .agg #[.slice none 0 0, .int .i64 C]) (by simp [results, Tryd.results6, go_sem, c0, c1]) rfl ⟨_, _, rfl, Nat.zero_le _, ownNil _ _ _, ?_⟩
    exact (G9.out.setCell (p := ⟨w.heap.size, 0, none⟩) (Nat.le_refl _) _).setCell (p := ⟨w.heap.size, 1, none⟩) (Nat.le_refl _) _
  subst hc0
  obtain ⟨hi, hc, -⟩ := applyC_ok HC.out.symm
  have HI := Lib.hid hi
  have hr : R = (applyL image l, 0) := by rw [HR.out]; exact applyR_yes HC.out.symm
  subst hr
  clear hi
  have OK := Lib.hid ((imgB_iff image).1 HI.out)
  obtain ⟨⟨n0, n1⟩, -⟩ := id OK.out
  obtain ⟨-, hl20, hok⟩ := code_ok hc
  have HAW := Lib.hid (apply_writes (image := image) hl20)
  have HOK := Lib.hid (writes_ok hok)
  have hwl := writesL_len l
  obtain ⟨ws, hws⟩ : ∃ ws, ws = writesL l := ⟨_, rfl⟩
  rw [← hws] at HAW HOK hwl
  have HWS := Lib.hid hws
  clear HR hok hws
  go_enter Tryd.func6, Tryd.ntmps6
  go_wp2_with fail
  generalize w.alloc (.cells #[.slice none 0 0, .int .i64 0] 28) = W0 at *
  have hs := implAC _ _ image l W0 HA.out HL.out hn hm
  rw [← HC.out] at hs
  refine hs.mono ?_
  clear hs hc
  rintro e W1 ⟨rfl, hb⟩
  replace X0 := Lib.hid (X0.out.next hb)
  replace G0 := Lib.hid (G0.out.trans (hb.mono (by omega)))
  replace HA := Lib.hid (HA.out.below hb (Nat.le_refl _))
  replace HL := Lib.hid (HL.out.below hb (Nat.le_refl _))
  have hz1 := hb.size
  clear hb
  go_wp2_with fail
  refine (implOver _ image W1 HA.out OK.out).mono ?_
  rintro e W2 ⟨g, u, rfl, hmk, hb⟩
  replace X0 := Lib.hid (X0.out.next hb)
  replace G0 := Lib.hid (G0.out.trans (hb.mono (by omega)))
  replace HA := Lib.hid (HA.out.below hb (Nat.le_refl _))
  replace HL := Lib.hid (HL.out.below hb (Nat.le_refl _))
  have HMK := Lib.hid hmk
  have hz2 := hb.size
  have X2 := Lib.hid X0.out
  clear hb hmk
  go_wp2_with fail
  refine (cloneC _ image W2 HA.out hn).mono ?_
  rintro e W3 ⟨a3, c3, rfl, hc3, ho, hb⟩
  have HC3 := Lib.hid hc3
  clear hc3
  obtain ⟨b3, off3, rfl, hlo3, hbl3, -, -⟩ := ho.get (by omega)
  have HO := Lib.hid ho
  have B3 := Lib.hid hb
  replace HL := Lib.hid (HL.out.below hb (Nat.le_refl _))
  have hz3 := hb.size
  clear hb ho
  go_wp2_with fail
  refine (implWrites _ l W3 HL.out hm).mono ?_
  rw [← HWS.out]
  rintro e W4 ⟨wv, rfl, hg4, hb⟩
  obtain ⟨a4, c4, rfl⟩ := gr_form hg4
  have HW4 := Lib.hid hg4.own.rd
  have NE4 := Lib.hid (show 0 < ws.length → (Value.slice a4 ws.length c4).ownBlock ≠ some b3 from fun h0 e => by
    have := (hg4.own.blk b3 (by unfold blk; rw [if_neg (by omega)]; exact e)).1
    omega)
  have HO4 := Lib.hid (show Own W4 W2.heap.size (.slice (some ⟨b3, off3, none⟩) image.length c3) image.length 1 (strs (applyL image (ws.take 0))) from HO.out.below hb (Nat.le_refl _))
  have B4 := Lib.hid (B3.out.trans (hb.mono hz3))
  have hz4 := hb.size
  clear hb hg4 HO
  go_wp2_with fail
  go_loopw [24] (fun i wr => AwRel image ws w W2 W4 (.slice (some ⟨b3, off3, none⟩) image.length c3) b3 i wr) (fun i _ => ws.length - (intOf i).toNat)
  case atStart => exact ⟨0, by omega, rfl, HO4.out, World.grownBy.refl W4 _, B4.out⟩
  case round =>
    clear HO4 B4
    obtain ⟨k, hk, rfl, hown, hgr, hbw⟩ := hrel
    have HOWN := Lib.hid hown
    have HGR := Lib.hid hgr
    have HBW := Lib.hid hbw
    have hwz := hbw.size
    have hgz := hgr.size
    by_cases hlt : k < ws.length
    · have hrw := HW4.out.grown hgr NE4.out
      obtain ⟨b, off, rfl, hbl, hcell⟩ := hrw.get (by omega)
      have r0 : wr.cell? ⟨b, off + k * 4, none⟩ = some (.int .i64 ws[k].1) := by rw [hcell (k * 4) (by omega), stpCs_0 ws k hlt]
      have r1 : wr.cell? ⟨b, off + k * 4 + 1, none⟩ = some (.int .i64 ws[k].2.1) := by rw [Nat.add_assoc, hcell (k * 4 + 1) (by omega), stpCs_1 ws k hlt]
      have r2 : wr.cell? ⟨b, off + k * 4 + 2, none⟩ = some (.int .i64 ws[k].2.2.1) := by rw [Nat.add_assoc, hcell (k * 4 + 2) (by omega), stpCs_2 ws k hlt]
      have r3 : wr.cell? ⟨b, off + k * 4 + 3, none⟩ = some (.string ws[k].2.2.2) := by rw [Nat.add_assoc, hcell (k * 4 + 3) (by omega), stpCs_3 ws k hlt]
      obtain ⟨hst, h5⟩ := HOK.out _ (List.getElem_mem hlt)
      obtain ⟨f0, f1, t0, t1, -⟩ := ok_from hst h5
      have HX := Lib.hid (applyT_yes (image := image) hlt h5)
      clear hcell hrw hown hgr hbw
      obtain ⟨x, hx⟩ : ∃ x, x = ws[k] := ⟨_, rfl⟩
      rw [← hx] at r0 r1 r2 r3 f0 f1 t0 t1 HX hst h5
      clear hx
      obtain ⟨x1, x2, x3, x4⟩ := x
      simp only at r0 r1 r2 r3 f0 f1 t0 t1 HX hst h5
      obtain ⟨m, rfl⟩ : ∃ m : Nat, x3 = m := ⟨x3.toNat, by omega⟩
      obtain ⟨q, rfl⟩ : ∃ q : Nat, x2 = q := ⟨x2.toNat, by omega⟩
      have hmi : m < image.length := by omega
      have hq : q < image.length := by omega
      rw [Int.toNat_natCast] at HX
      have HST := Lib.hid hst
      have H5 := Lib.hid h5
      obtain ⟨Z, hZ⟩ : ∃ Z, Z = makeS (x1, (q : Int), (m : Int), x4) (image.getD ((m : Int)).toNat ⟨#[]⟩) := ⟨_, rfl⟩
      rw [← hZ] at HX
      have hz8 : Z.size = 8 := by
        rw [hZ]
        refine makeS_size hst h5 ?_
        rw [Int.toNat_natCast, List.getD_eq_getElem?_getD, List.getElem?_eq_getElem hmi]
        exact OK.out.2 _ (List.getElem_mem hmi)
      have HZ := Lib.hid hZ
      clear hZ hst h5
      have gA := below_alloc1 wr (.cells #[.int .i64 x1, .int .i64 (q : Int), .int .i64 (m : Int), .string x4] 33)
      have XA := Lib.hid (bx_new wr 33 #[.int .i64 x1, .int .i64 (q : Int), .int .i64 (m : Int), .string x4])
      have hzA := size_alloc1 wr (.cells #[.int .i64 x1, .int .i64 (q : Int), .int .i64 (m : Int), .string x4] 33)
      have GA := Lib.hid gA
      clear gA
      go_wp2_with fail
      generalize wr.alloc (.cells #[.int .i64 x1, .int .i64 (q : Int), .int .i64 (m : Int), .string x4] 33) = WA at *
      have hb3w : b3 < wr.heap.size := by omega
      have HB1 := Lib.hid (HBW.out.trans (GA.out.mono hwz))
      have OA := Lib.hid (HOWN.out.below GA.out (Nat.le_refl _))
      have kp := Lib.hid (show ∀ w', Below (wr.heap.size + 1) WA w' → w'.cell? ⟨wr.heap.size, 0, none⟩ = some (.int .i64 x1) ∧ w'.cell? ⟨wr.heap.size, 1, none⟩ = some (.int .i64 (q : Int)) ∧ w'.cell? ⟨wr.heap.size, 2, none⟩ = some (.int .i64 (m : Int)) ∧ w'.cell? ⟨wr.heap.size, 3, none⟩ = some (.string x4) from fun w' hb' =>
        have hx : Bx w' wr.heap.size 33 #[.int .i64 x1, .int .i64 (q : Int), .int .i64 (m : Int), .string x4] := (hb'.block wr.heap.size (by omega)).trans XA.out
        ⟨hx.q0, hx.q1, hx.q2, hx.q3⟩)
      have hl9 : (strs (applyL image (ws.take k))).length = image.length := by rw [strs_length, applyL_length]
      have KS := Lib.hid (show ∀ w', Below WA.heap.size WA w' → ∃ vq, w'.cell? ⟨b3, off3 + q, none⟩ = some vq ∧ w'.frozen? ⟨b3, off3 + q, none⟩ = false ∧ Own w' W2.heap.size (.slice (some ⟨b3, off3, none⟩) image.length c3) image.length 1 (strs (applyL image (ws.take k))) from fun w' hb' => by
        have ho := OA.out.below hb' (Nat.le_refl _)
        obtain ⟨b9, o9, hp9, -, -, hc9, hf9⟩ := ho.get (by omega)
        cases hp9
        exact ⟨_, (hc9 q (by omega)).trans (List.getElem?_eq_getElem (by omega)), hf9 q (by omega), ho⟩)
      clear hl9
      have hWd : WA.drew.heap.size = WA.heap.size := rfl
      have K1 := Lib.hid (kp.out WA.drew (Below.refl _ _).drew)
      have K2 := Lib.hid (fun w2 (hb2 : Below WA.drew.heap.size WA.drew w2) => kp.out w2 (Below.trans (Below.refl _ WA).drew (hb2.mono (by omega))))
      have K3 := Lib.hid (fun w2 w3 (hb2 : Below WA.drew.heap.size WA.drew w2) (hb3 : Below w2.heap.size w2 w3) => K2.out w3 (below_more hb2 hb3))
      have K4 := Lib.hid (fun w2 w3 (hb2 : Below WA.drew.heap.size WA.drew w2) (hb3 : Below w2.heap.size w2 w3) => show (w3.setCell ⟨b3, off3 + q, none⟩ (.string Z)).cell? ⟨wr.heap.size, 0, none⟩ = some (.int .i64 x1) ∧ (w3.setCell ⟨b3, off3 + q, none⟩ (.string Z)).cell? ⟨wr.heap.size, 1, none⟩ = some (.int .i64 (q : Int)) ∧ (w3.setCell ⟨b3, off3 + q, none⟩ (.string Z)).cell? ⟨wr.heap.size, 2, none⟩ = some (.int .i64 (m : Int)) ∧ (w3.setCell ⟨b3, off3 + q, none⟩ (.string Z)).cell? ⟨wr.heap.size, 3, none⟩ = some (.string x4) from
        have hx : Bx (w3.setCell ⟨b3, off3 + q, none⟩ (.string Z)) wr.heap.size 33 #[.int .i64 x1, .int .i64 (q : Int), .int .i64 (m : Int), .string x4] := Bx.other (show Bx w3 wr.heap.size 33 #[.int .i64 x1, .int .i64 (q : Int), .int .i64 (m : Int), .string x4] from ((below_more hb2 hb3).block wr.heap.size (by omega)).trans XA.out) ⟨b3, off3 + q, none⟩ _ (show wr.heap.size ≠ b3 by omega)
        ⟨hx.q0, hx.q1, hx.q2, hx.q3⟩)
      obtain ⟨i0, i1, i2, i3⟩ := kp.out WA (Below.refl _ _)
      clear r0 r1 r2 r3
      go_wp2_with fail
      go_region_held3 (fun w' => w'.cell? ⟨wr.heap.size, 0, none⟩ = some (.int .i64 x1) ∧ w'.cell? ⟨wr.heap.size, 1, none⟩ = some (.int .i64 (q : Int)) ∧ w'.cell? ⟨wr.heap.size, 2, none⟩ = some (.int .i64 (m : Int)) ∧ w'.cell? ⟨wr.heap.size, 3, none⟩ = some (.string x4))
        (first | (with_reducible exact K1.out) | (with_reducible exact K2.out _ hb2) | (with_reducible exact K3.out _ _ hb2 hb3) | (with_reducible exact K4.out _ _ hb2 hb3))
        ((first | (go_at_call 67; go_split_ands; refine (implMk x1 q m x4 image g _ u _ (HMK.out.below (HB1.out.drew) (Nat.le_refl _)) OK.out.2 HST.out H5.out).mono ?_; rintro e w2 ⟨rfl, hb2⟩; rw [← HZ.out]) | (go_at_call 35; go_split_ands; refine (implText8 Z _ hz8).mono ?_; rintro e w3 ⟨rfl, hb3⟩; obtain ⟨vq, hv9, hf9, ho3⟩ := KS.out _ (below_more (Below.refl WA.heap.size WA).drew (below_more hb2 hb3)); have HO3 := Lib.hid ho3; clear ho3)))
      all_goals (
        have hb9 := below_more (Below.refl WA.heap.size WA).drew (below_more hb2 hb3)
        have HO9 := Lib.hid (HO3.out.set q (.string Z) (by omega) ⟨_, hv9⟩)
        have HG9 := Lib.hid (grown_set ((HGR.out.andThen (below_grown (GA.out.trans (hb9.mono (by omega)))) (fun _ e => by cases e))) (b := b3) (i := off3 + q) (x := .string Z))
        have HB9 := Lib.hid ((HB1.out.trans (hb9.mono (by omega))).setCell (p := ⟨b3, off3 + q, none⟩) hlo3 (.string Z))
        clear hb2 hb3 hb9 hv9 hf9
        go_wp2_with fail
        go_roundw
        case rel =>
          have fin : AwRel image ws w W2 W4 (.slice (some ⟨b3, off3, none⟩) image.length c3) b3 (.int .i64 ((k : Int) + 1)) (w3.setCell ⟨b3, off3 + q, none⟩ (.string Z)) := by
            refine ⟨k + 1, by omega, by go_num, ?_, HG9.out, HB9.out⟩
            rw [HX.out, strs_set]
            exact HO9.out
          first | exact fin | ((repeat apply Exists.intro); exact ⟨fin, rfl⟩)
        case measure => simp [intOf]; omega)
    · obtain rfl : k = ws.length := by omega
      clear hown hgr hbw
      rw [List.take_length, HAW.out] at HOWN
      have hx := X2.out.below HBW.out (by omega : w.heap.size < W2.heap.size)
      have c0 := hx.cell 0
      have c1 := hx.cell 1
      have z0 := hx.frozen 0
      have z1 := hx.frozen 1
      simp at c0 c1
      have G9 := Lib.hid (G0.out.trans (HBW.out.mono (by omega)))
      clear hx
      go_wp2_with fail
      refine bodyPost_ret (v := .agg #[.slice (some ⟨b3, off3, none⟩) image.length c3, .int .i64 0]) (by simp [results, Tryd.results6, go_sem, c0, c1]) rfl ⟨some ⟨b3, off3, none⟩, c3, ?_, ?_, ?_, ?_⟩
      · show _ = Ending.returned (.agg #[.slice (some ⟨b3, off3, none⟩) (applyL image l).length c3, .int .i64 0])
        rw [applyL_length]
      · show (applyL image l).length ≤ c3
        rw [applyL_length]; exact HC3.out
      · show Own _ _ (.slice (some ⟨b3, off3, none⟩) (applyL image l).length c3) (applyL image l).length 1 _
        rw [applyL_length]
        refine ((HOWN.out.other ⟨w.heap.size, 0, none⟩ _ (fun k hk => ?_)).other ⟨w.heap.size, 1, none⟩ _ (fun k hk => ?_)).lower (by omega)
        · have := (HOWN.out.blk k hk).1
          simp; omega
        · have := (HOWN.out.blk k hk).1
          simp; omega
      · exact (G9.out.setCell (p := ⟨w.heap.size, 0, none⟩) (Nat.le_refl _) _).setCell (p := ⟨w.heap.size, 1, none⟩) (Nat.le_refl _) _
end Go.Proofs.YtcckpkcjekcajaaDoor
