/- The drawn lists of steps: spec.l01Src.l06Steps, l06Odd, spec.DrawStepsCode. -/
import Derived.Test.YtcckpkcjekcajaaDoorBDraw3
import Derived.Test.YtcckpkcjekcajaaDoorBSCode
import Derived.Test.YtcckpkcjekcajaaDoorBWrites
namespace Go.Proofs.YtcckpkcjekcajaaDoor
open Go.RowKit

theorem Gr.kept {w w' : World} {lo e sz n b : Nat} {v : Value} {xs : List Value} (h : Gr w lo e sz v n xs) (hk : Kept b w w') (hb : b < lo) : Gr w' lo e sz v n xs :=
  h.keep fun k h1 hk' _ => hk.block k hk' (fun e => by have := Option.some.inj e; omega)
/-- A list of steps that has been drawn: of the call's own since w; the source lies in block b. -/
structure LSt (b : Nat) (a : Option Addr) (len cap : Nat) (w : World) (l : List stpT) (v : Value) (wr : World) : Prop where
  gr : Gr wr w.heap.size 33 4 v l.length (stpCs l)
  src : Src wr b a len cap
  kept : Kept b w wr
  sm : ∀ d ∈ l, Sm d
section
variable {b : Nat} {a : Option Addr} {len cap : Nat} {w : World} {l : List stpT} {v : Value} {w1 w2 : World}
theorem LSt.small (h : LSt b a len cap w l v w1) : ∀ d ∈ l, d.2.2.2.size ≤ 10 := fun d hd => (h.sm d hd).1
theorem LSt.keep (h : LSt b a len cap w l v w1) (hk : Kept b w1 w2) (hs : Src w2 b a len cap) (hb : b < w.heap.size) : LSt b a len cap w l v w2 :=
  ⟨h.gr.kept hk hb, hs, h.kept.trans hk, h.sm⟩
theorem LSt.next (h : LSt b a len cap w l v w1) (hb2 : Below w1.heap.size w1 w2) (hb : b < w.heap.size) : LSt b a len cap w l v w2 :=
  h.keep (below_kept hb2) (h.src.below hb2) hb
theorem LSt.grow (h : LSt b a len cap w l v w1) (hb : b < w.heap.size) (x : stpT) (hx : Sm x) (g c : Nat)
    (hg : Gr w2 w.heap.size 33 4 (.slice (some ⟨g, 0, none⟩) (l.length + 1) c) (l.length + 1) (stpCs l ++ [.int .i64 x.1, .int .i64 x.2.1, .int .i64 x.2.2.1, .string x.2.2.2])) (hgr : w1.grownBy w2 (blk v l.length)) : LSt b a len cap w (l ++ [x]) (.slice (some ⟨g, 0, none⟩) (l ++ [x]).length c) w2 := by
  have hlo : ∀ k, blk v l.length = some k → w.heap.size ≤ k := fun k hk => (h.gr.own.blk k hk).1
  refine ⟨?_, h.src.grown hgr (fun e => by have := hlo b e; omega), ⟨hgr.os.trans h.kept.os, hgr.tape.trans h.kept.tape, hgr.output.trans h.kept.output, Nat.le_trans h.kept.size hgr.size, fun k hk hne => ?_⟩, ?_⟩
  · rw [List.length_append, stpCs_snoc]; exact hg
  · rw [hgr.block k (Nat.lt_of_lt_of_le hk h.kept.size) (fun e => by have := hlo k e.symm; omega)]
    exact h.kept.block k hk hne
  · intro d hd
    rcases List.mem_append.1 hd with h' | h'
    · exact h.sm d h'
    · rw [List.mem_singleton.1 h']; exact hx
theorem LSt.from (h : LSt b a len cap w1 l v w2) (hk : Kept b w w1) : LSt b a len cap w l v w2 := ⟨h.gr.lower hk.size, h.src, hk.trans h.kept, h.sm⟩
/-- A box that is no part of the list, written whole. -/
theorem LSt.four (h : LSt b a len cap w l v w1) {n : Nat} (hn : w.heap.size ≤ n) (hb : b < w.heap.size) (hl : ∀ k, blk v l.length = some k → k ≠ n) (x y z u : Value) : LSt b a len cap w l v ((((w1.setCell ⟨n, 0, none⟩ x).setCell ⟨n, 1, none⟩ y).setCell ⟨n, 2, none⟩ z).setCell ⟨n, 3, none⟩ u) :=
  ⟨(((h.gr.other ⟨n, 0, none⟩ x hl).other ⟨n, 1, none⟩ y hl).other ⟨n, 2, none⟩ z hl).other ⟨n, 3, none⟩ u hl, h.src.four (by omega) _ _ _ _, h.kept.four hn _ _ _ _, h.sm⟩
end
/-- What a draw of a list of steps gives: no more than m. -/
def DrawnSt (b : Nat) (a : Option Addr) (len cap : Nat) (m : Nat) (w : World) (e : Ending) (w' : World) : Prop :=
  ∃ l v, l.length ≤ m ∧ e = .returned v ∧ LSt b a len cap w l v w'
theorem row_kept {w w1 : World} {T : TypeId} {x y z u : Value} (n : Nat) (hn : w.heap.size = n) (hb : Below (w.alloc (.cells #[x, y, z, u] T)).heap.size (w.alloc (.cells #[x, y, z, u] T)) w1) :
    ∀ j v, [x, y, z, u][j]? = some v → w1.cell? ((⟨n, 0, none⟩ : Addr).add j) = some v := by
  subst hn
  intro j v hj
  rw [Addr.add_lit]
  refine (hb.cell (p := ⟨w.heap.size, 0 + j, none⟩) (by simp)).trans ?_
  have := four_new w x y z u T j v hj
  rw [Addr.add_lit] at this
  exact this
theorem undrew {W w5 : World} (h : Below W.drew.heap.size W.drew w5) : Below W.heap.size W w5 := (Below.refl _ W).drew.trans h
theorem sizeKey (W : World) {V w5 : World} (_h : Below V.heap.size V w5) (k : Below W.heap.size W V) : W.heap.size ≤ V.heap.size := k.size
theorem one4 {x y z : Int} {u : ByteArray} : ∀ v ∈ [Value.int .i64 x, .int .i64 y, .int .i64 z, .string u], v.oneCell' = true := by
  intro v hv; simp at hv; rcases hv with rfl | rfl | rfl | rfl <;> rfl
theorem rd_snoc {w : World} {v : Value} {l : List stpT} {x : stpT} (h : Rd w v (l.length + 1) 4 (stpCs l ++ [.int .i64 x.1, .int .i64 x.2.1, .int .i64 x.2.2.1, .string x.2.2.2])) : Rd w v (l ++ [x]).length 4 (stpCs (l ++ [x])) := by
  rw [List.length_append, stpCs_snoc]; exact h
def StCut (W : World) (c : Value) (wx : World) : Prop := ∃ bb : Bool, c = .bool bb ∧ Below W.heap.size W wx
def StsRel (b : Nat) (a : Option Addr) (len cap : Nat) (w : World) (v y i : Value) (wr : World) : Prop :=
  ∃ (k : Nat) (l : List stpT) (q : Int), i = .int .i64 (k : Int) ∧ y = .int .i64 q ∧ l.length + k ≤ 6 ∧ 0 ≤ q ∧ q + 3 * k ≤ 18 ∧ LSt b a len cap w l v wr
set_option maxRecDepth 100000 in
set_option maxHeartbeats 8000000 in
theorem steps_any (b : Nat) (a : Option Addr) (len cap : Nat) (w : World) (hS : Src w b a len cap) (hR : Row w a len b) :
    Calls Tryd.prog 64 #[.pointer (some ⟨b, 0, none⟩), .int .i64 4] w (DrawnSt b a len cap 6 w) := by
  obtain ⟨i0, hi, hz0, hz1, hz2'⟩ := info_parts Tryd.infostp
  have hbl := hS.lt
  have HR := Lib.hid hR
  have ST0 := Lib.hid (show LSt b a len cap w [] (.slice (some ⟨w.heap.size, 0, none⟩) 0 0) (w.alloc (.cells #[] 33)) from ⟨.inr ⟨rfl, rfl, .inr ⟨_, rfl⟩⟩, hS.below (below_alloc1 w _), below_kept (below_alloc1 w _), by simp⟩)
  clear hS hR
  go_enter Tryd.func64, Tryd.ntmps64
  go_wp2_with fail
  refine (n_any1 b a len cap 7 _ ST0.out.src (HR.out.kept ST0.out.kept) (by omega) (by omega)).mono ?_
  rintro e w1 ⟨k0, hk0, rfl, hs1, hk1⟩
  have ST1 := Lib.hid (ST0.out.keep hk1 hs1 hbl)
  clear hs1 hk1 ST0
  go_wp2_with fail
  go_loopw [5, 6, 7] (fun v y i wr => StsRel b a len cap w v y i wr) (fun _ _ i _ => (intOf i).toNat)
  case atStart => exact ⟨k0, [], 0, rfl, rfl, by simp; omega, by omega, by omega, ST1.out⟩
  case round =>
    clear ST1
    obtain ⟨k, l, q, rfl, rfl, hlen, hq0, hq1, hst⟩ := hrel
    obtain ⟨x3, c3, rfl⟩ := gr_form hst.gr
    have ST := Lib.hid hst
    clear hst
    by_cases hlt : 0 < k
    · have e0 : (0 : Int) < (k : Int) := by omega
      go_wp2_with fail
      refine (step_any b a len cap wr ST.out.src (HR.out.kept ST.out.kept)).mono ?_
      rintro e w2 ⟨x, hx, rfl, hs2, hk2⟩
      unfold stpV
      have S2 := Lib.hid (ST.out.keep hk2 hs2 hbl)
      have hz2 : w.heap.size ≤ w2.heap.size := S2.out.kept.size
      have hbk : ∀ kk, blk (.slice x3 l.length c3) l.length = some kk → kk ≠ w2.heap.size := fun kk h => by have := (S2.out.gr.own.blk kk h).2; omega
      have HBK := Lib.hid hbk
      have S3 := Lib.hid (S2.out.next (below_alloc1 w2 (.cells #[.int .i64 x.1, .int .i64 x.2.1, .int .i64 x.2.2.1, .string x.2.2.2] 33)) hbl)
      have XB := Lib.hid (bx_new w2 33 #[.int .i64 x.1, .int .i64 x.2.1, .int .i64 x.2.2.1, .string x.2.2.2])
      clear hs2 hk2 ST S2 hbk
      go_wp2_with fail
      generalize w2.alloc (.cells #[.int .i64 x.1, .int .i64 x.2.1, .int .i64 x.2.2.1, .string x.2.2.2] 33) = W2 at *
      generalize w2.heap.size = n at *
      refine (one_any b a len cap 5 W2 S3.out.src (HR.out.kept S3.out.kept) (by omega) (by omega)).mono ?_
      rintro e w3 ⟨bb, rfl, hs3, hk3⟩
      have S4 := Lib.hid (S3.out.keep hk3 hs3 hbl)
      have XB4 := Lib.hid (XB.out.kept hk3 (by omega))
      clear hs3 hk3 S3 XB
      cases bb with
      | false =>
        go_wp2_with fail
        have HX : Hid (Bx w3 n 33 #[.int .i64 x.1, .int .i64 x.2.1, .int .i64 x.2.2.1, .string x.2.2.2]) := XB4
        have c0 := HX.out.q0
        have c1 := HX.out.q1
        have c2 := HX.out.q2
        have c3' := HX.out.q3
        clear XB4
        go_cut [38] (fun c wx => StCut w3 c wx)
        case first =>
          go_region_held3 (fun w' => w'.cell? ⟨n, 0, none⟩ = some (.int .i64 x.1) ∧ w'.cell? ⟨n, 1, none⟩ = some (.int .i64 x.2.1) ∧ w'.cell? ⟨n, 2, none⟩ = some (.int .i64 x.2.2.1) ∧ w'.cell? ⟨n, 3, none⟩ = some (.string x.2.2.2) ∧ Below w3.heap.size w3 w')
            (first | (exact keepQ HX.out (Below.refl _ _).drew) | (exact keepQ HX.out HB37.out) | (exact keepQ HX.out HB36.out) | (go_split_ands; first | (exact keepQ HX.out (below_more (by assumption) hbn)) | (exact keepQ HX.out (below_more (by assumption) (below_alloc1 _ _)))))
            ((first
              | ((with_reducible show (if Region.wanted (⟨some 32, _, _, _, _, _⟩ : Oper) _ = true then _ else _)); go_split_ands; refine step_append_copyA (by rfl) (.tmp 30) (.tmp 31) _ (by rfl) 33 i0 _ 4 40 Tryd.underlying24 hi hz0 hz1 hz2' rfl (by decide) _ (by rfl) (.slice x3 l.length c3) (by rfl) l.length (stpCs l) (S4.out.gr.own.rd.below (B := w3.heap.size) (by assumption) (Nat.le_refl _)) (by unfold maxLen; omega) (by omega) ?_; intro ad1 cap1 w5 ho1 hg1 hbn; have G1 := Lib.hid (Gr.of_grow hg1 (stpCs_length l)); have HBN := Lib.hid hbn; have HV := Lib.hid (sizeKey w3 hbn (by assumption)); clear ho1 hg1)
              | ((with_reducible show (if Region.wanted (⟨some 35, _, _, _, _, _⟩ : Oper) _ = true then _ else _)); go_split_ands; refine step_append_gr (by rfl) (.tmp 32) (.tmp 34) 24 (by rfl) i0 _ 40 Tryd.underlying24 hi hz0 hz1 hz2' rfl (by decide) (by rfl) (stpCs_length l) (G1.out.below (below_alloc1 w5 (.cells #[.int .i64 x.1, .int .i64 x.2.1, .int .i64 x.2.2.1, .string x.2.2.2] 33)) (Nat.le_refl _)) ⟨w5.heap.size, 0, none⟩ 1 1 (by rfl) [.int .i64 x.1, .int .i64 x.2.1, .int .i64 x.2.2.1, .string x.2.2.2] (by decide) rfl (four_new w5 _ _ _ _ 33) one4 (by unfold maxLen; omega) (by omega) (Nat.le_trans HBN.out.size (by simp)) ?_; intro g6 c6 w6 hg6 hgr6 hloc6; have HB36 := Lib.hid (Below.grown (B := w3.heap.size) (a := w3) (by assumption) hgr6 (Below.size (by assumption)) (fun kk hkk => Nat.le_trans HV.out (G1.out.own.blk kk hkk).1)); have RD6 := Lib.hid (rd_snoc (x := (x.1, x.2.1, x.2.2.1, x.2.2.2)) hg6.own.rd); clear hg6 hgr6 hloc6)
              | ((with_reducible show (if Region.wanted (⟨some 35, _, _, _, _, _⟩ : Oper) _ = true then _ else _)); go_split_ands; refine step_append_gr (by rfl) (.tmp 32) (.tmp 34) 24 (by rfl) i0 _ 40 Tryd.underlying24 hi hz0 hz1 hz2' rfl (by decide) (by rfl) (stpCs_length l) G1.out ⟨w3.heap.size + 1, 0, none⟩ 1 1 (by rfl) [.int .i64 x.1, .int .i64 x.2.1, .int .i64 x.2.2.1, .string x.2.2.2] (by decide) rfl (row_kept (w := w3.alloc (.cells #[] 33)) (w3.heap.size + 1) (size_alloc1 _ _) (undrew HBN.out)) one4 (by unfold maxLen; omega) (by omega) HBN.out.size ?_; intro g6 c6 w6 hg6 hgr6 hloc6; have HB36 := Lib.hid (Below.grown (B := w3.heap.size) (a := w3) (by assumption) hgr6 (Below.size (by assumption)) (fun kk hkk => Nat.le_trans HV.out (G1.out.own.blk kk hkk).1)); have RD6 := Lib.hid (rd_snoc (x := (x.1, x.2.1, x.2.2.1, x.2.2.2)) hg6.own.rd); clear hg6 hgr6 hloc6)
              | ((with_reducible show (if Region.wanted (⟨some 35, _, _, _, _, _⟩ : Oper) _ = true then _ else _)); go_split_ands; refine step_append_gr (by rfl) (.tmp 32) (.tmp 34) 24 (by rfl) i0 _ 40 Tryd.underlying24 hi hz0 hz1 hz2' rfl (by decide) (by rfl) (stpCs_length l) G1.out ⟨w3.heap.size, 0, none⟩ 1 1 (by rfl) [.int .i64 x.1, .int .i64 x.2.1, .int .i64 x.2.2.1, .string x.2.2.2] (by decide) rfl (row_kept (w := w3) w3.heap.size rfl (below_more (below_alloc1 _ _) (undrew HBN.out))) one4 (by unfold maxLen; omega) (by omega) HBN.out.size ?_; intro g6 c6 w6 hg6 hgr6 hloc6; have HB36 := Lib.hid (Below.grown (B := w3.heap.size) (a := w3) (by assumption) hgr6 (Below.size (by assumption)) (fun kk hkk => Nat.le_trans HV.out (G1.out.own.blk kk hkk).1)); have RD6 := Lib.hid (rd_snoc (x := (x.1, x.2.1, x.2.2.1, x.2.2.2)) hg6.own.rd); clear hg6 hgr6 hloc6)
              | (go_at_call 44; refine (specCode _ (l ++ [(x.1, x.2.1, x.2.2.1, x.2.2.2)]) 4 _ RD6.out (by simp; omega)).mono ?_; rintro e w7 ⟨rfl, hb7⟩; have HB37 := Lib.hid (HB36.out.trans (hb7.mono HB36.out.size)); clear hb7)))
          all_goals (go_split_ands; go_wp2_with fail; go_meet; case rel => exact ⟨_, rfl, HB37.out⟩)
        case rest =>
          obtain ⟨b38, rfl, hb38⟩ := hcut
          have S9 := Lib.hid (S4.out.next hb38 hbl)
          have q0 := (HX.out.next hb38).q0
          have q1 := (HX.out.next hb38).q1
          have q2 := (HX.out.next hb38).q2
          have q3 := (HX.out.next hb38).q3
          have hz9 : w.heap.size ≤ wc.heap.size := S9.out.kept.size
          have m1 : IntKind.i64.wrap ((k : Int) - 1) = (k : Int) - 1 := IntWalk.i64_in _ (by omega)
          have m2 : wrap64 ((k : Int) - 1) = (k : Int) - 1 := IntWalk.wrap64_in _ (by omega)
          clear hb38 S4 HX c0 c1 c2 c3'
          cases b38 with
          | false =>
            go_wp2_with fail
            go_roundw
            case rel => exact ⟨k - 1, l, q, by first | rfl | (congr 1; omega) | (rw [show ((k - 1 : Nat) : Int) = (k : Int) - 1 by omega]), rfl, by omega, by omega, by omega, S9.out⟩
            case measure => simp [intOf]; omega
          | true =>
            go_wp2_with ((with_reducible show wpList _ _ _ (⟨some 42, _, _, _, _, _⟩ :: _) _ _); refine wpList_append_gr (lo := w.heap.size) (e := 33) (sz := 4) (v := .slice x3 l.length c3) (n := l.length) (xs := stpCs l) rfl (.tmp 39) (.tmp 41) 24 rfl i0 _ 40 Tryd.underlying24 hi hz0 hz1 hz2' rfl (by decide) rfl (by rw [stpCs_length]) ?_ ⟨wc.heap.size, 0, none⟩ 1 1 rfl [.int .i64 x.1, .int .i64 x.2.1, .int .i64 x.2.2.1, .string x.2.2.2] (by decide) rfl ?_ one4 (by unfold maxLen; omega) (by omega) (by simp; omega) ?_)
            · exact (S9.out.next (below_alloc1 wc _) hbl).gr
            · exact four_new wc _ _ _ _ 33
            · intro gg cc w8 hgn hgr hloc
              have S10 := Lib.hid ((S9.out.next (below_alloc1 wc _) hbl).grow hbl (x.1, x.2.1, x.2.2.1, x.2.2.2) hx gg cc hgn hgr)
              clear hgn hgr hloc
              go_wp2_with fail
              go_roundw
              case rel => exact ⟨k - 1, l ++ [(x.1, x.2.1, x.2.2.1, x.2.2.2)], q, by first | rfl | (congr 1; omega) | (rw [show ((k - 1 : Nat) : Int) = (k : Int) - 1 by omega]), rfl, by simp; omega, by omega, by omega, by have := S10.out; simpa using this⟩
              case measure => simp [intOf]; omega
      | true =>
        go_wp2_with fail
        refine (n_any b a len cap 3 w3 S4.out.src (HR.out.kept S4.out.kept) (by omega) (by omega)).mono ?_
        rintro e w4 ⟨z, ⟨hzz0, hzz1⟩, rfl, hs4, hk4⟩
        have XB5 := Lib.hid (XB4.out.kept hk4 (by omega))
        have XB6 := Lib.hid (XB5.out.all4 (.int .i64 5) (.int .i64 0) (.int .i64 (q + 1 + z)) (.string ⟨#[]⟩))
        have S6 := Lib.hid ((S4.out.keep hk4 hs4 hbl).four hz2 hbl HBK.out (.int .i64 5) (.int .i64 0) (.int .i64 (q + 1 + z)) (.string ⟨#[]⟩))
        obtain ⟨⟨q0, q1, q2, q3⟩, t0, t1, t2, t3⟩ := XB5.out.cf4
        have mm1 : wrap64 (q + 1) = q + 1 := IntWalk.wrap64_in _ (by omega)
        have mm2 : wrap64 (q + 1 + z) = q + 1 + z := IntWalk.wrap64_in _ (by omega)
        have mm3 : IntKind.i64.wrap (q + 1) = q + 1 := IntWalk.i64_in _ (by omega)
        have mm4 : IntKind.i64.wrap (q + 1 + z) = q + 1 + z := IntWalk.i64_in _ (by omega)
        clear hs4 hk4 S4 XB4 XB5
        go_wp2_with fail
        clear q0 q1 q2 q3 t0 t1 t2 t3 mm1 mm2 mm3 mm4
        generalize (((w4.setCell ⟨n, 0, none⟩ (.int .i64 5)).setCell ⟨n, 1, none⟩ (.int .i64 0)).setCell ⟨n, 2, none⟩ (.int .i64 (q + 1 + z))).setCell ⟨n, 3, none⟩ (.string ⟨#[]⟩) = W6 at *
        have HX : Hid (Bx W6 n 33 #[.int .i64 5, .int .i64 0, .int .i64 (q + 1 + z), .string ⟨#[]⟩]) := XB6
        have c0 := HX.out.q0
        have c1 := HX.out.q1
        have c2 := HX.out.q2
        have c3' := HX.out.q3
        clear XB6
        go_cut [38] (fun c wx => StCut W6 c wx)
        case first =>
          go_region_held3 (fun w' => w'.cell? ⟨n, 0, none⟩ = some (.int .i64 5) ∧ w'.cell? ⟨n, 1, none⟩ = some (.int .i64 0) ∧ w'.cell? ⟨n, 2, none⟩ = some (.int .i64 (q + 1 + z)) ∧ w'.cell? ⟨n, 3, none⟩ = some (.string ⟨#[]⟩) ∧ Below W6.heap.size W6 w')
            (first | (exact keepQ HX.out (Below.refl _ _).drew) | (exact keepQ HX.out HB37.out) | (exact keepQ HX.out HB36.out) | (go_split_ands; first | (exact keepQ HX.out (below_more (by assumption) hbn)) | (exact keepQ HX.out (below_more (by assumption) (below_alloc1 _ _)))))
            ((first
              | ((with_reducible show (if Region.wanted (⟨some 32, _, _, _, _, _⟩ : Oper) _ = true then _ else _)); go_split_ands; refine step_append_copyA (by rfl) (.tmp 30) (.tmp 31) _ (by rfl) 33 i0 _ 4 40 Tryd.underlying24 hi hz0 hz1 hz2' rfl (by decide) _ (by rfl) (.slice x3 l.length c3) (by rfl) l.length (stpCs l) (S6.out.gr.own.rd.below (B := W6.heap.size) (by assumption) (Nat.le_refl _)) (by unfold maxLen; omega) (by omega) ?_; intro ad1 cap1 w5 ho1 hg1 hbn; have G1 := Lib.hid (Gr.of_grow hg1 (stpCs_length l)); have HBN := Lib.hid hbn; have HV := Lib.hid (sizeKey W6 hbn (by assumption)); clear ho1 hg1)
              | ((with_reducible show (if Region.wanted (⟨some 35, _, _, _, _, _⟩ : Oper) _ = true then _ else _)); go_split_ands; refine step_append_gr (by rfl) (.tmp 32) (.tmp 34) 24 (by rfl) i0 _ 40 Tryd.underlying24 hi hz0 hz1 hz2' rfl (by decide) (by rfl) (stpCs_length l) (G1.out.below (below_alloc1 w5 (.cells #[.int .i64 5, .int .i64 0, .int .i64 (q + 1 + z), .string ⟨#[]⟩] 33)) (Nat.le_refl _)) ⟨w5.heap.size, 0, none⟩ 1 1 (by rfl) [.int .i64 5, .int .i64 0, .int .i64 (q + 1 + z), .string ⟨#[]⟩] (by decide) rfl (four_new w5 _ _ _ _ 33) one4 (by unfold maxLen; omega) (by omega) (Nat.le_trans HBN.out.size (by simp)) ?_; intro g6 c6 w6 hg6 hgr6 hloc6; have HB36 := Lib.hid (Below.grown (B := W6.heap.size) (a := W6) (by assumption) hgr6 (Below.size (by assumption)) (fun kk hkk => Nat.le_trans HV.out (G1.out.own.blk kk hkk).1)); have RD6 := Lib.hid (rd_snoc (x := (5, 0, (q + 1 + z), ⟨#[]⟩)) hg6.own.rd); clear hg6 hgr6 hloc6)
              | ((with_reducible show (if Region.wanted (⟨some 35, _, _, _, _, _⟩ : Oper) _ = true then _ else _)); go_split_ands; refine step_append_gr (by rfl) (.tmp 32) (.tmp 34) 24 (by rfl) i0 _ 40 Tryd.underlying24 hi hz0 hz1 hz2' rfl (by decide) (by rfl) (stpCs_length l) G1.out ⟨W6.heap.size + 1, 0, none⟩ 1 1 (by rfl) [.int .i64 5, .int .i64 0, .int .i64 (q + 1 + z), .string ⟨#[]⟩] (by decide) rfl (row_kept (w := W6.alloc (.cells #[] 33)) (W6.heap.size + 1) (size_alloc1 _ _) (undrew HBN.out)) one4 (by unfold maxLen; omega) (by omega) HBN.out.size ?_; intro g6 c6 w6 hg6 hgr6 hloc6; have HB36 := Lib.hid (Below.grown (B := W6.heap.size) (a := W6) (by assumption) hgr6 (Below.size (by assumption)) (fun kk hkk => Nat.le_trans HV.out (G1.out.own.blk kk hkk).1)); have RD6 := Lib.hid (rd_snoc (x := (5, 0, (q + 1 + z), ⟨#[]⟩)) hg6.own.rd); clear hg6 hgr6 hloc6)
              | ((with_reducible show (if Region.wanted (⟨some 35, _, _, _, _, _⟩ : Oper) _ = true then _ else _)); go_split_ands; refine step_append_gr (by rfl) (.tmp 32) (.tmp 34) 24 (by rfl) i0 _ 40 Tryd.underlying24 hi hz0 hz1 hz2' rfl (by decide) (by rfl) (stpCs_length l) G1.out ⟨W6.heap.size, 0, none⟩ 1 1 (by rfl) [.int .i64 5, .int .i64 0, .int .i64 (q + 1 + z), .string ⟨#[]⟩] (by decide) rfl (row_kept (w := W6) W6.heap.size rfl (below_more (below_alloc1 _ _) (undrew HBN.out))) one4 (by unfold maxLen; omega) (by omega) HBN.out.size ?_; intro g6 c6 w6 hg6 hgr6 hloc6; have HB36 := Lib.hid (Below.grown (B := W6.heap.size) (a := W6) (by assumption) hgr6 (Below.size (by assumption)) (fun kk hkk => Nat.le_trans HV.out (G1.out.own.blk kk hkk).1)); have RD6 := Lib.hid (rd_snoc (x := (5, 0, (q + 1 + z), ⟨#[]⟩)) hg6.own.rd); clear hg6 hgr6 hloc6)
              | (go_at_call 44; refine (specCode _ (l ++ [(5, 0, (q + 1 + z), ⟨#[]⟩)]) 4 _ RD6.out (by simp; omega)).mono ?_; rintro e w7 ⟨rfl, hb7⟩; have HB37 := Lib.hid (HB36.out.trans (hb7.mono HB36.out.size)); clear hb7)))
          all_goals (go_split_ands; go_wp2_with fail; go_meet; case rel => exact ⟨_, rfl, HB37.out⟩)
        case rest =>
          obtain ⟨b38, rfl, hb38⟩ := hcut
          have S9 := Lib.hid (S6.out.next hb38 hbl)
          have q0 := (HX.out.next hb38).q0
          have q1 := (HX.out.next hb38).q1
          have q2 := (HX.out.next hb38).q2
          have q3 := (HX.out.next hb38).q3
          have hz9 : w.heap.size ≤ wc.heap.size := S9.out.kept.size
          have m1 : IntKind.i64.wrap ((k : Int) - 1) = (k : Int) - 1 := IntWalk.i64_in _ (by omega)
          have m2 : wrap64 ((k : Int) - 1) = (k : Int) - 1 := IntWalk.wrap64_in _ (by omega)
          clear hb38 S6 HX c0 c1 c2 c3'
          cases b38 with
          | false =>
            go_wp2_with fail
            go_roundw
            case rel => exact ⟨k - 1, l, (q + 1 + z), by first | rfl | (congr 1; omega) | (rw [show ((k - 1 : Nat) : Int) = (k : Int) - 1 by omega]), rfl, by omega, by omega, by omega, S9.out⟩
            case measure => simp [intOf]; omega
          | true =>
            go_wp2_with ((with_reducible show wpList _ _ _ (⟨some 42, _, _, _, _, _⟩ :: _) _ _); refine wpList_append_gr (lo := w.heap.size) (e := 33) (sz := 4) (v := .slice x3 l.length c3) (n := l.length) (xs := stpCs l) rfl (.tmp 39) (.tmp 41) 24 rfl i0 _ 40 Tryd.underlying24 hi hz0 hz1 hz2' rfl (by decide) rfl (by rw [stpCs_length]) ?_ ⟨wc.heap.size, 0, none⟩ 1 1 rfl [.int .i64 5, .int .i64 0, .int .i64 (q + 1 + z), .string ⟨#[]⟩] (by decide) rfl ?_ one4 (by unfold maxLen; omega) (by omega) (by simp; omega) ?_)
            · exact (S9.out.next (below_alloc1 wc _) hbl).gr
            · exact four_new wc _ _ _ _ 33
            · intro gg cc w8 hgn hgr hloc
              have S10 := Lib.hid ((S9.out.next (below_alloc1 wc _) hbl).grow hbl (5, 0, (q + 1 + z), ⟨#[]⟩) ⟨Nat.zero_le _, by simp, by simp⟩ gg cc hgn hgr)
              clear hgn hgr hloc
              go_wp2_with fail
              go_roundw
              case rel => exact ⟨k - 1, l ++ [(5, 0, (q + 1 + z), ⟨#[]⟩)], (q + 1 + z), by first | rfl | (congr 1; omega) | (rw [show ((k - 1 : Nat) : Int) = (k : Int) - 1 by omega]), rfl, by simp; omega, by omega, by omega, by have := S10.out; simpa using this⟩
              case measure => simp [intOf]; omega
    · obtain rfl : k = 0 := by omega
      go_wp2_with fail
      go_ret
      exact ⟨l, _, by omega, rfl, ST.out⟩

def OddRel (b : Nat) (a : Option Addr) (len cap : Nat) (w : World) (v i : Value) (wr : World) : Prop :=
  ∃ (l : List stpT), i = .int .i64 (l.length : Int) ∧ l.length ≤ 21 ∧ LSt b a len cap w l v wr


set_option maxRecDepth 100000 in
set_option maxHeartbeats 8000000 in
theorem odd_any (b : Nat) (a : Option Addr) (len cap : Nat) (w : World) (hS : Src w b a len cap) (hR : Row w a len b) :
    Calls Tryd.prog 30 #[.pointer (some ⟨b, 0, none⟩), .int .i64 4] w (DrawnSt b a len cap 21 w) := by
  obtain ⟨i0, hi, hz0, hz1, hz2'⟩ := info_parts Tryd.infostp
  have hbl := hS.lt
  have HR := Lib.hid hR
  have HS := Lib.hid hS
  clear hS hR
  go_enter Tryd.func30, Tryd.ntmps30
  go_wp2_with fail
  refine (steps_any b a len cap w HS.out HR.out).mono ?_
  rintro e w1 ⟨l, v, hlen, rfl, hst⟩
  obtain ⟨x1, c1, rfl⟩ := gr_form hst.gr
  have S1 := Lib.hid hst
  clear hst HS
  go_wp2_with fail
  refine (n_any b a len cap 8 w1 S1.out.src (HR.out.kept S1.out.kept) (by omega) (by omega)).mono ?_
  rintro e w2 ⟨y, ⟨hy0, hy1⟩, rfl, hs2, hk2⟩
  have S2 := Lib.hid (S1.out.keep hk2 hs2 hbl)
  clear hs2 hk2 S1
  have hy : y = 0 ∨ y = 1 ∨ 2 ≤ y := by omega
  rcases hy with rfl | rfl | hy2
  · go_wp2_with fail
    refine (any_any b a len cap w2 S2.out.src (HR.out.kept S2.out.kept)).mono ?_
    rintro e w3 ⟨x, hx, rfl, hs3, hk3⟩
    unfold stpV
    have S3 := Lib.hid (S2.out.keep hk3 hs3 hbl)
    clear hs3 hk3 S2
    have hz9 : w.heap.size ≤ w3.heap.size := S3.out.kept.size
    go_wp2_with ((with_reducible show wpList _ _ _ (⟨some 18, _, _, _, _, _⟩ :: _) _ _); refine wpList_append_gr (lo := w.heap.size) (e := 33) (sz := 4) (v := .slice x1 l.length c1) (n := l.length) (xs := stpCs l) rfl (.tmp 14) (.tmp 17) 24 rfl i0 _ 40 Tryd.underlying24 hi hz0 hz1 hz2' rfl (by decide) rfl (by rw [stpCs_length]) ?_ ⟨w3.heap.size, 0, none⟩ 1 1 rfl [.int .i64 x.1, .int .i64 x.2.1, .int .i64 x.2.2.1, .string x.2.2.2] (by decide) rfl ?_ one4 (by unfold maxLen; omega) (by omega) (by simp; omega) ?_)
    · exact (S3.out.next (below_alloc1 w3 _) hbl).gr
    · exact four_new w3 _ _ _ _ 33
    · intro gg cc w8 hgn hgr hloc
      have S10 : Hid (LSt b a len cap w (l ++ [x]) (.slice (some ⟨gg, 0, none⟩) (l.length + 1) cc) w8) := by have h9 := (S3.out.next (below_alloc1 w3 _) hbl).grow hbl x hx gg cc hgn hgr; rw [List.length_append] at h9; exact Lib.hid h9
      clear hgn hgr hloc
      go_wp2_with fail
      refine (one_any b a len cap 30 _ S10.out.src (HR.out.kept S10.out.kept) (by omega) (by omega)).mono ?_
      rintro e w3 ⟨bb, rfl, hs3, hk3⟩
      have S6 := Lib.hid (S10.out.keep hk3 hs3 hbl)
      clear hs3 hk3 S10
      cases bb with
      | false =>
        go_wp2_with fail
        go_ret
        exact ⟨(l ++ [x]), _, (by simp; omega), rfl, S6.out⟩
      | true =>
        have S7 := Lib.hid (show LSt b a len cap w [] (.slice none 0 0) w3 from ⟨Gr.nil _ _ _ _, S6.out.src, S6.out.kept, by simp⟩)
        clear S6
        go_wp2_with fail
        go_loopw [5, 6] (fun v i wr => OddRel b a len cap w v i wr) (fun _ i _ => 21 - (intOf i).toNat)
        case atStart => exact ⟨[], rfl, by simp, S7.out⟩
        case round =>
          clear S7
          obtain ⟨l, rfl, hl21, hst⟩ := hrel
          obtain ⟨x3, c3, rfl⟩ := gr_form hst.gr
          have ST := Lib.hid hst
          clear hst
          go_wp2_with fail
          refine (n_any b a len cap 2 wr ST.out.src (HR.out.kept ST.out.kept) (by omega) (by omega)).mono ?_
          rintro e w4 ⟨z, ⟨hzz0, hzz1⟩, rfl, hs4, hk4⟩
          have S4 := Lib.hid (ST.out.keep hk4 hs4 hbl)
          have m1 : wrap64 (20 + z) = 20 + z := IntWalk.wrap64_in _ (by omega)
          have m2 : IntKind.i64.wrap (20 + z) = 20 + z := IntWalk.i64_in _ (by omega)
          clear hs4 hk4 ST
          by_cases hlt : (l.length : Int) < 20 + z
          · have d0 : decide ((l.length : Int) < 20 + z) = true := decide_eq_true hlt
            have hz9 : w.heap.size ≤ w4.heap.size := S4.out.kept.size
            go_wp2_with ((with_reducible show wpList _ _ _ (⟨some 47, _, _, _, _, _⟩ :: _) _ _); refine wpList_append_gr (lo := w.heap.size) (e := 33) (sz := 4) (v := .slice x3 l.length c3) (n := l.length) (xs := stpCs l) rfl (.tmp 43) (.tmp 46) 24 rfl i0 _ 40 Tryd.underlying24 hi hz0 hz1 hz2' rfl (by decide) rfl (by rw [stpCs_length]) ?_ ⟨w4.heap.size, 0, none⟩ 1 1 rfl [.int .i64 5, .int .i64 0, .int .i64 (l.length : Int), .string ⟨#[]⟩] (by decide) rfl ?_ one4 (by unfold maxLen; omega) (by omega) (by simp; omega) ?_)
            · exact (S4.out.next (below_alloc1 w4 _) hbl).gr
            · exact four_new w4 _ _ _ _ 33
            · intro gg cc w8 hgn hgr hloc
              have S10 := Lib.hid ((S4.out.next (below_alloc1 w4 _) hbl).grow hbl (5, 0, (l.length : Int), ⟨#[]⟩) ⟨Nat.zero_le _, by simp, by simp⟩ gg cc hgn hgr)
              clear hgn hgr hloc
              go_wp2_with fail
              go_roundw
              case rel => exact ⟨l ++ [(5, 0, (l.length : Int), ⟨#[]⟩)], by simp, by simp; omega, by have := S10.out; simpa using this⟩
              case measure => simp [intOf]; omega
          · have d0 : decide ((l.length : Int) < 20 + z) = false := decide_eq_false hlt
            go_wp2_with fail
            go_ret
            exact ⟨l, _, hl21, rfl, S4.out⟩
  · by_cases hl0 : 0 < l.length
    · have d0 : decide ((0 : Int) < (l.length : Int)) = true := decide_eq_true (by omega)
      have d1 : decide (0 < l.length) = true := decide_eq_true hl0
      go_wp2_with fail
      refine (n_any1 b a len cap l.length w2 S2.out.src (HR.out.kept S2.out.kept) (by omega) (by omega)).mono ?_
      rintro e w3 ⟨j, hj, rfl, hs3, hk3⟩
      have S3 := Lib.hid (S2.out.keep hk3 hs3 hbl)
      clear hs3 hk3 S2
      obtain ⟨bb, off, hp, hblk, hcell⟩ := S3.out.gr.own.rd.get (by omega)
      subst hp
      have r0 : w3.cell? ⟨bb, off + j * 4, none⟩ = some (.int .i64 l[j].1) := by rw [hcell (j * 4) (by omega), stpCs_0 l j hj]
      have r1 : w3.cell? ⟨bb, off + j * 4 + 1, none⟩ = some (.int .i64 l[j].2.1) := by rw [Nat.add_assoc, hcell (j * 4 + 1) (by omega), stpCs_1 l j hj]
      have r2 : w3.cell? ⟨bb, off + j * 4 + 2, none⟩ = some (.int .i64 l[j].2.2.1) := by rw [Nat.add_assoc, hcell (j * 4 + 2) (by omega), stpCs_2 l j hj]
      have r3 : w3.cell? ⟨bb, off + j * 4 + 3, none⟩ = some (.string l[j].2.2.2) := by rw [Nat.add_assoc, hcell (j * 4 + 3) (by omega), stpCs_3 l j hj]
      have e0 : (j : Int) < (l.length : Int) := by omega
      have e1 : (0 : Int) ≤ (j : Int) := by omega
      have hsm := S3.out.sm l[j] (List.getElem_mem hj)
      obtain ⟨x, hx⟩ : ∃ x, x = l[j] := ⟨_, rfl⟩
      rw [← hx] at r0 r1 r2 r3 hsm
      clear hx hcell
      have hz9 : w.heap.size ≤ w3.heap.size := S3.out.kept.size
      go_wp2_with ((with_reducible show wpList _ _ _ (⟨some 33, _, _, _, _, _⟩ :: _) _ _); refine wpList_append_gr (lo := w.heap.size) (e := 33) (sz := 4) (v := .slice (some ⟨bb, off, none⟩) l.length c1) (n := l.length) (xs := stpCs l) rfl (.tmp 24) (.tmp 32) 24 rfl i0 _ 40 Tryd.underlying24 hi hz0 hz1 hz2' rfl (by decide) rfl (by rw [stpCs_length]) ?_ ⟨w3.heap.size, 0, none⟩ 1 1 rfl [.int .i64 x.1, .int .i64 x.2.1, .int .i64 x.2.2.1, .string x.2.2.2] (by decide) rfl ?_ one4 (by unfold maxLen; omega) (by omega) (by simp; omega) ?_)
      · exact (S3.out.next (below_alloc1 w3 _) hbl).gr
      · exact four_new w3 _ _ _ _ 33
      · intro gg cc w8 hgn hgr hloc
        have S10 : Hid (LSt b a len cap w (l ++ [x]) (.slice (some ⟨gg, 0, none⟩) (l.length + 1) cc) w8) := by have h9 := (S3.out.next (below_alloc1 w3 _) hbl).grow hbl x hsm gg cc hgn hgr; rw [List.length_append] at h9; exact Lib.hid h9
        clear hgn hgr hloc

        go_wp2_with fail
        refine (one_any b a len cap 30 _ S10.out.src (HR.out.kept S10.out.kept) (by omega) (by omega)).mono ?_
        rintro e w3 ⟨bb, rfl, hs3, hk3⟩
        have S6 := Lib.hid (S10.out.keep hk3 hs3 hbl)
        clear hs3 hk3 S10
        cases bb with
        | false =>
          go_wp2_with fail
          go_ret
          exact ⟨(l ++ [x]), _, (by simp; omega), rfl, S6.out⟩
        | true =>
          have S7 := Lib.hid (show LSt b a len cap w [] (.slice none 0 0) w3 from ⟨Gr.nil _ _ _ _, S6.out.src, S6.out.kept, by simp⟩)
          clear S6
          go_wp2_with fail
          go_loopw [5, 6] (fun v i wr => OddRel b a len cap w v i wr) (fun _ i _ => 21 - (intOf i).toNat)
          case atStart => exact ⟨[], rfl, by simp, S7.out⟩
          case round =>
            clear S7
            obtain ⟨l, rfl, hl21, hst⟩ := hrel
            obtain ⟨x3, c3, rfl⟩ := gr_form hst.gr
            have ST := Lib.hid hst
            clear hst
            go_wp2_with fail
            refine (n_any b a len cap 2 wr ST.out.src (HR.out.kept ST.out.kept) (by omega) (by omega)).mono ?_
            rintro e w4 ⟨z, ⟨hzz0, hzz1⟩, rfl, hs4, hk4⟩
            have S4 := Lib.hid (ST.out.keep hk4 hs4 hbl)
            have m1 : wrap64 (20 + z) = 20 + z := IntWalk.wrap64_in _ (by omega)
            have m2 : IntKind.i64.wrap (20 + z) = 20 + z := IntWalk.i64_in _ (by omega)
            clear hs4 hk4 ST
            by_cases hlt : (l.length : Int) < 20 + z
            · have d0 : decide ((l.length : Int) < 20 + z) = true := decide_eq_true hlt
              have hz9 : w.heap.size ≤ w4.heap.size := S4.out.kept.size
              go_wp2_with ((with_reducible show wpList _ _ _ (⟨some 47, _, _, _, _, _⟩ :: _) _ _); refine wpList_append_gr (lo := w.heap.size) (e := 33) (sz := 4) (v := .slice x3 l.length c3) (n := l.length) (xs := stpCs l) rfl (.tmp 43) (.tmp 46) 24 rfl i0 _ 40 Tryd.underlying24 hi hz0 hz1 hz2' rfl (by decide) rfl (by rw [stpCs_length]) ?_ ⟨w4.heap.size, 0, none⟩ 1 1 rfl [.int .i64 5, .int .i64 0, .int .i64 (l.length : Int), .string ⟨#[]⟩] (by decide) rfl ?_ one4 (by unfold maxLen; omega) (by omega) (by simp; omega) ?_)
              · exact (S4.out.next (below_alloc1 w4 _) hbl).gr
              · exact four_new w4 _ _ _ _ 33
              · intro gg cc w8 hgn hgr hloc
                have S10 := Lib.hid ((S4.out.next (below_alloc1 w4 _) hbl).grow hbl (5, 0, (l.length : Int), ⟨#[]⟩) ⟨Nat.zero_le _, by simp, by simp⟩ gg cc hgn hgr)
                clear hgn hgr hloc
                go_wp2_with fail
                go_roundw
                case rel => exact ⟨l ++ [(5, 0, (l.length : Int), ⟨#[]⟩)], by simp, by simp; omega, by have := S10.out; simpa using this⟩
                case measure => simp [intOf]; omega
            · have d0 : decide ((l.length : Int) < 20 + z) = false := decide_eq_false hlt
              go_wp2_with fail
              go_ret
              exact ⟨l, _, hl21, rfl, S4.out⟩
    · have d0 : decide ((0 : Int) < (l.length : Int)) = false := decide_eq_false (by omega)
      have d1 : decide (0 < l.length) = false := decide_eq_false hl0
      go_wp2_with fail
      refine (one_any b a len cap 30 _ S2.out.src (HR.out.kept S2.out.kept) (by omega) (by omega)).mono ?_
      rintro e w3 ⟨bb, rfl, hs3, hk3⟩
      have S6 := Lib.hid (S2.out.keep hk3 hs3 hbl)
      clear hs3 hk3 S2
      cases bb with
      | false =>
        go_wp2_with fail
        go_ret
        exact ⟨l, _, (by omega), rfl, S6.out⟩
      | true =>
        have S7 := Lib.hid (show LSt b a len cap w [] (.slice none 0 0) w3 from ⟨Gr.nil _ _ _ _, S6.out.src, S6.out.kept, by simp⟩)
        clear S6
        go_wp2_with fail
        go_loopw [5, 6] (fun v i wr => OddRel b a len cap w v i wr) (fun _ i _ => 21 - (intOf i).toNat)
        case atStart => exact ⟨[], rfl, by simp, S7.out⟩
        case round =>
          clear S7
          obtain ⟨l, rfl, hl21, hst⟩ := hrel
          obtain ⟨x3, c3, rfl⟩ := gr_form hst.gr
          have ST := Lib.hid hst
          clear hst
          go_wp2_with fail
          refine (n_any b a len cap 2 wr ST.out.src (HR.out.kept ST.out.kept) (by omega) (by omega)).mono ?_
          rintro e w4 ⟨z, ⟨hzz0, hzz1⟩, rfl, hs4, hk4⟩
          have S4 := Lib.hid (ST.out.keep hk4 hs4 hbl)
          have m1 : wrap64 (20 + z) = 20 + z := IntWalk.wrap64_in _ (by omega)
          have m2 : IntKind.i64.wrap (20 + z) = 20 + z := IntWalk.i64_in _ (by omega)
          clear hs4 hk4 ST
          by_cases hlt : (l.length : Int) < 20 + z
          · have d0 : decide ((l.length : Int) < 20 + z) = true := decide_eq_true hlt
            have hz9 : w.heap.size ≤ w4.heap.size := S4.out.kept.size
            go_wp2_with ((with_reducible show wpList _ _ _ (⟨some 47, _, _, _, _, _⟩ :: _) _ _); refine wpList_append_gr (lo := w.heap.size) (e := 33) (sz := 4) (v := .slice x3 l.length c3) (n := l.length) (xs := stpCs l) rfl (.tmp 43) (.tmp 46) 24 rfl i0 _ 40 Tryd.underlying24 hi hz0 hz1 hz2' rfl (by decide) rfl (by rw [stpCs_length]) ?_ ⟨w4.heap.size, 0, none⟩ 1 1 rfl [.int .i64 5, .int .i64 0, .int .i64 (l.length : Int), .string ⟨#[]⟩] (by decide) rfl ?_ one4 (by unfold maxLen; omega) (by omega) (by simp; omega) ?_)
            · exact (S4.out.next (below_alloc1 w4 _) hbl).gr
            · exact four_new w4 _ _ _ _ 33
            · intro gg cc w8 hgn hgr hloc
              have S10 := Lib.hid ((S4.out.next (below_alloc1 w4 _) hbl).grow hbl (5, 0, (l.length : Int), ⟨#[]⟩) ⟨Nat.zero_le _, by simp, by simp⟩ gg cc hgn hgr)
              clear hgn hgr hloc
              go_wp2_with fail
              go_roundw
              case rel => exact ⟨l ++ [(5, 0, (l.length : Int), ⟨#[]⟩)], by simp, by simp; omega, by have := S10.out; simpa using this⟩
              case measure => simp [intOf]; omega
          · have d0 : decide ((l.length : Int) < 20 + z) = false := decide_eq_false hlt
            go_wp2_with fail
            go_ret
            exact ⟨l, _, hl21, rfl, S4.out⟩
  · have n0 : (y == 0) = false := by simp; omega
    have n1 : (y == 1) = false := by simp; omega
    go_wp2_with fail
    refine (one_any b a len cap 30 _ S2.out.src (HR.out.kept S2.out.kept) (by omega) (by omega)).mono ?_
    rintro e w3 ⟨bb, rfl, hs3, hk3⟩
    have S6 := Lib.hid (S2.out.keep hk3 hs3 hbl)
    clear hs3 hk3 S2
    cases bb with
    | false =>
      go_wp2_with fail
      go_ret
      exact ⟨l, _, (by omega), rfl, S6.out⟩
    | true =>
      have S7 := Lib.hid (show LSt b a len cap w [] (.slice none 0 0) w3 from ⟨Gr.nil _ _ _ _, S6.out.src, S6.out.kept, by simp⟩)
      clear S6
      go_wp2_with fail
      go_loopw [5, 6] (fun v i wr => OddRel b a len cap w v i wr) (fun _ i _ => 21 - (intOf i).toNat)
      case atStart => exact ⟨[], rfl, by simp, S7.out⟩
      case round =>
        clear S7
        obtain ⟨l, rfl, hl21, hst⟩ := hrel
        obtain ⟨x3, c3, rfl⟩ := gr_form hst.gr
        have ST := Lib.hid hst
        clear hst
        go_wp2_with fail
        refine (n_any b a len cap 2 wr ST.out.src (HR.out.kept ST.out.kept) (by omega) (by omega)).mono ?_
        rintro e w4 ⟨z, ⟨hzz0, hzz1⟩, rfl, hs4, hk4⟩
        have S4 := Lib.hid (ST.out.keep hk4 hs4 hbl)
        have m1 : wrap64 (20 + z) = 20 + z := IntWalk.wrap64_in _ (by omega)
        have m2 : IntKind.i64.wrap (20 + z) = 20 + z := IntWalk.i64_in _ (by omega)
        clear hs4 hk4 ST
        by_cases hlt : (l.length : Int) < 20 + z
        · have d0 : decide ((l.length : Int) < 20 + z) = true := decide_eq_true hlt
          have hz9 : w.heap.size ≤ w4.heap.size := S4.out.kept.size
          go_wp2_with ((with_reducible show wpList _ _ _ (⟨some 47, _, _, _, _, _⟩ :: _) _ _); refine wpList_append_gr (lo := w.heap.size) (e := 33) (sz := 4) (v := .slice x3 l.length c3) (n := l.length) (xs := stpCs l) rfl (.tmp 43) (.tmp 46) 24 rfl i0 _ 40 Tryd.underlying24 hi hz0 hz1 hz2' rfl (by decide) rfl (by rw [stpCs_length]) ?_ ⟨w4.heap.size, 0, none⟩ 1 1 rfl [.int .i64 5, .int .i64 0, .int .i64 (l.length : Int), .string ⟨#[]⟩] (by decide) rfl ?_ one4 (by unfold maxLen; omega) (by omega) (by simp; omega) ?_)
          · exact (S4.out.next (below_alloc1 w4 _) hbl).gr
          · exact four_new w4 _ _ _ _ 33
          · intro gg cc w8 hgn hgr hloc
            have S10 := Lib.hid ((S4.out.next (below_alloc1 w4 _) hbl).grow hbl (5, 0, (l.length : Int), ⟨#[]⟩) ⟨Nat.zero_le _, by simp, by simp⟩ gg cc hgn hgr)
            clear hgn hgr hloc
            go_wp2_with fail
            go_roundw
            case rel => exact ⟨l ++ [(5, 0, (l.length : Int), ⟨#[]⟩)], by simp, by simp; omega, by have := S10.out; simpa using this⟩
            case measure => simp [intOf]; omega
        · have d0 : decide ((l.length : Int) < 20 + z) = false := decide_eq_false hlt
          go_wp2_with fail
          go_ret
          exact ⟨l, _, hl21, rfl, S4.out⟩
end Go.Proofs.YtcckpkcjekcajaaDoor
