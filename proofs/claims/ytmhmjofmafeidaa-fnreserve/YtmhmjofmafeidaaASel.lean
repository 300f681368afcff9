/- impl.selected. -/
import Derived.Test.YtmhmjofmafeidaaAExt
import Derived.Test.YtmhmjofmafeidaaAResM
import Derived.Test.YtmhmjofmafeidaaAIlo2
namespace Go.Proofs.Ytmhmjofmafeidaa
open Go.RowKit Go.Shelf
attribute [local go_sem] Oper.semAt_some

theorem own_kept {W W' : World} {lo n sz : Nat} {v : Value} {xs : List Value} {row : Option Nat} (h : Own W lo v n sz xs) (hs : 0 < sz) (hg : W.grownBy W' row) (hr : ∀ r, row = some r → ∃ o : Obj, W.heap[r]? = some o ∧ o.isCells = false) : Own W' lo v n sz xs := by
  refine h.grown hg (fun h0 e => ?_)
  obtain ⟨hl, a, c, rfl, h2⟩ := h
  obtain ⟨b, off, rfl, _, _, h3, _⟩ := h2 h0
  obtain ⟨o, ho, hc⟩ := hr b (by rw [← e]; rfl)
  have hpos : 0 < n * sz := Nat.mul_pos h0 hs
  have h4 := h3 0 hpos
  rw [List.getElem?_eq_getElem (by omega)] at h4
  simp [World.cell?, ho] at h4
  cases o <;> simp [Obj.isCells] at hc h4
theorem Own.take {w : World} {lo n m c : Nat} {a : Option Addr} {xs : List Value} (h : Own w lo (.slice a n c) n 1 xs) (hm : m ≤ n) (c' : Nat) : Own w lo (.slice a m c') m 1 (xs.take m) := by
  obtain ⟨h1, a', c1, e, h2⟩ := h
  simp only [Value.slice.injEq, true_and] at e
  obtain ⟨rfl, rfl⟩ := e
  refine ⟨by rw [List.length_take]; omega, a, c', rfl, fun h0 => ?_⟩
  obtain ⟨b, off, e, h3, h4, h5, h6⟩ := h2 (by omega)
  refine ⟨b, off, e, h3, h4, fun j hj => ?_, fun j hj => h6 j (by omega)⟩
  rw [h5 j (by omega), List.getElem?_take, if_pos (by omega)]
theorem Gr.room {w : World} {lo e sz n c : Nat} {a : Option Addr} {xs : List Value} (h : Gr w lo e sz (.slice a n c) n xs) : n ≤ c := by
  rcases h with ⟨h0, _, h | ⟨g, cap, cur, h1, _, _, h2, _⟩⟩ | ⟨rfl, _, _⟩
  · omega
  · simp only [Value.slice.injEq, true_and] at h1; omega
  · omega
def SelI (nn : Nat) (w : World) (pre : List gE) (W : World) : Prop :=
  ((∀ y ∈ pre, y.1.2 < (nn : Int)) ∧ Bx W w.heap.size 2 #[.int .i64 nn] ∧ Bx W (w.heap.size + 1) 23 #[.slice none 0 0] ∧ w.heap.size + 3 ≤ W.heap.size) ∧ Below w.heap.size w W
def SelX (nn : Nat) (w : World) (c : Code) (pre : List gE) (W : World) : Prop :=
  (c = .ret ∧ ∃ (p : List gE) (x : gE) (v : Value), pre = p ++ [x] ∧ (∀ y ∈ p, y.1.2 < (nn : Int)) ∧ (nn : Int) ≤ x.1.2 ∧ Bx W (w.heap.size + 1) 23 #[v] ∧ Own W w.heap.size v nn 1 (ints (spanL x.1.1 nn))) ∧ Below w.heap.size w W
set_option maxRecDepth 100000 in
set_option maxHeartbeats 4000000 in
theorem selected_any (fv : Value) (free : List Int) (nn lo : Nat) (w : World) (h : Gr w lo 2 1 fv free.length (ints free)) (hlo : lo ≤ w.heap.size) (ho : okL free = true) (hn : nn ≤ free.length) :
    Calls Try.prog 57 #[fv, .int .i64 nn] w fun e W' => ∃ v, e = .returned v ∧ Own W' lo v nn 1 (ints (selL free nn)) ∧ Below w.heap.size w W' := by
  have hlen := okL_len free ho
  obtain ⟨a, c, rfl⟩ := h.form
  have hroom := h.room
  have HG := Lib.hid h
  clear h
  refine (callsIn_wide (n := 7)).1 ?_
  refine callsIn_of_wp_marks Try.func57 rfl trivial ?_ rfl
  simp only [Try.ntmps57, List.size_toArray, List.length_cons, List.length_nil, Nat.reduceAdd, Nat.reduceSub, Array.replicate_succ, Array.replicate_zero, List.push_toArray, List.append_toArray, List.nil_append, List.cons_append]
  gi_wp2_with (refine ⟨trivial, ?_⟩; gi_at_call 47; refine (runs_in Fence.wide _ trivial rfl _ _ _ _).mono ?_; rintro e w' ⟨rfl, rfl⟩)
  have b0 := below_alloc1 w (.cells #[.int .i64 (nn : Int)] 2)
  have b1 := below_alloc1 (w.alloc (.cells #[.int .i64 (nn : Int)] 2)) (.cells #[.slice none 0 0] 23)
  have b2 := below_alloc1 ((w.alloc (.cells #[.int .i64 (nn : Int)] 2)).alloc (.cells #[.slice none 0 0] 23)) (.cells #[.slice a free.length c] 23)
  have x0 := ((bx_new w 2 #[.int .i64 (nn : Int)]).next b1).next b2
  have x1 := (bx_new (w.alloc (.cells #[.int .i64 (nn : Int)] 2)) 23 #[.slice none 0 0]).next b2
  have x2 := bx_new ((w.alloc (.cells #[.int .i64 (nn : Int)] 2)).alloc (.cells #[.slice none 0 0] 23)) 23 #[.slice a free.length c]
  have hB0 := (b0.trans (b1.mono b0.size)).trans (b2.mono (Nat.le_trans b0.size b1.size))
  have hsz : (((w.alloc (.cells #[.int .i64 (nn : Int)] 2)).alloc (.cells #[.slice none 0 0] 23)).alloc (.cells #[.slice a free.length c] 23)).heap.size = w.heap.size + 3 := by simp
  simp only [World.size_alloc] at x1 x2
  obtain ⟨W0, hW0⟩ : ∃ W0, ((w.alloc (.cells #[.int .i64 (nn : Int)] 2)).alloc (.cells #[.slice none 0 0] 23)).alloc (.cells #[.slice a free.length c] 23) = W0 := ⟨_, rfl⟩
  rw [hW0] at x0 x1 x2 hB0 hsz ⊢
  clear hW0 b0 b1 b2
  have hL : LowL W0.heap.size W0 (.slice a free.length c) free := lowL_of_rd (HG.out.own.rd.below hB0 (Nat.le_refl _))
  refine wpIn_rangeFunc_ownH rfl (by omega) (gf := 64) (lb := #[.pointer (some ⟨w.heap.size + 1 + 1, 0, none⟩)]) rfl trivial (enters_of Try.func64 (by kernel_rfl) rfl)
    (runs_stopsG Fence.wide (7 - 1) trivial rfl (by omega) (w.heap.size + 1 + 1) W0.heap.size _ free ho W0 (by omega) (Nat.le_refl _) (x2.cell 0) hL) belowK_t (belowK_b (Nat.le_refl _)) (Below.refl _ _) (fun _ => rfl)
    (SelI nn w)
    (SelX nn w)
    (OwnFrom.and (fun s A B row hs hg hr => ⟨hs.1, bx_kept hs.2.1 hg (fun r e => (hr r e).2), bx_kept hs.2.2.1 hg (fun r e => (hr r e).2), Nat.le_trans hs.2.2.2 hg.size⟩) (ownFrom_below (Nat.le_refl _) (by omega)))
    (fun c => OwnFrom.and (fun s A B row hs hg hr => by
      obtain ⟨h1, p, x, v, h2, h3, h4, h5, h6⟩ := hs
      exact ⟨h1, p, x, v, h2, h3, h4, bx_kept h5 hg (fun r e => (hr r e).2), own_kept h6 (by decide) hg (fun r e => (hr r e).2)⟩) (ownFrom_below (Nat.le_refl _) (by omega)))
    ⟨⟨by simp, x0, x1, by omega⟩, hB0⟩
    (fun x a' W => ∃ b, w.heap.size + 1 < b ∧ Bx W b 40 #[.int .i64 x.1.1, .int .i64 x.1.2] ∧ a' = { tmps := #[.slice a free.length c, .int .i64 nn, undef, .pointer (some ⟨w.heap.size, 0, none⟩), .pointer (some ⟨w.heap.size + 1, 0, none⟩), .pointer (some ⟨b, 0, none⟩), .slice a free.length c, .func (.func 64) #[] #[.pointer (some ⟨w.heap.size + 1 + 1, 0, none⟩)], .agg #[.int .i64 x.1.1, .int .i64 x.1.2], undef, undef, undef, undef, undef, undef, undef, undef, undef, undef, undef, undef, undef], defers := [] })
    (fun x a' _ X Y row hs hg hr => by obtain ⟨b, h1, h2, h3⟩ := hs; exact ⟨b, h1, bx_kept h2 hg (fun r e => (hr r e).2), h3⟩)
    ?assign ?body ?done ?stop
  case assign =>
    rintro lp pre x W K ⟨⟨hy, y0, y1, hs3⟩, hB1⟩ hK
    have bb := below_alloc1 W (.cells #[.int .i64 x.1.1, .int .i64 x.1.2] 40)
    have h3 : w.heap.size + 1 < W.heap.size := y1.lt
    unfold extV
    gi_wp2
    refine hK _ _ ((KeepsOthers.alloc _ _).from _) ((Below.refl _ W).alloc (by omega) _) ⟨⟨hy, y0.next bb, y1.next bb, by simp; omega⟩, hB1.alloc hB1.size _⟩ ⟨W.heap.size, h3, bx_new W 40 #[.int .i64 x.1.1, .int .i64 x.1.2], rfl⟩
  case body =>
    rintro lp pre ⟨⟨xf, xc⟩, hx⟩ a' W hl ⟨r, hr⟩ ⟨⟨hy, y0, y1, hs3⟩, hB1⟩ ⟨b, hb, bX, rfl⟩ hlt
    have hgd := (goodE_iff _).1 hx
    simp only at hgd
    have HY := Lib.hid hy
    have Y0 := Lib.hid y0
    have Y1 := Lib.hid y1
    have HB := Lib.hid hB1
    have cn := y0.cell 0
    have c0 := bX.c0
    have c1 := bX.c1
    simp at cn
    have hsW := hB1.size
    clear hr hy y1 hB1 bX y0 hl hlt
    by_cases hge : (nn : Int) ≤ xc
    · obtain ⟨f, hf⟩ : ∃ f : Nat, xf = (f : Int) := ⟨xf.toNat, by omega⟩
      subst hf
      have hfn : f + nn ≤ 24 := by omega
      have HSP := Lib.hid (fromB_span f nn hfn)
      have hcov := pow24 nn (by omega)
      obtain ⟨M, hM⟩ : ∃ M : Nat, M = (2 ^ nn - 1) * 2 ^ f := ⟨_, rfl⟩
      have hM1 : M < 16777216 := by
        have h1 := covN_lt ((f : Int), (nn : Int))
        rw [covN_nat, ← hM] at h1
        by_cases hnn : 1 ≤ nn
        · have := h1 (good_one f nn hnn hfn)
          have h2 : (2 : Nat) ^ 24 = 16777216 := by decide
          omega
        · obtain rfl : nn = 0 := by omega
          rw [hM]; simp
      have HM := Lib.hid hM
      clear hM hcov
      have d : decide ((nn : Int) ≤ xc) = true := decide_eq_true hge
      gi_wp2_with (first
        | (refine ⟨trivial, ?_⟩; gi_at_call 53; refine (CallsIn.inRound lp (callsIn_wide.2 (extBits_any f nn _ hfn))).mono ?_; rintro e w1 ⟨rfl, hb1⟩; rw [← HM.out])
        | (refine ⟨trivial, ?_⟩; gi_at_call 22; refine (CallsIn.inRound lp (callsIn_wide.2 (implFromB (M : Int) _ (by omega) (by omega)))).mono ?_; rintro e w2 ⟨v2, rfl, hg2, hb2⟩; rw [HM.out, HSP.out] at hg2; obtain ⟨a5, c5, rfl⟩ := hg2.form; have hbb := hb1.trans (hb2.mono hb1.size); have cr := (Y1.out.next hbb).cell 0; have fr := (Y1.out.next hbb).frozen 0; simp at cr))
      have hk2 : KeepsOthers W w2 := ⟨hbb.size, fun k o hk _ => (hbb.block k (Array.getElem?_eq_some_iff.1 hk).1).trans hk⟩
      refine ⟨(hk2.trans (KeepsOthers.setCell _ _ _)).from _, ⟨rfl, pre, ⟨((f : Int), xc), hx⟩, _, rfl, HY.out, hge, (Y1.out.next hbb).set (j := 0) _, ?_⟩, ?_⟩
      · have h8 : Gr w2 w.heap.size 2 1 (.slice a5 (spanL (f : Int) nn).length c5) (spanL (f : Int) nn).length (ints (spanL (f : Int) nn)) := hg2.lower (by have := hb1.size; omega)
        rw [spanL_len] at h8 ⊢
        refine h8.own.other ⟨w.heap.size + 1, 0, none⟩ _ (fun k hk => ?_)
        have h9 := (hg2.own.blk k (by rw [spanL_len]; exact hk)).1
        have := hb1.size
        simp; omega
      · exact (HB.out.trans (hbb.mono hsW)).setCell (p := ⟨w.heap.size + 1, 0, none⟩) (by simp) _
    · have d : decide ((nn : Int) ≤ xc) = false := decide_eq_false hge
      gi_wp2
      refine ⟨KeepsFrom.refl _ _, Below.refl _ _, ⟨fun y hy => ?_, Y0.out, Y1.out, hs3⟩, HB.out⟩
      rcases List.mem_append.1 hy with h | h
      · exact HY.out y h
      · simp at h; subst h; simp; omega
  case done =>
    rintro D ys W hD hys ⟨⟨hy, y0, y1, hs3⟩, hB⟩ hK
    have cn := y0.cell 0
    have cr := y1.cell 0
    have fr := y1.frozen 0
    simp at cn cr
    have HSEL : selL free nn = free.take nn := selL_none free nn (firstR_none _ _ (fun e he => by
      rw [← hys] at he
      obtain ⟨y, hy1, rfl⟩ := List.mem_map.1 he
      exact hy y hy1))
    have e0 : (0 : Int) ≤ (nn : Int) := by omega
    have e1 : (nn : Int) ≤ (c : Int) := by omega
    gi_wp2
    have hK' := (KeepsOthers.setCell W ⟨w.heap.size + 1, 0, none⟩ (.slice a nn c)).same D _ hK rfl
    refine ⟨by simp, .inl ⟨_, _, rfl, run_takeDeferred hK', ?_⟩⟩
    have y2 := y1.set (j := 0) (.slice a nn c)
    have hc5 := (bx_kept y2 (grownBy_putObj' _ D (.deferred none)) (fun r e => by cases e; exact ⟨_, hK', rfl⟩)).cell 0
    simp at hc5
    have hown : Own W lo (.slice a nn c) nn 1 (ints (free.take nn)) := by
      have h7 := (HG.out.own.below hB (Nat.le_refl _)).take hn c
      have h8 : (ints free).take nn = ints (free.take nn) := by simp [ints, List.map_take]
      rw [h8] at h7
      exact h7
    have hblk : ∀ k, blk (.slice a nn c) nn = some k → k < w.heap.size := fun k hk => ((HG.out.own.take hn c).blk k hk).2
    have hown2 := hown.other ⟨w.heap.size + 1, 0, none⟩ (.slice a nn c) (fun k hk => by have := hblk k hk; simp; omega)
    have ho5 := own_kept hown2 (by decide) (grownBy_putObj' _ D (.deferred none)) (fun r e => by cases e; exact ⟨_, hK', rfl⟩)
    refine ⟨.slice a nn c, by simp [results, Try.results57, go_sem, hc5], _, rfl, by rw [HSEL]; exact ho5, ?_⟩
    exact (hB.setCell (p := ⟨w.heap.size + 1, 0, none⟩) (by simp) _).trans (belowK_b (w := w) (Nat.le_refl _) _ D _ _ (by omega) hK' rfl rfl)
  case stop =>
    rintro D cc pre W hD hpre ⟨⟨rfl, p, x, v, rfl, h2, h3, hcr, ho2⟩, hB⟩ hK
    gi_wp2
    refine ⟨by simp, .inl ⟨_, _, rfl, run_takeDeferred hK, ?_⟩⟩
    have hc5 := (bx_kept hcr (grownBy_putObj' _ D (.deferred none)) (fun r e => by cases e; exact ⟨_, hK, rfl⟩)).cell 0
    have ho5 := own_kept ho2 (by decide) (grownBy_putObj' _ D (.deferred none)) (fun r e => by cases e; exact ⟨_, hK, rfl⟩)
    simp at hc5
    refine ⟨v, by simp [results, Try.results57, go_sem, hc5], v, rfl, ?_, hB.trans (belowK_b (w := w) (Nat.le_refl _) W D _ _ (by omega) hK rfl rfl)⟩
    obtain ⟨q, hq⟩ := hpre
    have : selL free nn = spanL x.1.1 nn := selL_some free nn x.1 (by
      rw [← hq]
      simp only [List.map_append, List.map_cons, List.map_nil, List.append_assoc, List.singleton_append]
      exact firstR_at _ q x.1 nn (fun y hy => by
        obtain ⟨z, hz, rfl⟩ := List.mem_map.1 hy
        exact h2 z hz) h3)
    rw [this]
    exact ho5.lower hlo
end Go.Proofs.Ytmhmjofmafeidaa
