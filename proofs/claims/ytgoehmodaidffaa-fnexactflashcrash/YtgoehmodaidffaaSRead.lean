/- The model's FlashRead. -/
import Derived.Test.YtgoehmodaidffaaSGet
namespace Go.Proofs.Ytgoehmodaidffaa
open Go.RowKit

open Classical in
noncomputable def readOf (F : FM) (at_ : Int) : OM :=
  if Right F then (if 0 ≤ at_ ∧ at_ < F.sec.length then ⟨F, getOf F at_, 0⟩ else illOf 8) else illOf 1

theorem FOwn.other {w : World} {lo : Nat} {sv dv : Value} {F : FM} (h : FOwn w lo sv dv F) (p : Addr) (x : Value) (hp : p.block < lo) : FOwn (w.setCell p x) lo sv dv F :=
  ⟨h.1.other p x (fun k hk => by have := (h.1.blk k hk).1; omega), h.2.1.other p x (fun k hk => by have := (h.2.1.blk k hk).1; omega), h.2.2⟩
/-- The four cells of an answer's block. -/
theorem out_cells {K : Nat} {W w' : World} {T : TypeId} {a b c d : Value} (hb : Below K (W.alloc (.cells #[a, b, c, d] T)) w') (hK : W.heap.size < K) :
    (w'.cell? ⟨W.heap.size, 0, none⟩ = some a ∧ w'.cell? ⟨W.heap.size, 1, none⟩ = some b ∧ w'.cell? ⟨W.heap.size, 2, none⟩ = some c ∧ w'.cell? ⟨W.heap.size, 3, none⟩ = some d) ∧
    w'.frozen? ⟨W.heap.size, 0, none⟩ = false ∧ w'.frozen? ⟨W.heap.size, 1, none⟩ = false ∧ w'.frozen? ⟨W.heap.size, 2, none⟩ = false ∧ w'.frozen? ⟨W.heap.size, 3, none⟩ = false := by
  have hc : ∀ j, w'.cell? ⟨W.heap.size, j, none⟩ = (#[a, b, c, d] : Array Value)[j]? := fun j => (hb.cell (p := ⟨W.heap.size, j, none⟩) hK).trans (World.cell?_alloc_new (w := W) #[a, b, c, d] T j)
  have hf : ∀ j, w'.frozen? ⟨W.heap.size, j, none⟩ = false := fun j => (hb.frozen (p := ⟨W.heap.size, j, none⟩) hK).trans (frozen_of_row _ W.heap.size j _ _ (heap_alloc_new W _))
  exact ⟨⟨hc 0, hc 1, hc 2, hc 3⟩, hf 0, hf 1, hf 2, hf 3⟩

/-- A boxed flash at n, an answer's block behind it. -/
def BoxOut (n : Nat) (sv dv : Value) (w : World) : Prop := w.cell? ⟨n, 0, none⟩ = some sv ∧ w.cell? ⟨n, 1, none⟩ = some dv ∧ (w.cell? ⟨n + 1, 0, none⟩).isSome = true ∧ (w.cell? ⟨n + 1, 1, none⟩).isSome = true ∧ (w.cell? ⟨n + 1, 2, none⟩).isSome = true ∧ (w.cell? ⟨n + 1, 3, none⟩).isSome = true ∧ w.frozen? ⟨n + 1, 0, none⟩ = false ∧ w.frozen? ⟨n + 1, 1, none⟩ = false ∧ w.frozen? ⟨n + 1, 2, none⟩ = false ∧ w.frozen? ⟨n + 1, 3, none⟩ = false
theorem boxOut_new (w : World) (sv dv a b c d : Value) (T U : TypeId) : BoxOut w.heap.size sv dv ((w.alloc (.cells #[sv, dv] T)).alloc (.cells #[a, b, c, d] U)) := by
  have e : (w.alloc (.cells #[sv, dv] T)).heap.size = w.heap.size + 1 := by simp
  obtain ⟨⟨c0, c1, c2, c3⟩, f0, f1, f2, f3⟩ := out_cells (Below.refl ((w.alloc (.cells #[sv, dv] T)).heap.size + 1) ((w.alloc (.cells #[sv, dv] T)).alloc (.cells #[a, b, c, d] U))) (Nat.lt_succ_self _)
  rw [e] at c0 c1 c2 c3 f0 f1 f2 f3
  obtain ⟨k0, k1⟩ := two_cells ((Below.refl (w.heap.size + 1) (w.alloc (.cells #[sv, dv] T))).alloc (by simp) (.cells #[a, b, c, d] U)) (Nat.lt_succ_self _)
  exact ⟨k0, k1, by rw [c0]; rfl, by rw [c1]; rfl, by rw [c2]; rfl, by rw [c3]; rfl, f0, f1, f2, f3⟩
theorem BoxOut.next {n : Nat} {sv dv : Value} {w1 w2 : World} (h : BoxOut n sv dv w1) (hz : n + 2 ≤ w1.heap.size) (hn : Below w1.heap.size w1 w2) : BoxOut n sv dv w2 := by
  obtain ⟨h0, h1, h2, h3, h4, h5, h6, h7, h8, h9⟩ := h
  have c : ∀ k j, k < n + 2 → w2.cell? ⟨k, j, none⟩ = w1.cell? ⟨k, j, none⟩ := fun k j hk => hn.cell (p := ⟨k, j, none⟩) (by simp; omega)
  have f : ∀ k j, k < n + 2 → w2.frozen? ⟨k, j, none⟩ = w1.frozen? ⟨k, j, none⟩ := fun k j hk => hn.frozen (p := ⟨k, j, none⟩) (by simp; omega)
  refine ⟨(c _ _ (by omega)).trans h0, (c _ _ (by omega)).trans h1, ?_, ?_, ?_, ?_, (f _ _ (by omega)).trans h6, (f _ _ (by omega)).trans h7, (f _ _ (by omega)).trans h8, (f _ _ (by omega)).trans h9⟩
  · rw [c _ _ (by omega)]; exact h2
  · rw [c _ _ (by omega)]; exact h3
  · rw [c _ _ (by omega)]; exact h4
  · rw [c _ _ (by omega)]; exact h5
theorem BoxOut.set {n j : Nat} {sv dv x : Value} {w : World} (h : BoxOut n sv dv w) : BoxOut n sv dv (w.setCell ⟨n + 1, j, none⟩ x) := by
  obtain ⟨h0, h1, h2, h3, h4, h5, h6, h7, h8, h9⟩ := h
  have c : ∀ i, (w.cell? ⟨n + 1, i, none⟩).isSome = true → ((w.setCell ⟨n + 1, j, none⟩ x).cell? ⟨n + 1, i, none⟩).isSome = true := fun i hi => by
    by_cases e : i = j
    · subst e; rw [World.cell?_setCell_same' w _ x hi]; rfl
    · rw [World.cell?_setCell_other (h := by simp [e])]; exact hi
  exact ⟨by rw [World.cell?_setCell_other (h := by simp)]; exact h0, by rw [World.cell?_setCell_other (h := by simp)]; exact h1, c 0 h2, c 1 h3, c 2 h4, c 3 h5, by simpa using h6, by simpa using h7, by simpa using h8, by simpa using h9⟩

/-- The same, for a drawn region. -/
def BoxIn (n : Nat) (sv dv : Value) (w0 w : World) : Prop := w.cell? ⟨n, 0, none⟩ = some sv ∧ w.cell? ⟨n, 1, none⟩ = some dv ∧ (w.cell? ⟨n + 1, 0, none⟩).isSome = true ∧ (w.cell? ⟨n + 1, 1, none⟩).isSome = true ∧ (w.cell? ⟨n + 1, 2, none⟩).isSome = true ∧ (w.cell? ⟨n + 1, 3, none⟩).isSome = true ∧ w.frozen? ⟨n + 1, 0, none⟩ = false ∧ w.frozen? ⟨n + 1, 1, none⟩ = false ∧ w.frozen? ⟨n + 1, 2, none⟩ = false ∧ w.frozen? ⟨n + 1, 3, none⟩ = false ∧ Below n w0 w ∧ n + 2 ≤ w.heap.size
theorem BoxIn.box {n : Nat} {sv dv : Value} {w0 w : World} (h : BoxIn n sv dv w0 w) : BoxOut n sv dv w := by
  obtain ⟨h0, h1, h2, h3, h4, h5, h6, h7, h8, h9, -, -⟩ := h
  exact ⟨h0, h1, h2, h3, h4, h5, h6, h7, h8, h9⟩
theorem BoxOut.inn {n : Nat} {sv dv : Value} {w0 w : World} (h : BoxOut n sv dv w) (hb : Below n w0 w) (hz : n + 2 ≤ w.heap.size) : BoxIn n sv dv w0 w := by
  obtain ⟨h0, h1, h2, h3, h4, h5, h6, h7, h8, h9⟩ := h
  exact ⟨h0, h1, h2, h3, h4, h5, h6, h7, h8, h9, hb, hz⟩
theorem BoxIn.below {n : Nat} {sv dv : Value} {w0 w : World} (h : BoxIn n sv dv w0 w) : Below n w0 w := h.2.2.2.2.2.2.2.2.2.2.1
theorem BoxIn.size {n : Nat} {sv dv : Value} {w0 w : World} (h : BoxIn n sv dv w0 w) : n + 2 ≤ w.heap.size := h.2.2.2.2.2.2.2.2.2.2.2
theorem BoxIn.next {n : Nat} {sv dv : Value} {w0 w1 w2 : World} (hn : Below w1.heap.size w1 w2) (h : BoxIn n sv dv w0 w1) : BoxIn n sv dv w0 w2 :=
  (h.box.next h.size hn).inn (h.below.trans (hn.mono (by have := h.size; omega))) (Nat.le_trans h.size hn.size)
theorem BoxIn.set {n j : Nat} {sv dv x : Value} {w0 w : World} (h : BoxIn n sv dv w0 w) : BoxIn n sv dv w0 (w.setCell ⟨n + 1, j, none⟩ x) :=
  h.box.set.inn (h.below.setCell (p := ⟨n + 1, j, none⟩) (by simp) x) (by simpa using h.size)

set_option maxHeartbeats 2000000 in
set_option maxRecDepth 100000 in
theorem specRead (sv dv : Value) (F : FM) (at_ : Int) (w : World) (h : FRd w sv dv F) (hf : FFits F) (hs : ∀ s ∈ F.sec, s.size ≤ 1048576) (hd : ∀ d ∈ F.dir, d.2.size ≤ 1048576) :
    Calls Try.prog 25 #[.agg #[sv, dv], .int .i64 at_] w (OMade w (readOf F at_)) := by
  obtain ⟨a, c, rfl, -⟩ := id h.1.2
  obtain ⟨a', c', rfl, -⟩ := id h.2.2
  have HF := Lib.hid hf
  have HS := Lib.hid hs
  have HD := Lib.hid hd
  have HR := Lib.hid h
  obtain ⟨O, hO⟩ : ∃ O, O = readOf F at_ := ⟨_, rfl⟩
  rw [← hO]
  unfold readOf at hO
  have H0 := Lib.hid hO
  clear h hf hs hd hO
  go_enter Try.func25, Try.ntmps25
  go_wp2_with fail
  have e1 : (w.alloc (.cells #[.slice a F.sec.length c, .slice a' F.dir.length c'] 26)).heap.size = w.heap.size + 1 := by simp
  have hb2 : Below w.heap.size w ((w.alloc (.cells #[.slice a F.sec.length c, .slice a' F.dir.length c'] 26)).alloc (.cells #[.slice none 0 0, .slice none 0 0, .string { data := #[] }, .int .i64 0] 30)) := ((Below.refl _ w).alloc (Nat.le_refl _) _).alloc (by simp) _
  have kz : ((w.alloc (.cells #[.slice a F.sec.length c, .slice a' F.dir.length c'] 26)).alloc (.cells #[.slice none 0 0, .slice none 0 0, .string { data := #[] }, .int .i64 0] 30)).heap.size = w.heap.size + 2 := by simp
  have hbo := boxOut_new w (.slice a F.sec.length c) (.slice a' F.dir.length c') (.slice none 0 0) (.slice none 0 0) (.string { data := #[] }) (.int .i64 0) 26 30
  generalize (w.alloc (.cells #[.slice a F.sec.length c, .slice a' F.dir.length c'] 26)).alloc (.cells #[.slice none 0 0, .slice none 0 0, .string { data := #[] }, .int .i64 0] 30) = W at *
  refine (specRight _ _ F W (HR.out.below hb2 (Nat.le_refl _)) HF.out HS.out HD.out).mono ?_
  rintro e w1 ⟨b, rfl, hiff, hb1⟩
  have hbo1 := hbo.next (by omega) hb1
  have hbw : Below w.heap.size w w1 := hb2.trans (hb1.mono (by omega))
  have hz1 : w.heap.size + 2 ≤ w1.heap.size := by have := hb1.size; omega
  clear e1 hb2 kz hbo hb1
  clear W
  cases b with
  | false =>
    have hn : ¬ Right F := fun r => by simpa using hiff.2 r
    have hO : O = illOf 1 := by rw [H0.out, if_neg hn]
    clear H0 hiff hn
    subst hO
    have HBO := Lib.hid hbo1
    have HBW := Lib.hid hbw
    clear hbo1 hbw
    go_wp2_with fail
    refine (specIll 1 w1).mono ?_
    rintro e w2 ⟨sv', dv', rfl, ho, hb2⟩
    obtain ⟨a1, n1, rfl, -⟩ := id ho.1.2
    obtain ⟨a2, n2, rfl, -⟩ := id ho.2.1.2
    obtain ⟨-, -, c0, c1, c2, c3, f0, f1, f2, f3⟩ := HBO.out.next hz1 hb2
    obtain ⟨x0, hx0⟩ := Option.isSome_iff_exists.1 c0
    obtain ⟨x1, hx1⟩ := Option.isSome_iff_exists.1 c1
    obtain ⟨x2, hx2⟩ := Option.isSome_iff_exists.1 c2
    obtain ⟨x3, hx3⟩ := Option.isSome_iff_exists.1 c3
    have HO := Lib.hid (ho.lower hz1)
    have HB := Lib.hid (HBW.out.trans (hb2.mono (by omega)))
    clear HBO HBW hb2 ho
    go_wp2_with fail
    refine bodyPost_ret (v := .agg #[.slice a1 (illOf 1).fl.sec.length n1, .slice a2 (illOf 1).fl.dir.length n2, .string (illOf 1).data, .int .i64 (illOf 1).code]) (by simp [results, Try.results25, go_sem, hx0, hx1, hx2, hx3]) rfl ⟨_, _, rfl, ?_, ?_⟩
    · exact ((((HO.out.other _ _ (by simp)).other _ _ (by simp)).other _ _ (by simp)).other _ _ (by simp)).lower (by omega)
    · exact (((HB.out.setCell (p := ⟨w.heap.size + 1, 0, none⟩) (by simp) _).setCell (p := ⟨w.heap.size + 1, 1, none⟩) (by simp) _).setCell (p := ⟨w.heap.size + 1, 2, none⟩) (by simp) _).setCell (p := ⟨w.heap.size + 1, 3, none⟩) (by simp) _
  | true =>
    have hr : Right F := hiff.1 rfl
    have hO1 := H0.out
    rw [if_pos hr] at hO1
    have HO1 := Lib.hid hO1
    obtain ⟨l0, l1, l2⟩ : 1 ≤ F.sec.length ∧ F.sec.length ≤ 40 ∧ F.dir.length ≤ 40 := ⟨hr.least, hr.most, Nat.le_trans hr.dirty hr.most⟩
    clear H0 hiff hr hO1
    have m0 : IntKind.i64.wrap ((F.sec.length : Int) - 1) = (F.sec.length : Int) - 1 := IntWalk.i64_in _ (by omega)
    by_cases hin : 0 ≤ at_ ∧ at_ < F.sec.length
    · have hO : O = ⟨F, getOf F at_, 0⟩ := by rw [HO1.out, if_pos hin]
      clear HO1
      subst hO
      obtain ⟨n0, n1⟩ := hin
      obtain ⟨b0, b1, b2, b3, b4, b5, b6, b7, b8, b9⟩ := id hbo1
      go_wp2_with fail
      refine (is_yes at_ 0 _ w1 n0 (by omega)).mono ?_
      rintro e w2 ⟨rfl, rfl⟩
      go_wp2_with fail
      have hb0 := Lib.hid (hbo1.inn hbw hz1)
      clear hbo1 hbw hz1
      go_region_held3 (fun w' => w'.cell? ⟨w.heap.size, 0, none⟩ = some (.slice a F.sec.length c) ∧ w'.cell? ⟨w.heap.size, 1, none⟩ = some (.slice a' F.dir.length c') ∧ (w'.cell? ⟨w.heap.size + 1, 0, none⟩).isSome = true ∧ (w'.cell? ⟨w.heap.size + 1, 1, none⟩).isSome = true ∧ (w'.cell? ⟨w.heap.size + 1, 2, none⟩).isSome = true ∧ (w'.cell? ⟨w.heap.size + 1, 3, none⟩).isSome = true ∧ w'.frozen? ⟨w.heap.size + 1, 0, none⟩ = false ∧ w'.frozen? ⟨w.heap.size + 1, 1, none⟩ = false ∧ w'.frozen? ⟨w.heap.size + 1, 2, none⟩ = false ∧ w'.frozen? ⟨w.heap.size + 1, 3, none⟩ = false ∧ Below w.heap.size w w' ∧ w.heap.size + 2 ≤ w'.heap.size)
        (first | (exact BoxIn.next (drew_below _) hb0.out) | (go_split_ands; first | (exact BoxIn.next hbm ⟨by assumption, by assumption, by assumption, by assumption, by assumption, by assumption, by assumption, by assumption, by assumption, by assumption, by assumption, by assumption⟩) | (exact BoxIn.next hbn ⟨by assumption, by assumption, by assumption, by assumption, by assumption, by assumption, by assumption, by assumption, by assumption, by assumption, by assumption, by assumption⟩) | (exact BoxIn.set (BoxIn.set (BoxIn.set (BoxIn.set ⟨by assumption, by assumption, by assumption, by assumption, by assumption, by assumption, by assumption, by assumption, by assumption, by assumption, by assumption, by assumption⟩))))))
        (first | (go_at_call 62; go_split_ands; refine (specCopy (.slice a F.sec.length c) (.slice a' F.dir.length c') F _ (HR.out.below (B := w.heap.size) (by assumption) (Nat.le_refl _)) HF.out).mono ?_; rintro e w3 ⟨sv1, dv1, rfl, ho, hbn⟩; obtain ⟨a1, p1, rfl, -⟩ := id ho.1.2; obtain ⟨a2, p2, rfl, -⟩ := id ho.2.1.2; have HO := Lib.hid (ho.lower (lo' := w.heap.size + 2) (by assumption)); clear ho) | (go_at_call 65; go_split_ands; refine (specGet (.slice a F.sec.length c) (.slice a' F.dir.length c') F at_ _ (HR.out.below (B := w.heap.size) (by assumption) (Nat.le_refl _)) HF.out n0 n1).mono ?_; rintro e w4 ⟨rfl, hbm⟩; have HO4 := Lib.hid (HO.out.below hbm (Nat.le_refl _)); obtain ⟨-, -, q0, q1, q2, q3, -⟩ := BoxIn.next (w0 := w) hbm ⟨by assumption, by assumption, by assumption, by assumption, by assumption, by assumption, by assumption, by assumption, by assumption, by assumption, by assumption, by assumption⟩; obtain ⟨x0, hx0⟩ := Option.isSome_iff_exists.1 q0; obtain ⟨x1, hx1⟩ := Option.isSome_iff_exists.1 q1; obtain ⟨x2, hx2⟩ := Option.isSome_iff_exists.1 q2; obtain ⟨x3, hx3⟩ := Option.isSome_iff_exists.1 q3; clear HO q0 q1 q2 q3))
      all_goals (
        go_split_ands
        have HBF := Lib.hid (show Below w.heap.size w ((((w4.setCell ⟨w.heap.size + 1, 0, none⟩ (.slice a1 F.sec.length p1)).setCell ⟨w.heap.size + 1, 1, none⟩ (.slice a2 F.dir.length p2)).setCell ⟨w.heap.size + 1, 2, none⟩ (.string (getOf F at_))).setCell ⟨w.heap.size + 1, 3, none⟩ (.int .i64 0)) by assumption)
        go_wp2_with fail
        refine bodyPost_ret (v := .agg #[.slice a1 F.sec.length p1, .slice a2 F.dir.length p2, .string (getOf F at_), .int .i64 0]) (by simp [results, Try.results25, go_sem, hx0, hx1, hx2, hx3]) rfl ⟨_, _, rfl, ?_, HBF.out⟩
        exact ((((HO4.out.other _ _ (by simp)).other _ _ (by simp)).other _ _ (by simp)).other _ _ (by simp)).lower (by omega))
    · have hO : O = illOf 8 := by rw [HO1.out, if_neg hin]
      clear HO1
      subst hO
      have hout : at_ < 0 ∨ 0 ≤ at_ ∧ (F.sec.length : Int) - 1 < at_ := by omega
      have HOUT := Lib.hid hout
      clear hin hout
      obtain ⟨b0, b1, -⟩ := id hbo1
      go_wp2_with fail
      refine (is_no at_ 0 _ w1 HOUT.out).mono ?_
      rintro e w2 ⟨rfl, rfl⟩
      have HBO := Lib.hid hbo1
      have HBW := Lib.hid hbw
      clear hbo1 hbw
      go_wp2_with fail
      refine (specIll 8 _).mono ?_
      rintro e w2 ⟨sv', dv', rfl, ho, hb2⟩
      obtain ⟨a1, n1, rfl, -⟩ := id ho.1.2
      obtain ⟨a2, n2, rfl, -⟩ := id ho.2.1.2
      obtain ⟨-, -, c0, c1, c2, c3, f0, f1, f2, f3⟩ := HBO.out.next hz1 hb2
      obtain ⟨x0, hx0⟩ := Option.isSome_iff_exists.1 c0
      obtain ⟨x1, hx1⟩ := Option.isSome_iff_exists.1 c1
      obtain ⟨x2, hx2⟩ := Option.isSome_iff_exists.1 c2
      obtain ⟨x3, hx3⟩ := Option.isSome_iff_exists.1 c3
      have HO := Lib.hid (ho.lower hz1)
      have HB := Lib.hid (HBW.out.trans (hb2.mono (by omega)))
      clear HBO HBW hb2 ho
      go_wp2_with fail
      refine bodyPost_ret (v := .agg #[.slice a1 (illOf 8).fl.sec.length n1, .slice a2 (illOf 8).fl.dir.length n2, .string (illOf 8).data, .int .i64 (illOf 8).code]) (by simp [results, Try.results25, go_sem, hx0, hx1, hx2, hx3]) rfl ⟨_, _, rfl, ?_, ?_⟩
      · exact ((((HO.out.other _ _ (by simp)).other _ _ (by simp)).other _ _ (by simp)).other _ _ (by simp)).lower (by omega)
      · exact (((HB.out.setCell (p := ⟨w.heap.size + 1, 0, none⟩) (by simp) _).setCell (p := ⟨w.heap.size + 1, 1, none⟩) (by simp) _).setCell (p := ⟨w.heap.size + 1, 2, none⟩) (by simp) _).setCell (p := ⟨w.heap.size + 1, 3, none⟩) (by simp) _
end Go.Proofs.Ytgoehmodaidffaa
