/- The program's closure that makes a block; MadeBy. -/
import Derived.Test.YtcckpkcjekcajaaDoorM3
namespace Go.Proofs.YtcckpkcjekcajaaDoor
open Go.RowKit

theorem below_two (w : World) (o p : Obj) : Below w.heap.size w ((w.alloc o).alloc p) := (below_alloc1 w o).trans ((below_alloc1 _ p).mono (below_alloc1 w o).size)
theorem blk_cells {w : World} {b off n k : Nat} {l : List ByteArray} (hn : n = l.length) (hk : k < l.length) (hc : ∀ j, j < n * 8 → w.cell? ⟨b, off + j, none⟩ = (blkCs l)[j]?) (m : Nat) (hm : m < 8) : w.cell? ⟨b, off + k * 8 + m, none⟩ = some (.int .u8 (bat l[k] m).toNat) := by
  subst hn
  rw [Nat.add_assoc, hc (k * 8 + m) (by omega), blkCs_at l k m hk hm]; rfl
set_option maxHeartbeats 2000000 in
set_option maxRecDepth 100000 in
theorem implMk (k t f : Int) (d : ByteArray) (l : List ByteArray) (g lo : Nat) (u : Value) (w : World) (hm : Maker w lo l g u) (hs : ∀ s ∈ l, s.size = 8) (hok : stepB (l.length : Int) k t f d = true) (h5 : k ≠ 5) :
    Calls Tryd.prog 67 #[.agg #[.int .i64 k, .int .i64 t, .int .i64 f, .string d], .pointer (some ⟨g, 0, none⟩)] w fun e w' => e = .returned (.agg (blkA (makeS (k, t, f, d) (l.getD f.toNat ⟨#[]⟩)))) ∧ Below w.heap.size w w' := by
  obtain ⟨R, hR⟩ : ∃ R, R = makeS (k, t, f, d) (l.getD f.toNat ⟨#[]⟩) := ⟨_, rfl⟩
  rw [← hR]
  unfold makeS at hR
  simp only at hR
  obtain ⟨hn, hcs⟩ := (stepB_iff ..).1 hok
  obtain ⟨f0, f1, -, -, -, k0, k1⟩ := ok_from hok h5
  clear hok
  have b0 := below_alloc1 w (.cells #[.int .i64 k, .int .i64 t, .int .i64 f, .string d] 33)
  have b1 := b0.trans ((below_alloc1 (w.alloc (.cells #[.int .i64 k, .int .i64 t, .int .i64 f, .string d] 33)) (.cells #[.int .u8 0, .int .u8 0, .int .u8 0, .int .u8 0, .int .u8 0, .int .u8 0, .int .u8 0, .int .u8 0] 65)).mono b0.size)
  have X0 := Lib.hid ((bx_new w 33 #[.int .i64 k, .int .i64 t, .int .i64 f, .string d]).next (below_alloc1 _ (.cells #[.int .u8 0, .int .u8 0, .int .u8 0, .int .u8 0, .int .u8 0, .int .u8 0, .int .u8 0, .int .u8 0] 65)))
  have X1 := Lib.hid (bx_new (w.alloc (.cells #[.int .i64 k, .int .i64 t, .int .i64 f, .string d] 33)) 65 #[.int .u8 0, .int .u8 0, .int .u8 0, .int .u8 0, .int .u8 0, .int .u8 0, .int .u8 0, .int .u8 0])
  rw [size_alloc1] at X1
  have B1 := Lib.hid b1
  have HM := Lib.hid (hm.below b1 (Nat.le_refl _))
  have HM0 := Lib.hid hm
  have hglt := hm.lt
  clear b0 b1 hm
  rcases hcs with ⟨rfl, h1, hf, h2⟩ | ⟨rfl, h1, hf, h2⟩ | ⟨rfl, h1, h3, h2⟩ | ⟨rfl, h1, h3, h2⟩ | ⟨h, -⟩
  · rw [if_pos rfl] at hR
    subst hR
    clear h1 hf h2
    go_enter Tryd.func67, Tryd.ntmps67
    go_wp2_with fail
    refine bodyPost_ret (v := .agg #[.int .u8 0, .int .u8 0, .int .u8 0, .int .u8 0, .int .u8 0, .int .u8 0, .int .u8 0, .int .u8 0]) (by simp [results, Tryd.results67, go_sem]) rfl ⟨rfl, ?_⟩
    exact B1.out
  · rw [if_neg (by decide), if_pos rfl] at hR
    have HR := Lib.hid hR
    have H2 := Lib.hid h2
    clear hR h1 hf h2
    go_enter Tryd.func67, Tryd.ntmps67
    go_wp2_with fail
    generalize (w.alloc (.cells #[.int .i64 2, .int .i64 t, .int .i64 f, .string d] 33)).alloc (.cells #[.int .u8 0, .int .u8 0, .int .u8 0, .int .u8 0, .int .u8 0, .int .u8 0, .int .u8 0, .int .u8 0] 65) = W1 at *
    refine (implOf d W1 H2.out).mono ?_
    rintro e W2 ⟨rfl, hb⟩
    have hx := X1.out.next hb
    have c0 := hx.cell 0
    have c1 := hx.cell 1
    have c2 := hx.cell 2
    have c3 := hx.cell 3
    have c4 := hx.cell 4
    have c5 := hx.cell 5
    have c6 := hx.cell 6
    have c7 := hx.cell 7
    simp at c0 c1 c2 c3 c4 c5 c6 c7
    have z0 := hx.frozen 0
    have z1 := hx.frozen 1
    have z2 := hx.frozen 2
    have z3 := hx.frozen 3
    have z4 := hx.frozen 4
    have z5 := hx.frozen 5
    have z6 := hx.frozen 6
    have z7 := hx.frozen 7
    have B2 := Lib.hid (below_more B1.out hb)
    clear hb hx
    rw [← HR.out]
    unfold blkA B
    go_wp2_with fail
    refine bodyPost_ret (v := .agg (blkA R)) (by simp [blkA, B, results, Tryd.results67, go_sem, c0, c1, c2, c3, c4, c5, c6, c7]) rfl ⟨rfl, ?_⟩
    exact eight_set B2.out (by omega) _ _ _ _ _ _ _ _
  · rw [if_neg (by decide), if_neg (by decide), if_pos rfl] at hR
    obtain ⟨m, rfl⟩ : ∃ m : Nat, f = m := ⟨f.toNat, by omega⟩
    have hml : m < l.length := by omega
    have hg : l.getD ((m : Int)).toNat ⟨#[]⟩ = l[m] := by rw [Int.toNat_natCast, List.getD_eq_getElem?_getD, List.getElem?_eq_getElem hml]; rfl
    rw [hg] at hR
    have HR := Lib.hid hR
    clear hR h1 h3 h2 hg
    have hc := HM.out.cell
    obtain ⟨a2, c2, rfl, -⟩ := id HM.out.rd.2
    obtain ⟨b, off, rfl, hbl, hcell⟩ := HM.out.rd.get (by omega)
    have hbc := fun m' hm' => blk_cells rfl hml hcell m' hm'
    rw [← HR.out] at hbc
    have q0 := hbc 0 (by decide)
    rw [Nat.add_zero] at q0
    have q1 := hbc 1 (by decide)
    have q2 := hbc 2 (by decide)
    have q3 := hbc 3 (by decide)
    have q4 := hbc 4 (by decide)
    have q5 := hbc 5 (by decide)
    have q6 := hbc 6 (by decide)
    have q7 := hbc 7 (by decide)
    have hgn : g ≠ w.heap.size := by omega
    clear hbc hcell
    go_enter Tryd.func67, Tryd.ntmps67
    go_wp2_with fail
    refine bodyPost_ret (v := .agg (blkA R)) (by simp [blkA, B, results, Tryd.results67, go_sem]) rfl ⟨rfl, ?_⟩
    exact below_two _ _ _
  · rw [if_neg (by decide), if_neg (by decide), if_neg (by decide)] at hR
    obtain ⟨m, rfl⟩ : ∃ m : Nat, f = m := ⟨f.toNat, by omega⟩
    have hml : m < l.length := by omega
    have hg : l.getD ((m : Int)).toNat ⟨#[]⟩ = l[m] := by rw [Int.toNat_natCast, List.getD_eq_getElem?_getD, List.getElem?_eq_getElem hml]; rfl
    rw [hg] at hR
    have hsm := hs _ (List.getElem_mem hml)
    have hR2 : R = xor8 l[m] d := by rw [hR]; unfold xorS; rw [if_pos ⟨hsm, h2⟩]
    have H2 := Lib.hid h2
    have hlo0 := HM0.out.cell
    obtain ⟨a2, c2, rfl, -⟩ := id HM0.out.rd.2
    obtain ⟨b, off, rfl, hbl, hcell⟩ := HM0.out.rd.get (by omega)
    have hbc := fun m' hm' => blk_cells rfl hml hcell m' hm'
    obtain ⟨src, hsrc⟩ : ∃ src, src = l[m] := ⟨_, rfl⟩
    rw [← hsrc] at hbc hR2
    have HR := Lib.hid hR2
    clear hR hR2 h1 h3 h2 hg hsrc hsm
    have q0 := hbc 0 (by decide)
    rw [Nat.add_zero] at q0
    have q1 := hbc 1 (by decide)
    have q2 := hbc 2 (by decide)
    have q3 := hbc 3 (by decide)
    have q4 := hbc 4 (by decide)
    have q5 := hbc 5 (by decide)
    have q6 := hbc 6 (by decide)
    have q7 := hbc 7 (by decide)
    clear hbc hcell
    go_enter Tryd.func67, Tryd.ntmps67
    go_wp2_with fail
    generalize (w.alloc (.cells #[.int .i64 4, .int .i64 t, .int .i64 (m : Int), .string d] 33)).alloc (.cells #[.int .u8 0, .int .u8 0, .int .u8 0, .int .u8 0, .int .u8 0, .int .u8 0, .int .u8 0, .int .u8 0] 65) = W1 at *
    have hz1 := X1.out.lt
    have kp := Lib.hid (show ∀ w', Below (w.heap.size + 1) W1 w' → w'.cell? ⟨g, 0, none⟩ = some (.slice (some ⟨b, off, none⟩) l.length c2) ∧ w'.cell? ⟨w.heap.size, 2, none⟩ = some (.int .i64 (m : Int)) ∧ w'.cell? ⟨w.heap.size, 3, none⟩ = some (.string d) ∧ w'.cell? ⟨b, off + m * 8, none⟩ = some (.int .u8 (bat src 0).toNat) ∧ w'.cell? ⟨b, off + m * 8 + 1, none⟩ = some (.int .u8 (bat src 1).toNat) ∧ w'.cell? ⟨b, off + m * 8 + 2, none⟩ = some (.int .u8 (bat src 2).toNat) ∧ w'.cell? ⟨b, off + m * 8 + 3, none⟩ = some (.int .u8 (bat src 3).toNat) ∧ w'.cell? ⟨b, off + m * 8 + 4, none⟩ = some (.int .u8 (bat src 4).toNat) ∧ w'.cell? ⟨b, off + m * 8 + 5, none⟩ = some (.int .u8 (bat src 5).toNat) ∧ w'.cell? ⟨b, off + m * 8 + 6, none⟩ = some (.int .u8 (bat src 6).toNat) ∧ w'.cell? ⟨b, off + m * 8 + 7, none⟩ = some (.int .u8 (bat src 7).toNat) from fun w' hb' =>
      have hw : Below w.heap.size w w' := B1.out.trans (hb'.mono (by omega))
      have hx : w'.heap[w.heap.size]? = _ := (hb'.block w.heap.size (by omega)).trans X0.out
      have hx' : Bx w' w.heap.size 33 #[.int .i64 4, .int .i64 t, .int .i64 (m : Int), .string d] := hx
      ⟨(hw.cell (p := ⟨g, 0, none⟩) hglt).trans hlo0, hx'.q2, hx'.q3, (hw.cell (p := ⟨b, off + m * 8, none⟩) hbl).trans q0, (hw.cell (p := ⟨b, off + m * 8 + 1, none⟩) hbl).trans q1, (hw.cell (p := ⟨b, off + m * 8 + 2, none⟩) hbl).trans q2, (hw.cell (p := ⟨b, off + m * 8 + 3, none⟩) hbl).trans q3, (hw.cell (p := ⟨b, off + m * 8 + 4, none⟩) hbl).trans q4, (hw.cell (p := ⟨b, off + m * 8 + 5, none⟩) hbl).trans q5, (hw.cell (p := ⟨b, off + m * 8 + 6, none⟩) hbl).trans q6, (hw.cell (p := ⟨b, off + m * 8 + 7, none⟩) hbl).trans q7⟩)
    have K1 := Lib.hid (kp.out W1.drew (Below.refl _ _).drew)
    have K2 := Lib.hid (fun w2 (hb2 : Below W1.drew.heap.size W1.drew w2) => kp.out w2 (Below.trans (Below.refl _ W1).drew (hb2.mono (Nat.le_of_lt hz1))))
    have K3 := Lib.hid (fun w2 w3 (hb2 : Below W1.drew.heap.size W1.drew w2) (hb3 : Below w2.heap.size w2 w3) => K2.out w3 (below_more hb2 hb3))
    have K4 := Lib.hid (fun w2 w3 (hb2 : Below W1.drew.heap.size W1.drew w2) (hb3 : Below w2.heap.size w2 w3) (x0 x1 x2 x3 x4 x5 x6 x7 : Value) => kp.out _ (eight_set (g := w.heap.size + 1) (Below.trans (Below.refl (w.heap.size + 1) W1).drew ((below_more hb2 hb3).mono (Nat.le_of_lt hz1))) (Nat.le_refl _) x0 x1 x2 x3 x4 x5 x6 x7))
    clear q0 q1 q2 q3 q4 q5 q6 q7 hlo0
    obtain ⟨i0, i1, i2, i3, i4, i5, i6, i7, i8, i9, i10⟩ := kp.out W1 (Below.refl _ _)
    go_region_held3 (fun w' => w'.cell? ⟨g, 0, none⟩ = some (.slice (some ⟨b, off, none⟩) l.length c2) ∧ w'.cell? ⟨w.heap.size, 2, none⟩ = some (.int .i64 (m : Int)) ∧ w'.cell? ⟨w.heap.size, 3, none⟩ = some (.string d) ∧ w'.cell? ⟨b, off + m * 8, none⟩ = some (.int .u8 (bat src 0).toNat) ∧ w'.cell? ⟨b, off + m * 8 + 1, none⟩ = some (.int .u8 (bat src 1).toNat) ∧ w'.cell? ⟨b, off + m * 8 + 2, none⟩ = some (.int .u8 (bat src 2).toNat) ∧ w'.cell? ⟨b, off + m * 8 + 3, none⟩ = some (.int .u8 (bat src 3).toNat) ∧ w'.cell? ⟨b, off + m * 8 + 4, none⟩ = some (.int .u8 (bat src 4).toNat) ∧ w'.cell? ⟨b, off + m * 8 + 5, none⟩ = some (.int .u8 (bat src 5).toNat) ∧ w'.cell? ⟨b, off + m * 8 + 6, none⟩ = some (.int .u8 (bat src 6).toNat) ∧ w'.cell? ⟨b, off + m * 8 + 7, none⟩ = some (.int .u8 (bat src 7).toNat))
      (first | (with_reducible exact K1.out) | (with_reducible exact K2.out _ hb2) | (with_reducible exact K3.out _ _ hb2 hb3) | (with_reducible exact K4.out _ _ hb2 hb3 _ _ _ _ _ _ _ _))
      ((first | (go_at_call 46; go_split_ands; refine (implOf d _ H2.out).mono ?_; rintro e w2 ⟨rfl, hb2⟩) | (go_at_call 47; go_split_ands; refine (implXd src d _).mono ?_; rintro e w3 ⟨rfl, hb3⟩; rw [← HR.out]; unfold blkA B; have hx := (X1.out.next (Below.refl _ _).drew).next (below_more hb2 hb3); have c0 := hx.cell 0; have c1 := hx.cell 1; have c2 := hx.cell 2; have c3 := hx.cell 3; have c4 := hx.cell 4; have c5 := hx.cell 5; have c6 := hx.cell 6; have c7 := hx.cell 7; simp at c0 c1 c2 c3 c4 c5 c6 c7; have z0 := hx.frozen 0; have z1 := hx.frozen 1; have z2 := hx.frozen 2; have z3 := hx.frozen 3; have z4 := hx.frozen 4; have z5 := hx.frozen 5; have z6 := hx.frozen 6; have z7 := hx.frozen 7; clear hx)))
    all_goals (
      have B9 := Lib.hid (B1.out.trans (Below.trans (Below.refl w.heap.size W1).drew ((below_more hb2 hb3).mono (by exact B1.out.size))))
      clear hb2 hb3
      go_wp2_with fail
      refine bodyPost_ret (v := .agg (blkA R)) (by simp [blkA, B, results, Tryd.results67, go_sem, c0, c1, c2, c3, c4, c5, c6, c7]) rfl ⟨rfl, ?_⟩
      exact eight_set B9.out (by omega) _ _ _ _ _ _ _ _)
  · exact absurd h h5
end Go.Proofs.YtcckpkcjekcajaaDoor
