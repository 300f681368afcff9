/- What the law FnFlash draws: a write, a number of sectors, a torn text. -/
import Derived.Test.YtkeimgglikdbfaaFDraw
namespace Go.Proofs.Ytkeimgglikdbfaa
open Go.RowKit

theorem zero_cells {w6 : World} {g n : Nat} (r1 : w6.ownsRow g 5 1 (.slice (some ⟨g, 0, none⟩) n n) n (madeCells (Value.int .u8 0).cells (n * 1)).toList) : ∀ j, j < n → w6.cell? ⟨g, j, none⟩ = some (.int .u8 0) := by
  intro j hj
  obtain ⟨b', off', e, _, _, hc, _⟩ := (own_of_row r1).get (by omega)
  cases e
  have := hc j (by omega)
  rw [Nat.zero_add] at this
  rw [this, zeros_at n j hj]
theorem conv_zero {w : World} {g n : Nat} (hc : ∀ j, j < n → w.cell? ⟨g, j, none⟩ = some (.int .u8 0)) : (convert 22 9 (.slice (some ⟨g, 0, none⟩) n n)).run Try.prog w = .ok (.string ⟨(List.replicate n (0 : UInt8)).toArray⟩) w := by
  have := run_convert_bytes_back (P := Try.prog) w 22 9 5 ⟨g, 0, none⟩ n (List.replicate n 0) Try.underlying22 Try.underlying5 Try.underlying9 (fun j hj => by
    rw [List.length_replicate] at hj
    rw [Addr.add_lit, Nat.zero_add, hc j hj]; simp)
  rwa [List.length_replicate] at this
theorem zero_set {w : World} {g n R : Nat} (hc : ∀ j, j < n → w.cell? ⟨g, j, none⟩ = some (.int .u8 0)) (hg : g ≠ R) (x y : Value) : ∀ j, j < n → ((w.setCell ⟨R, 0, none⟩ x).setCell ⟨R, 1, none⟩ y).cell? ⟨g, j, none⟩ = some (.int .u8 0) := by
  intro j hj
  rw [World.cell?_setCell_other (h := by simp [hg.symm, hg]), World.cell?_setCell_other (h := by simp [hg.symm, hg])]
  exact hc j hj

set_option maxHeartbeats 2000000 in
set_option maxRecDepth 100000 in
theorem drawWrite_any (a : Option Addr) (len cap : Nat) (w : World) (hB : Bytes w a len) (hl : len ≤ 1048576) :
    Calls Try.prog 4 #[.slice a len cap] w (DrawnWrite w) := by
  have HB := Lib.hid hB
  clear hB
  have z0 := size_alloc1 w (.cells #[.slice none 0 0, .slice none 0 0] 26)
  have A0 := Lib.hid (bx_new w 26 #[.slice none 0 0, .slice none 0 0])
  have B0 := Lib.hid (below_alloc1 w (.cells #[.slice none 0 0, .slice none 0 0] 26))
  go_enter Try.func4, Try.ntmps4
  go_wp2_with fail
  generalize w.alloc (.cells #[.slice none 0 0, .slice none 0 0] 26) = W0 at *
  refine (source_any a len cap W0 (HB.out.below B0.out) hl).mono ?_
  rintro e w1 ⟨rfl, hs1, hb1⟩
  have g1 : W0.heap.size ≤ w1.heap.size := hb1.size
  rw [z0] at hs1
  have hlt1 := hs1.lt
  have A1 := Lib.hid (A0.out.next hb1)
  have R1 := Lib.hid ((HB.out.below B0.out).row hb1 (by omega : W0.heap.size ≤ w.heap.size + 1))
  have B1 := Lib.hid (B0.out.trans (hb1.mono (by omega)))
  have S1 := Lib.hid hs1
  clear hs1 hb1 A0 B0
  go_wp2_with fail
  refine (flash_any (w.heap.size + 1) a len cap w1 S1.out R1.out).mono ?_
  rintro e w2 ⟨F, sv, dv, hdf, rfl, hfg, hs2, hk2⟩
  obtain ⟨x1, n1, rfl, -⟩ := id hfg.1.2
  obtain ⟨x2, n2, rfl, -⟩ := id hfg.2.1.2
  have g2 : w1.heap.size ≤ w2.heap.size := hk2.size
  have R2 := Lib.hid (R1.out.kept hk2)
  have HD := Lib.hid hdf
  have ST : Hid (DSt (w.heap.size + 1) w.heap.size w2.heap.size w1.heap.size a len cap w F (.slice x1 F.sec.length n1) (.slice x2 F.dir.length n2) (w2.alloc (.cells #[.slice x1 F.sec.length n1, .slice x2 F.dir.length n2] 26))) :=
    Lib.hid ⟨(A1.out.kept hk2 (by omega)).next (below_alloc1 w2 _), bx_new w2 _ _, hfg.below (below_alloc1 w2 _) (Nat.le_refl _), hs2.below (below_alloc1 w2 _), (B1.out.trans (hk2.below (by omega) (by omega))).trans ((below_alloc1 w2 _).mono (by omega))⟩
  have R3 := Lib.hid (R2.out.kept (below_kept (below_alloc1 w2 (.cells #[.slice x1 F.sec.length n1, .slice x2 F.dir.length n2] 26))))
  clear hdf hfg hs2 hk2 A1 B1 S1 R1 R2
  go_wp2_with fail
  generalize w2.alloc (.cells #[.slice x1 F.sec.length n1, .slice x2 F.dir.length n2] 26) = W2 at *
  generalize w2.heap.size = m at *
  clear w2
  refine (n_any (w.heap.size + 1) a len cap 8 W2 ST.out.src R3.out (by omega) (by omega)).mono ?_
  rintro e w3 ⟨at_, ⟨ha0, ha1⟩, rfl, hs3, hk3⟩
  have ST3 := Lib.hid (ST.out.keep hk3 hs3 (by omega) (by omega) (by omega) (by omega))
  have R4 := Lib.hid (R3.out.kept hk3)
  clear hs3 hk3 ST R3
  go_wp2_with fail
  refine (one_any (w.heap.size + 1) a len cap 10 w3 ST3.out.src R4.out (by omega) (by omega)).mono ?_
  rintro e w4 ⟨bb, rfl, hs4, hk4⟩
  have ST4 := Lib.hid (ST3.out.keep hk4 hs4 (by omega) (by omega) (by omega) (by omega))
  have R5 := Lib.hid (R4.out.kept hk4)
  clear hs4 hk4 ST3 R4
  have k0 := ST4.out.box.c0
  have k1 := ST4.out.box.c1
  have k2 := ST4.out.ans.c0
  have k3 := ST4.out.ans.c1
  have k4 := ST4.out.ans.frozen 0
  have k5 := ST4.out.ans.frozen 1
  cases bb with
  | false =>
    go_wp2_with fail
    go_region_with (first
      | (go_at_call 27; refine (n_any (w.heap.size + 1) a len cap 5 _ ?_ ?_ (by omega) (by omega)).mono ?_; exact ST4.out.drew.src; exact (R5.out.kept (Kept.refl _ w4).drew); rintro e w5 ⟨x5, ⟨hx50, hx51⟩, rfl, hs5, hk5⟩; obtain ⟨j5, rfl⟩ := Int.eq_ofNat_of_zero_le hx50; have ST5 := Lib.hid (ST4.out.drew.keep hk5 hs5 (by omega) (by omega) (by omega) (by omega)); have R6 := Lib.hid (R5.out.kept ((Kept.refl _ w4).drew.trans hk5)); have q0 := ST5.out.box.c0; have q1 := ST5.out.box.c1; have q2 := ST5.out.ans.c0; have q3 := ST5.out.ans.c1; have q4 := ST5.out.ans.frozen 0; have q5 := ST5.out.ans.frozen 1)
      | (go_at_call 29; refine (bytes_any (w.heap.size + 1) a len cap j5 _ ?_ ?_ (by omega)).mono ?_; exact ST5.out.src; exact R6.out; rintro e w6 ⟨s6, hs60, rfl, hs6, hk6⟩; have ST6 := Lib.hid (ST5.out.keep hk6 hs6 (by omega) (by omega) (by omega) (by omega)); have p0 := ST6.out.box.c0; have p1 := ST6.out.box.c1; have p2 := ST6.out.ans.c0; have p3 := ST6.out.ans.c1; have p4 := ST6.out.ans.frozen 0; have p5 := ST6.out.ans.frozen 1))
    all_goals (
      obtain ⟨hfg, hbel, hans⟩ := ST6.out.store (by omega : w.heap.size < w1.heap.size) (Nat.le_refl _)
      have FG5 := Lib.hid hfg
      have BL5 := Lib.hid hbel
      have y0 := hans.c0
      have y1 := hans.c1
      clear hfg hbel hans
      go_wp2_with fail
      refine bodyPost_ret (v := .tuple #[.agg #[.slice x1 F.sec.length n1, .slice x2 F.dir.length n2], .int .i64 at_, .string s6]) (by simp [results, Try.results4, go_sem, y0, y1]) rfl ?_
      exact ⟨F, _, _, at_, s6, HD.out, by omega, by omega, rfl, FG5.out.lower (by omega), BL5.out⟩)
  | true =>
    obtain ⟨j0, hj, hy0, hy1, hy2⟩ := info_parts Try.infoU8
    go_wp2_with fail
    go_region_with ((go_at_call 27; refine (n_any (w.heap.size + 1) a len cap 2 _ ?_ ?_ (by omega) (by omega)).mono ?_; exact ST4.out.drew.src; exact (R5.out.kept (Kept.refl _ w4).drew); rintro e w5 ⟨x5, ⟨hx50, hx51⟩, rfl, hs5, hk5⟩; obtain ⟨j5, rfl⟩ := Int.eq_ofNat_of_zero_le hx50; have ST5 := Lib.hid (ST4.out.drew.keep hk5 hs5 (by omega) (by omega) (by omega) (by omega)); have q0 := ST5.out.box.c0; have q1 := ST5.out.box.c1; have q2 := ST5.out.ans.c0; have q3 := ST5.out.ans.c1; have q4 := ST5.out.ans.frozen 0; have q5 := ST5.out.ans.frozen 1; have mm : IntKind.i64.wrap (96 + (j5 : Int)) = 96 + (j5 : Int) := (IntWalk.i64_in _ (by omega)); obtain ⟨w6, hrun, r1, r2⟩ := run_make_full (P := Try.prog) w5 w5.heap.size 22 5 j0 _ 1 Try.underlying22 hj hy0 hy1 .i64 .i64 (96 + j5) (by rw [hy2]; omega) (by unfold maxLen; omega) (Nat.le_refl _); rw [show ((96 + j5 : Nat) : Int) = 96 + (j5 : Int) by omega] at hrun; have hb6 : Below w5.heap.size w5 w6 := ⟨r2.os, r2.tape, r2.output, r2.size, fun k hk => r2.block k hk (by simp)⟩; have ST6 := Lib.hid (ST5.out.next hb6); have p0 := ST6.out.box.c0; have p1 := ST6.out.box.c1; have p2 := ST6.out.ans.c0; have p3 := ST6.out.ans.c1; have p4 := ST6.out.ans.frozen 0; have p5 := ST6.out.ans.frozen 1; have hconv := conv_zero (zero_cells r1); have hconv2 := conv_zero (zero_set (R := w.heap.size) (zero_cells r1) (by have := ST5.out.ans.lt; omega) (.slice x1 F.sec.length n1) (.slice x2 F.dir.length n2))); have hzs : ((w5.setCell ⟨w.heap.size, 0, none⟩ (.slice x1 F.sec.length n1)).setCell ⟨w.heap.size, 1, none⟩ (.slice x2 F.dir.length n2)).heap.size = w5.heap.size := (by simp); obtain ⟨hfgS, hbelS, hansS⟩ := ST5.out.store (by omega : w.heap.size < w1.heap.size) (Nat.le_refl _); obtain ⟨w7, hrun7, r17, r27⟩ := run_make_full (P := Try.prog) ((w5.setCell ⟨w.heap.size, 0, none⟩ (.slice x1 F.sec.length n1)).setCell ⟨w.heap.size, 1, none⟩ (.slice x2 F.dir.length n2)) ((w5.setCell ⟨w.heap.size, 0, none⟩ (.slice x1 F.sec.length n1)).setCell ⟨w.heap.size, 1, none⟩ (.slice x2 F.dir.length n2)).heap.size 22 5 j0 _ 1 Try.underlying22 hj hy0 hy1 .i64 .i64 (96 + j5) (by rw [hy2]; omega) (by unfold maxLen; omega) (Nat.le_refl _); rw [show ((96 + j5 : Nat) : Int) = 96 + (j5 : Int) by omega, hzs] at hrun7; have hb7 : Below ((w5.setCell ⟨w.heap.size, 0, none⟩ (.slice x1 F.sec.length n1)).setCell ⟨w.heap.size, 1, none⟩ (.slice x2 F.dir.length n2)).heap.size ((w5.setCell ⟨w.heap.size, 0, none⟩ (.slice x1 F.sec.length n1)).setCell ⟨w.heap.size, 1, none⟩ (.slice x2 F.dir.length n2)) w7 := ⟨r27.os, r27.tape, r27.output, r27.size, fun k hk => r27.block k hk (by simp)⟩; rw [hzs] at r17; have hconv7 := conv_zero (zero_cells r17); have FG7 := Lib.hid (hfgS.below hb7 (Nat.le_refl _)); have BL7 := Lib.hid (hbelS.trans (hb7.mono hbelS.size)); have HA7 := Lib.hid (hansS.next hb7); clear hfgS hbelS hansS hb7 r17 r27 r1 r2 hb6)
    all_goals first
      | (obtain ⟨hfg, hbel, hans⟩ := ST6.out.store (by omega : w.heap.size < w1.heap.size) (Nat.le_refl _)
         have FG5 := Lib.hid hfg
         have BL5 := Lib.hid hbel
         have y0 := hans.c0
         have y1 := hans.c1
         clear hfg hbel hans
         go_wp2_with fail
         refine bodyPost_ret (v := .tuple #[.agg #[.slice x1 F.sec.length n1, .slice x2 F.dir.length n2], .int .i64 at_, .string ⟨(List.replicate (96 + j5) (0 : UInt8)).toArray⟩]) (by simp [results, Try.results4, go_sem, y0, y1]) rfl ?_
         exact ⟨F, _, _, at_, _, HD.out, by omega, by rw [zsize]; omega, rfl, FG5.out.lower (by omega), BL5.out⟩)
      | (have y0 := HA7.out.c0
         have y1 := HA7.out.c1
         go_wp2_with fail
         refine bodyPost_ret (v := .tuple #[.agg #[.slice x1 F.sec.length n1, .slice x2 F.dir.length n2], .int .i64 at_, .string ⟨(List.replicate (96 + j5) (0 : UInt8)).toArray⟩]) (by simp [results, Try.results4, go_sem, y0, y1]) rfl ?_
         exact ⟨F, _, _, at_, _, HD.out, by omega, by rw [zsize]; omega, rfl, FG7.out.lower (by omega), BL7.out⟩)
end Go.Proofs.Ytkeimgglikdbfaa
