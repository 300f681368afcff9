/- What the law FnFlash draws. -/
import Derived.Test.YtkeimgglikdbfaaFFlash
import Derived.Test.YtkeimgglikdbfaaFFates
import Derived.Test.YtkeimgglikdbfaaSome
import Derived.Deep.RegionWith
namespace Go.Proofs.Ytkeimgglikdbfaa
open Go.RowKit

/-- The state of a draw: the answer's block R, the source's b, f's block m. -/
structure DSt (b R m lo : Nat) (a : Option Addr) (len cap : Nat) (W : World) (F : FM) (sv dv : Value) (wr : World) : Prop where
  ans : Bx wr R 26 #[.slice none 0 0, .slice none 0 0]
  box : Bx wr m 26 #[sv, dv]
  fg : FG wr lo sv dv F
  src : Src wr b a len cap
  bel : Below W.heap.size W wr
section
variable {b R m lo : Nat} {a : Option Addr} {len cap : Nat} {W : World} {F : FM} {sv dv : Value} {w1 w2 : World}
theorem DSt.keep (h : DSt b R m lo a len cap W F sv dv w1) (hk : Kept b w1 w2) (hs : Src w2 b a len cap) (h1 : R ≠ b) (h2 : m ≠ b) (h3 : b < lo) (h4 : W.heap.size ≤ b) : DSt b R m lo a len cap W F sv dv w2 :=
  ⟨h.ans.kept hk h1, h.box.kept hk h2, h.fg.kept hk h3, hs, h.bel.trans (hk.below h4 h.bel.size)⟩
theorem DSt.next (h : DSt b R m lo a len cap W F sv dv w1) (hb : Below w1.heap.size w1 w2) : DSt b R m lo a len cap W F sv dv w2 :=
  ⟨h.ans.next hb, h.box.next hb, h.fg.below hb (Nat.le_refl _), h.src.below hb, h.bel.trans (hb.mono h.bel.size)⟩
/-- What a world keeps while the answer is put together. -/
theorem DSt.dkeep (h : DSt b R m lo a len cap W F sv dv w1) : w1.cell? ⟨m, 0, none⟩ = some sv ∧ w1.cell? ⟨m, 1, none⟩ = some dv ∧ (w1.cell? ⟨R, 0, none⟩).isSome = true ∧ (w1.cell? ⟨R, 1, none⟩).isSome = true ∧ w1.frozen? ⟨R, 0, none⟩ = false ∧ w1.frozen? ⟨R, 1, none⟩ = false :=
  ⟨h.box.c0, h.box.c1, by rw [h.ans.c0]; rfl, by rw [h.ans.c1]; rfl, h.ans.frozen 0, h.ans.frozen 1⟩
theorem DSt.dkeep2 (h : DSt b R m lo a len cap W F sv dv w1) (hmR : m ≠ R) : ((w1.setCell ⟨R, 0, none⟩ sv).setCell ⟨R, 1, none⟩ dv).cell? ⟨m, 0, none⟩ = some sv ∧ ((w1.setCell ⟨R, 0, none⟩ sv).setCell ⟨R, 1, none⟩ dv).cell? ⟨m, 1, none⟩ = some dv ∧ (((w1.setCell ⟨R, 0, none⟩ sv).setCell ⟨R, 1, none⟩ dv).cell? ⟨R, 0, none⟩).isSome = true ∧ (((w1.setCell ⟨R, 0, none⟩ sv).setCell ⟨R, 1, none⟩ dv).cell? ⟨R, 1, none⟩).isSome = true ∧ ((w1.setCell ⟨R, 0, none⟩ sv).setCell ⟨R, 1, none⟩ dv).frozen? ⟨R, 0, none⟩ = false ∧ ((w1.setCell ⟨R, 0, none⟩ sv).setCell ⟨R, 1, none⟩ dv).frozen? ⟨R, 1, none⟩ = false := by
  have hb : Bx ((w1.setCell ⟨R, 0, none⟩ sv).setCell ⟨R, 1, none⟩ dv) m 26 #[sv, dv] := (h.box.other _ _ hmR).other _ _ hmR
  have ha : Bx ((w1.setCell ⟨R, 0, none⟩ sv).setCell ⟨R, 1, none⟩ dv) R 26 #[sv, dv] := (h.ans.set (j := 0) sv).set (j := 1) dv
  exact ⟨hb.c0, hb.c1, by rw [ha.c0]; rfl, by rw [ha.c1]; rfl, ha.frozen 0, ha.frozen 1⟩
theorem DSt.drew (h : DSt b R m lo a len cap W F sv dv w1) : DSt b R m lo a len cap W F sv dv w1.drew := ⟨h.ans, h.box, h.fg, h.src.drew, h.bel.drew⟩
/-- The answer stored. -/
theorem DSt.store (h : DSt b R m lo a len cap W F sv dv w1) (h1 : R < lo) (h2 : W.heap.size ≤ R) :
    FG ((w1.setCell ⟨R, 0, none⟩ sv).setCell ⟨R, 1, none⟩ dv) lo sv dv F ∧ Below W.heap.size W ((w1.setCell ⟨R, 0, none⟩ sv).setCell ⟨R, 1, none⟩ dv) ∧ Bx ((w1.setCell ⟨R, 0, none⟩ sv).setCell ⟨R, 1, none⟩ dv) R 26 #[sv, dv] :=
  ⟨(h.fg.other ⟨R, 0, none⟩ sv h1).other ⟨R, 1, none⟩ dv h1, (h.bel.setCell (p := ⟨R, 0, none⟩) h2 _).setCell (p := ⟨R, 1, none⟩) h2 _, (h.ans.set (j := 0) sv).set (j := 1) dv⟩
end
/-- A flash and a number. -/
def DrawnRead (W : World) (e : Ending) (w' : World) : Prop :=
  ∃ F sv dv x, DF F ∧ (-9223372036854775808 ≤ x ∧ x ≤ 9223372036854775807) ∧ e = .returned (.tuple #[.agg #[sv, dv], .int .i64 x]) ∧ FG w' W.heap.size sv dv F ∧ Below W.heap.size W w'
/-- A flash and fates. -/
def DrawnCrash (W : World) (e : Ending) (w' : World) : Prop :=
  ∃ F sv dv fs v, DF F ∧ fs.length ≤ 7 ∧ (∀ f ∈ fs, -9223372036854775808 ≤ f ∧ f ≤ 9223372036854775807) ∧ e = .returned (.tuple #[.agg #[sv, dv], v]) ∧ FG w' W.heap.size sv dv F ∧ Own w' W.heap.size v fs.length 1 (ints fs) ∧ Below W.heap.size W w'
/-- A flash, a number and a text. -/
def DrawnWrite (W : World) (e : Ending) (w' : World) : Prop :=
  ∃ F sv dv at_ x, DF F ∧ (0 ≤ at_ ∧ at_ ≤ 7) ∧ ByteArray.size x ≤ 97 ∧ e = .returned (.tuple #[.agg #[sv, dv], .int .i64 at_, .string x]) ∧ FG w' W.heap.size sv dv F ∧ Below W.heap.size W w'

set_option maxHeartbeats 2000000 in
set_option maxRecDepth 100000 in
theorem drawRead_any (a : Option Addr) (len cap : Nat) (w : World) (hB : Bytes w a len) (hl : len ≤ 1048576) :
    Calls Try.prog 9 #[.slice a len cap] w (DrawnRead w) := by
  have HB := Lib.hid hB
  clear hB
  have z0 := size_alloc1 w (.cells #[.slice none 0 0, .slice none 0 0] 26)
  have A0 := Lib.hid (bx_new w 26 #[.slice none 0 0, .slice none 0 0])
  have B0 := Lib.hid (below_alloc1 w (.cells #[.slice none 0 0, .slice none 0 0] 26))
  go_enter Try.func9, Try.ntmps9
  go_wp2_with fail
  generalize w.alloc (.cells #[.slice none 0 0, .slice none 0 0] 26) = W0 at *
  refine (source_any a len cap W0 (HB.out.below B0.out) hl).mono ?_
  rintro e w1 ⟨rfl, hs1, hb1⟩
  have g1 : W0.heap.size ≤ w1.heap.size := hb1.size
  rw [z0] at hs1
  have hlt1 := hs1.lt
  have A1 := Lib.hid (A0.out.next hb1)
  have R1 := Lib.hid ((HB.out.below B0.out).row hb1 (by omega : W0.heap.size ≤ w.heap.size + 1))
  have B1 := Lib.hid (B0.out.trans (hb1.mono (by omega)))
  have S1 := Lib.hid hs1
  clear hs1 hb1 A0 B0
  go_wp2_with fail
  refine (flash_any (w.heap.size + 1) a len cap w1 S1.out R1.out).mono ?_
  rintro e w2 ⟨F, sv, dv, hdf, rfl, hfg, hs2, hk2⟩
  obtain ⟨x1, n1, rfl, -⟩ := id hfg.1.2
  obtain ⟨x2, n2, rfl, -⟩ := id hfg.2.1.2
  have g2 : w1.heap.size ≤ w2.heap.size := hk2.size
  have R2 := Lib.hid (R1.out.kept hk2)
  have HD := Lib.hid hdf
  have ST : Hid (DSt (w.heap.size + 1) w.heap.size w2.heap.size w1.heap.size a len cap w F (.slice x1 F.sec.length n1) (.slice x2 F.dir.length n2) (w2.alloc (.cells #[.slice x1 F.sec.length n1, .slice x2 F.dir.length n2] 26))) :=
    Lib.hid ⟨(A1.out.kept hk2 (by omega)).next (below_alloc1 w2 _), bx_new w2 _ _, hfg.below (below_alloc1 w2 _) (Nat.le_refl _), hs2.below (below_alloc1 w2 _), (B1.out.trans (hk2.below (by omega) (by omega))).trans ((below_alloc1 w2 _).mono (by omega))⟩
  have R3 := Lib.hid (R2.out.kept (below_kept (below_alloc1 w2 (.cells #[.slice x1 F.sec.length n1, .slice x2 F.dir.length n2] 26))))
  clear hdf hfg hs2 hk2 A1 B1 S1 R1 R2
  go_wp2_with fail
  generalize w2.alloc (.cells #[.slice x1 F.sec.length n1, .slice x2 F.dir.length n2] 26) = W2 at *
  generalize w2.heap.size = m at *
  clear w2
  refine (one_any (w.heap.size + 1) a len cap 10 W2 ST.out.src R3.out (by omega) (by omega)).mono ?_
  rintro e w3 ⟨bb, rfl, hs3, hk3⟩
  have ST3 := Lib.hid (ST.out.keep hk3 hs3 (by omega) (by omega) (by omega) (by omega))
  have R4 := Lib.hid (R3.out.kept hk3)
  clear hs3 hk3 ST R3
  have k0 := ST3.out.box.c0
  have k1 := ST3.out.box.c1
  have k2 := ST3.out.ans.c0
  have k3 := ST3.out.ans.c1
  have k4 := ST3.out.ans.frozen 0
  have k5 := ST3.out.ans.frozen 1
  cases bb with
  | true =>
    go_wp2_with fail
    go_region_with ((go_at_call 39; refine (edge_any (w.heap.size + 1) a len cap _ ?_ ?_).mono ?_; exact ST3.out.drew.src; exact (R4.out.kept (Kept.refl _ w3).drew); rintro e w5 ⟨x5, hx5, rfl, hs5, hk5⟩; have ST5 := Lib.hid (ST3.out.drew.keep hk5 hs5 (by omega) (by omega) (by omega) (by omega)); have q0 := ST5.out.box.c0; have q1 := ST5.out.box.c1; have q2 := ST5.out.ans.c0; have q3 := ST5.out.ans.c1; have q4 := ST5.out.ans.frozen 0; have q5 := ST5.out.ans.frozen 1))
    all_goals (
      obtain ⟨hfg, hbel, hans⟩ := ST5.out.store (by omega : w.heap.size < w1.heap.size) (Nat.le_refl _)
      have FG5 := Lib.hid hfg
      have BL5 := Lib.hid hbel
      have y0 := hans.c0
      have y1 := hans.c1
      clear hfg hbel hans
      go_wp2_with fail
      refine bodyPost_ret (v := .tuple #[.agg #[.slice x1 F.sec.length n1, .slice x2 F.dir.length n2], .int .i64 x5]) (by simp [results, Try.results9, go_sem, y0, y1]) rfl ?_
      exact ⟨F, _, _, x5, HD.out, hx5, rfl, FG5.out.lower (by omega), BL5.out⟩)
  | false =>
    go_wp2_with fail
    go_region_with ((go_at_call 27; refine (n_any (w.heap.size + 1) a len cap 8 _ ?_ ?_ (by omega) (by omega)).mono ?_; exact ST3.out.drew.src; exact (R4.out.kept (Kept.refl _ w3).drew); rintro e w5 ⟨x5, ⟨hx5, hx6⟩, rfl, hs5, hk5⟩; have ST5 := Lib.hid (ST3.out.drew.keep hk5 hs5 (by omega) (by omega) (by omega) (by omega)); have q0 := ST5.out.box.c0; have q1 := ST5.out.box.c1; have q2 := ST5.out.ans.c0; have q3 := ST5.out.ans.c1; have q4 := ST5.out.ans.frozen 0; have q5 := ST5.out.ans.frozen 1))
    all_goals (
      obtain ⟨hfg, hbel, hans⟩ := ST5.out.store (by omega : w.heap.size < w1.heap.size) (Nat.le_refl _)
      have FG5 := Lib.hid hfg
      have BL5 := Lib.hid hbel
      have y0 := hans.c0
      have y1 := hans.c1
      clear hfg hbel hans
      go_wp2_with fail
      refine bodyPost_ret (v := .tuple #[.agg #[.slice x1 F.sec.length n1, .slice x2 F.dir.length n2], .int .i64 x5]) (by simp [results, Try.results9, go_sem, y0, y1]) rfl ?_
      exact ⟨F, _, _, x5, HD.out, by omega, rfl, FG5.out.lower (by omega), BL5.out⟩)

set_option maxHeartbeats 2000000 in
set_option maxRecDepth 100000 in
theorem drawCrash_any (a : Option Addr) (len cap : Nat) (w : World) (hB : Bytes w a len) (hl : len ≤ 1048576) :
    Calls Try.prog 6 #[.slice a len cap] w (DrawnCrash w) := by
  have HB := Lib.hid hB
  clear hB
  have z0 := size_alloc1 w (.cells #[.slice none 0 0, .slice none 0 0] 26)
  have A0 := Lib.hid (bx_new w 26 #[.slice none 0 0, .slice none 0 0])
  have B0 := Lib.hid (below_alloc1 w (.cells #[.slice none 0 0, .slice none 0 0] 26))
  go_enter Try.func6, Try.ntmps6
  go_wp2_with fail
  generalize w.alloc (.cells #[.slice none 0 0, .slice none 0 0] 26) = W0 at *
  refine (source_any a len cap W0 (HB.out.below B0.out) hl).mono ?_
  rintro e w1 ⟨rfl, hs1, hb1⟩
  have g1 : W0.heap.size ≤ w1.heap.size := hb1.size
  rw [z0] at hs1
  have hlt1 := hs1.lt
  have A1 := Lib.hid (A0.out.next hb1)
  have R1 := Lib.hid ((HB.out.below B0.out).row hb1 (by omega : W0.heap.size ≤ w.heap.size + 1))
  have B1 := Lib.hid (B0.out.trans (hb1.mono (by omega)))
  have S1 := Lib.hid hs1
  clear hs1 hb1 A0 B0
  go_wp2_with fail
  refine (flash_any (w.heap.size + 1) a len cap w1 S1.out R1.out).mono ?_
  rintro e w2 ⟨F, sv, dv, hdf, rfl, hfg, hs2, hk2⟩
  obtain ⟨x1, n1, rfl, -⟩ := id hfg.1.2
  obtain ⟨x2, n2, rfl, -⟩ := id hfg.2.1.2
  have g2 : w1.heap.size ≤ w2.heap.size := hk2.size
  have R2 := Lib.hid (R1.out.kept hk2)
  have HD := Lib.hid hdf
  have ST : Hid (DSt (w.heap.size + 1) w.heap.size w2.heap.size w1.heap.size a len cap w F (.slice x1 F.sec.length n1) (.slice x2 F.dir.length n2) (w2.alloc (.cells #[.slice x1 F.sec.length n1, .slice x2 F.dir.length n2] 26))) :=
    Lib.hid ⟨(A1.out.kept hk2 (by omega)).next (below_alloc1 w2 _), bx_new w2 _ _, hfg.below (below_alloc1 w2 _) (Nat.le_refl _), hs2.below (below_alloc1 w2 _), (B1.out.trans (hk2.below (by omega) (by omega))).trans ((below_alloc1 w2 _).mono (by omega))⟩
  have R3 := Lib.hid (R2.out.kept (below_kept (below_alloc1 w2 (.cells #[.slice x1 F.sec.length n1, .slice x2 F.dir.length n2] 26))))
  clear hdf hfg hs2 hk2 A1 B1 S1 R1 R2
  go_wp2_with fail
  generalize w2.alloc (.cells #[.slice x1 F.sec.length n1, .slice x2 F.dir.length n2] 26) = W2 at *
  generalize w2.heap.size = m at *
  clear w2
  have k0 := ST.out.box.c0
  have k1 := ST.out.box.c1
  have k2 := ST.out.ans.c0
  have k3 := ST.out.ans.c1
  have k4 := ST.out.ans.frozen 0
  have k5 := ST.out.ans.frozen 1
  have hW2 : w.heap.size + 1 < W2.heap.size := by have := ST.out.box.lt; omega
  have hdz : W2.drew.heap.size = W2.heap.size := rfl
  go_region_with ((go_at_call 34; refine (fates_any (w.heap.size + 1) a len cap _ ?_ ?_).mono ?_; exact ST.out.drew.src; exact (R3.out.kept (Kept.refl _ W2).drew); rintro e w5 ⟨fs, v5, hf1, hf2, rfl, hft⟩; have ST5 := Lib.hid (ST.out.drew.keep hft.kept hft.src (by omega) (by omega) (by omega) (by omega)); have q0 := ST5.out.box.c0; have q1 := ST5.out.box.c1; have q2 := ST5.out.ans.c0; have q3 := ST5.out.ans.c1; have q4 := ST5.out.ans.frozen 0; have q5 := ST5.out.ans.frozen 1; obtain ⟨x9, c9, rfl⟩ := hft.gr.form; have FT := Lib.hid hft))
  all_goals (
    obtain ⟨hfg, hbel, hans⟩ := ST5.out.store (by omega : w.heap.size < w1.heap.size) (Nat.le_refl _)
    have FG5 := Lib.hid hfg
    have BL5 := Lib.hid hbel
    have y0 := hans.c0
    have y1 := hans.c1
    clear hfg hbel hans
    go_wp2_with fail
    refine bodyPost_ret (v := .tuple #[.agg #[.slice x1 F.sec.length n1, .slice x2 F.dir.length n2], .slice x9 fs.length c9]) (by simp [results, Try.results6, go_sem, y0, y1]) rfl ?_
    refine ⟨F, _, _, fs, _, HD.out, hf1, hf2, rfl, FG5.out.lower (by omega), ?_, BL5.out⟩
    exact (((FT.out.gr.own.lower (by omega)).other ⟨w.heap.size, 0, none⟩ _ (fun k hk => by have := (FT.out.gr.own.blk k hk).1; show k ≠ w.heap.size; omega)).other ⟨w.heap.size, 1, none⟩ _ (fun k hk => by have := (FT.out.gr.own.blk k hk).1; show k ≠ w.heap.size; omega)))
end Go.Proofs.Ytkeimgglikdbfaa
