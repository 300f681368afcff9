/- The program's Unseal. -/
import Derived.Test.YthkbllkhomjmbaaDoorKUns
namespace Go.Proofs.YthkbllkhomjmbaaDoor
open Go.RowKit

theorem three_setU {w w' : World} {g : Nat} (h : Below g w w') (a b c : Value) : Below g w (((w'.setCell ⟨g, 0, none⟩ a).setCell ⟨g, 1, none⟩ b).setCell ⟨g, 2, none⟩ c) :=
  ((h.setCell (p := ⟨g, 0, none⟩) (Nat.le_refl _) a).setCell (p := ⟨g, 1, none⟩) (Nat.le_refl _) b).setCell (p := ⟨g, 2, none⟩) (Nat.le_refl _) c
theorem Bx.u3 {w : World} {n : Nat} {T : TypeId} {a b c : Value} (h : Bx w n T #[a, b, c]) : (w.cell? ⟨n, 0, none⟩ = some a ∧ w.cell? ⟨n, 1, none⟩ = some b ∧ w.cell? ⟨n, 2, none⟩ = some c) ∧ (w.frozen? ⟨n, 0, none⟩ = false ∧ w.frozen? ⟨n, 1, none⟩ = false ∧ w.frozen? ⟨n, 2, none⟩ = false) :=
  ⟨⟨h.cell 0, h.cell 1, h.cell 2⟩, h.frozen 0, h.frozen 1, h.frozen 2⟩
theorem below_u {W a b : World} {g : Nat} (h : Below g W a) (k : Below a.heap.size a b) (hg : g ≤ a.heap.size) : Below g W b := h.trans (k.mono hg)

set_option maxHeartbeats 2000000 in
theorem implUnsealT (s : ByteArray) (m : List Nat) (a : Nat → Addr) (w : World) (hs : s.size ≤ maxLen) (hE : Sent w (sealG ++ m) a) :
    Calls Tryd.prog 23 #[.string s] w fun e w' => e = .returned (.agg #[.string (unsealT s).1, .int .i64 0, .int .i64 (unsealT s).2]) ∧ Below w.heap.size w w' := by
  have HE := Lib.hid hE
  clear hE
  have hcodes := unsealT_codes s
  have HU := Lib.hid (fun w hE => unsealed_any s m a w hs hE)
  have Y0 := Lib.hid (bx_new w 31 #[.string { data := #[] }, .int .i64 0, .int .i64 0])
  have B0 := Lib.hid (below_alloc1 w (.cells #[.string { data := #[] }, .int .i64 0, .int .i64 0] 31))
  obtain ⟨U, hU⟩ : ∃ U, U = unsealT s := ⟨_, rfl⟩
  rw [← hU] at hcodes HU ⊢
  clear hU
  obtain ⟨t, c⟩ := U
  unfold unsV at HU
  dsimp only at hcodes HU ⊢
  go_enter Tryd.func23, Tryd.ntmps23
  go_wp2_with fail
  generalize w.alloc (.cells #[.string { data := #[] }, .int .i64 0, .int .i64 0] 31) = W0 at *
  refine (HU.out W0 (HE.out.next B0.out)).mono ?_
  clear HU
  by_cases hc : c = 0
  · subst hc
    rw [if_pos rfl]
    rintro e w1 ⟨rfl, hb⟩
    have Y1 := Lib.hid (Y0.out.next hb)
    have B1 := Lib.hid (below_u B0.out hb B0.out.size)
    clear hb Y0 B0 hcodes
    obtain ⟨⟨y0, y1, y2⟩, f0, f1, f2⟩ := Y1.out.u3
    go_wp2_with fail
    refine bodyPost_ret (v := .agg #[.string t, .int .i64 0, .int .i64 0]) (by simp [results, Tryd.results23, go_sem, y0, y1, y2]) rfl ⟨rfl, ?_⟩
    exact three_setU B1.out _ _ _
  · rw [if_neg hc]
    obtain ⟨hcc, rfl⟩ := hcodes.resolve_left hc
    rintro e w1 ⟨rfl, hb⟩
    have Y1 := Lib.hid (Y0.out.next hb)
    have B1 := Lib.hid (below_u B0.out hb B0.out.size)
    have E1 := Lib.hid (HE.out.next B1.out)
    have SC := Lib.hid (fun w' hE' => sealedCode_P c hcc m a w' hE')
    clear hb Y0 B0 hcc hcodes
    unfold eP at SC ⊢
    go_wp2_with fail
    refine (SC.out _ E1.out).mono ?_
    rintro e w2 ⟨rfl, hb⟩
    have Y2 := Lib.hid (Y1.out.next hb)
    have B2 := Lib.hid (below_u B1.out hb B1.out.size)
    clear hb SC Y1 B1
    obtain ⟨⟨y0, y1, y2⟩, f0, f1, f2⟩ := Y2.out.u3
    go_wp2_with fail
    refine bodyPost_ret (v := .agg #[.string ⟨#[]⟩, .int .i64 0, .int .i64 c]) (by simp [results, Tryd.results23, go_sem, y0, y1, y2]) rfl ⟨rfl, ?_⟩
    exact three_setU B2.out _ _ _
end Go.Proofs.YthkbllkhomjmbaaDoor
