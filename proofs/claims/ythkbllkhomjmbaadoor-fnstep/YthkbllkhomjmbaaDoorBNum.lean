/- The model's reader of numbers and texts. -/
import Derived.Test.YthkbllkhomjmbaaDoorBRdM
import Derived.Deep.RegionWith
namespace Go.Proofs.YthkbllkhomjmbaaDoor
open Go.RowKit

theorem grown_of_below {w w' : World} {r : Option Nat} (h : Below w.heap.size w w') : w.grownBy w' r := ⟨h.os, h.tape, h.output, h.size, fun k hk _ => h.block k hk⟩
theorem grown_set1 {w w1 : World} {b i : Nat} {x : Value} (h : w.grownBy w1 (some b)) : w.grownBy (w1.setCell ⟨b, i, none⟩ x) (some b) :=
  h.andThen (c := w1.setCell ⟨b, i, none⟩ x) (row' := some b) ⟨rfl, rfl, rfl, by simp, fun k _ hk => Below.heap_setCell w1 ⟨b, i, none⟩ x k (fun e => hk (by rw [e]))⟩ (fun _ e => .inr e)
theorem oth3 {w : World} {p b : Nat} {T : TypeId} {vs : Array Value} (h : Bx w p T vs) (hne : p ≠ b) (x y z : Value) : Bx (((w.setCell ⟨b, 0, none⟩ x).setCell ⟨b, 1, none⟩ y).setCell ⟨b, 2, none⟩ z) p T vs :=
  ((h.other ⟨b, 0, none⟩ x hne).other ⟨b, 1, none⟩ y hne).other ⟨b, 2, none⟩ z hne
def rdrV (s : ByteArray) (x : Int) (bad : Bool) : Array Value := #[.string s, .int .i64 x, .bool bad]


set_option maxRecDepth 100000 in
set_option maxHeartbeats 2000000 in
theorem num_any (s : ByteArray) (x : Int) (bad : Bool) (p : Nat) (w : World) (hs : s.size ≤ maxLen) (hx : x ≤ 9223372036854775807) (hB : Bx w p 104 #[.string s, .int .i64 x, .bool bad]) :
    Calls Tryd.prog 83 #[.pointer (some ⟨p, 0, none⟩)] w fun e w' => e = .returned (.int .i64 (numS s x bad).1) ∧ Bx w' p 104 #[.string s, .int .i64 (numS s x bad).2.1, .bool (numS s x bad).2.2] ∧ w.grownBy w' (some p) := by
  have HG := Lib.hid (fun w => specGet_any s x w hs hx)
  obtain ⟨n, hn⟩ : ∃ n, n = (getR s x).1 := ⟨_, rfl⟩
  obtain ⟨q, hq⟩ : ∃ q, q = (getR s x).2.1 := ⟨_, rfl⟩
  obtain ⟨c, hc⟩ : ∃ c, c = (getR s x).2.2 := ⟨_, rfl⟩
  unfold numV at HG
  rw [← hn, ← hq, ← hc] at HG
  obtain ⟨R, hR⟩ : ∃ R, R = numS s x bad := ⟨_, rfl⟩
  rw [← hR]
  unfold numS at hR
  rw [← hn, ← hq, ← hc] at hR
  have HR := Lib.hid hR
  have hlt := hB.lt
  have k0 := hB.t0
  have k1 := hB.t1
  have k2 := hB.t2
  have HX := Lib.hid hB
  have hpn : p ≠ w.heap.size := by omega
  clear hR hn hq hc hB
  go_enter Tryd.func83, Tryd.ntmps83
  go_wp2_with fail
  have y0 := bx_new w 26 #[.int .i64 0, .int .i64 0, .int .i64 0]
  have bz := below_alloc1 w (.cells #[.int .i64 0, .int .i64 0, .int .i64 0] 26)
  have Y0 := Lib.hid y0
  have BZ := Lib.hid bz
  have hz : w.heap.size ≤ (w.alloc (.cells #[.int .i64 0, .int .i64 0, .int .i64 0] 26)).heap.size := BZ.out.size
  clear y0 bz
  go_region_held3 (fun w' => w'.cell? ⟨p, 0, none⟩ = some (.string s) ∧ w'.cell? ⟨p, 1, none⟩ = some (.int .i64 x))
    (first | (exact ⟨k0, k1⟩) | (exact ⟨(HX.out.next BZ.out.drew).t0, (HX.out.next BZ.out.drew).t1⟩) | (exact ⟨(HX.out.next HB1.out).t0, (HX.out.next HB1.out).t1⟩) | (exact ⟨((HX.out.next HB1.out).next (below_alloc1 w1 _)).t0, ((HX.out.next HB1.out).next (below_alloc1 w1 _)).t1⟩) | (exact ⟨(oth3 (HX.out.next HB1.out) hpn _ _ _).t0, (oth3 (HX.out.next HB1.out) hpn _ _ _).t1⟩) | go_keep)
    ((first | (go_at_call 87; refine (HG.out w.drew).mono ?_; rintro e w1 ⟨rfl, hb1⟩; have HB1 := Lib.hid ((Below.refl w.heap.size w).drew.trans hb1); clear hb1) | (go_at_call 87; refine (HG.out (w.alloc (.cells #[.int .i64 0, .int .i64 0, .int .i64 0] 26)).drew).mono ?_; rintro e w1 ⟨rfl, hb1⟩; have hb2 := (Below.refl _ (w.alloc (.cells #[.int .i64 0, .int .i64 0, .int .i64 0] 26))).drew.trans hb1; have HB1 := Lib.hid (BZ.out.trans (hb2.mono hz)); have y1 := Y0.out.next hb2; have q0 := y1.t0; have q1 := y1.t1; have q2 := y1.t2; have g0 := y1.frozen 0; have g1 := y1.frozen 1; have g2 := y1.frozen 2; have Y1 := Lib.hid y1; clear y1 hb1 hb2)))
  all_goals (
    first
      | (have y2 := oth3 (HX.out.next HB1.out) hpn (.int .i64 n) (.int .i64 q) (.int .i64 c)
         have hb2 := ((HB1.out.setCell (p := ⟨w.heap.size, 0, none⟩) (Nat.le_refl _) (.int .i64 n)).setCell (p := ⟨w.heap.size, 1, none⟩) (Nat.le_refl _) (.int .i64 q)).setCell (p := ⟨w.heap.size, 2, none⟩) (Nat.le_refl _) (.int .i64 c)
         have y3 : Bx _ w.heap.size 26 #[.int .i64 n, .int .i64 q, .int .i64 c] := ((Y1.out.set (j := 0) (.int .i64 n)).set (j := 1) (.int .i64 q)).set (j := 2) (.int .i64 c)
         have HX2 := Lib.hid y2
         have HB2 := Lib.hid hb2
         have m0 := y3.t0
         have m1 := y3.t1
         have m2 := y3.t2
         clear y2 hb2 y3 Y1)
      | (have b1 := below_alloc1 w1 (.cells #[.int .i64 n, .int .i64 q, .int .i64 c] 26)
         have y1 := bx_new w1 26 #[.int .i64 n, .int .i64 q, .int .i64 c]
         have HB2 := Lib.hid (HB1.out.trans (b1.mono HB1.out.size))
         have HX2 := Lib.hid (HX.out.next HB2.out)
         have m0 := y1.t0
         have m1 := y1.t1
         have m2 := y1.t2
         clear b1 y1)
    have k0 := HX2.out.t0
    have k1 := HX2.out.t1
    have k2 := HX2.out.t2
    have f1 := HX2.out.frozen 1
    have f2 := HX2.out.frozen 2
    clear HB1 Y0 BZ hz
    cases bad with
    | true =>
      have hr : R = (0, x, true) := by rw [HR.out, if_neg (by simp)]
      subst hr
      clear HR
      go_wp2_with fail
      go_ret
      exact ⟨rfl, HX2.out.set _, grown_set1 (grown_of_below HB2.out)⟩
    | false =>
      by_cases hc : c = 0
      · have hr : R = (n, q, false) := by rw [HR.out, if_pos ⟨rfl, hc⟩]
        subst hr
        subst hc
        clear HR
        go_wp2_with fail
        go_ret
        exact ⟨rfl, HX2.out.set _, grown_set1 (grown_of_below HB2.out)⟩
      · have hr : R = (0, x, true) := by rw [HR.out, if_neg (fun h => hc h.2)]
        have dc : (c != 0) = true := by simpa using hc
        subst hr
        clear HR hc
        go_wp2_with fail
        go_ret
        exact ⟨rfl, HX2.out.set _, grown_set1 (grown_of_below HB2.out)⟩)

set_option maxRecDepth 100000 in
set_option maxHeartbeats 2000000 in
theorem txt_any (s : ByteArray) (x : Int) (bad : Bool) (p : Nat) (w : World) (hs : s.size ≤ maxLen) (hx : x ≤ 9223372036854775807) (hB : Bx w p 104 #[.string s, .int .i64 x, .bool bad]) :
    Calls Tryd.prog 84 #[.pointer (some ⟨p, 0, none⟩)] w fun e w' => e = .returned (.string (txtS s x bad).1) ∧ Bx w' p 104 #[.string s, .int .i64 (txtS s x bad).2.1, .bool (txtS s x bad).2.2] ∧ w.grownBy w' (some p) := by
  have HG := Lib.hid (fun w => specTextR s x w hs hx)
  obtain ⟨n, hn⟩ : ∃ n, n = (textR s x).1 := ⟨_, rfl⟩
  obtain ⟨q, hq⟩ : ∃ q, q = (textR s x).2.1 := ⟨_, rfl⟩
  obtain ⟨c, hc⟩ : ∃ c, c = (textR s x).2.2 := ⟨_, rfl⟩
  unfold textV at HG
  rw [← hn, ← hq, ← hc] at HG
  obtain ⟨R, hR⟩ : ∃ R, R = txtS s x bad := ⟨_, rfl⟩
  rw [← hR]
  unfold txtS at hR
  rw [← hn, ← hq, ← hc] at hR
  have HR := Lib.hid hR
  have hlt := hB.lt
  have k0 := hB.t0
  have k1 := hB.t1
  have k2 := hB.t2
  have HX := Lib.hid hB
  have hpn : p ≠ w.heap.size := by omega
  clear hR hn hq hc hB
  go_enter Tryd.func84, Tryd.ntmps84
  go_wp2_with fail
  have y0 := bx_new w 31 #[.string { data := #[] }, .int .i64 0, .int .i64 0]
  have bz := below_alloc1 w (.cells #[.string { data := #[] }, .int .i64 0, .int .i64 0] 31)
  have Y0 := Lib.hid y0
  have BZ := Lib.hid bz
  have hz : w.heap.size ≤ (w.alloc (.cells #[.string { data := #[] }, .int .i64 0, .int .i64 0] 31)).heap.size := BZ.out.size
  clear y0 bz
  go_region_held3 (fun w' => w'.cell? ⟨p, 0, none⟩ = some (.string s) ∧ w'.cell? ⟨p, 1, none⟩ = some (.int .i64 x))
    (first | (exact ⟨k0, k1⟩) | (exact ⟨(HX.out.next BZ.out.drew).t0, (HX.out.next BZ.out.drew).t1⟩) | (exact ⟨(HX.out.next HB1.out).t0, (HX.out.next HB1.out).t1⟩) | (exact ⟨((HX.out.next HB1.out).next (below_alloc1 w1 _)).t0, ((HX.out.next HB1.out).next (below_alloc1 w1 _)).t1⟩) | (exact ⟨(oth3 (HX.out.next HB1.out) hpn _ _ _).t0, (oth3 (HX.out.next HB1.out) hpn _ _ _).t1⟩) | go_keep)
    ((first | (go_at_call 88; refine (HG.out w.drew).mono ?_; rintro e w1 ⟨rfl, hb1⟩; have HB1 := Lib.hid ((Below.refl w.heap.size w).drew.trans hb1); clear hb1) | (go_at_call 88; refine (HG.out (w.alloc (.cells #[.string { data := #[] }, .int .i64 0, .int .i64 0] 31)).drew).mono ?_; rintro e w1 ⟨rfl, hb1⟩; have hb2 := (Below.refl _ (w.alloc (.cells #[.string { data := #[] }, .int .i64 0, .int .i64 0] 31))).drew.trans hb1; have HB1 := Lib.hid (BZ.out.trans (hb2.mono hz)); have y1 := Y0.out.next hb2; have q0 := y1.t0; have q1 := y1.t1; have q2 := y1.t2; have g0 := y1.frozen 0; have g1 := y1.frozen 1; have g2 := y1.frozen 2; have Y1 := Lib.hid y1; clear y1 hb1 hb2)))
  all_goals (
    first
      | (have y2 := oth3 (HX.out.next HB1.out) hpn (.string n) (.int .i64 q) (.int .i64 c)
         have hb2 := ((HB1.out.setCell (p := ⟨w.heap.size, 0, none⟩) (Nat.le_refl _) (.string n)).setCell (p := ⟨w.heap.size, 1, none⟩) (Nat.le_refl _) (.int .i64 q)).setCell (p := ⟨w.heap.size, 2, none⟩) (Nat.le_refl _) (.int .i64 c)
         have y3 : Bx _ w.heap.size 31 #[.string n, .int .i64 q, .int .i64 c] := ((Y1.out.set (j := 0) (.string n)).set (j := 1) (.int .i64 q)).set (j := 2) (.int .i64 c)
         have HX2 := Lib.hid y2
         have HB2 := Lib.hid hb2
         have m0 := y3.t0
         have m1 := y3.t1
         have m2 := y3.t2
         clear y2 hb2 y3 Y1)
      | (have b1 := below_alloc1 w1 (.cells #[.string n, .int .i64 q, .int .i64 c] 31)
         have y1 := bx_new w1 31 #[.string n, .int .i64 q, .int .i64 c]
         have HB2 := Lib.hid (HB1.out.trans (b1.mono HB1.out.size))
         have HX2 := Lib.hid (HX.out.next HB2.out)
         have m0 := y1.t0
         have m1 := y1.t1
         have m2 := y1.t2
         clear b1 y1)
    have k0 := HX2.out.t0
    have k1 := HX2.out.t1
    have k2 := HX2.out.t2
    have f1 := HX2.out.frozen 1
    have f2 := HX2.out.frozen 2
    clear HB1 Y0 BZ hz
    cases bad with
    | true =>
      have hr : R = (⟨#[]⟩, x, true) := by rw [HR.out, if_neg (by simp)]
      subst hr
      clear HR
      go_wp2_with fail
      go_ret
      exact ⟨rfl, HX2.out.set _, grown_set1 (grown_of_below HB2.out)⟩
    | false =>
      by_cases hc : c = 0
      · have hr : R = (n, q, false) := by rw [HR.out, if_pos ⟨rfl, hc⟩]
        subst hr
        subst hc
        clear HR
        go_wp2_with fail
        go_ret
        exact ⟨rfl, HX2.out.set _, grown_set1 (grown_of_below HB2.out)⟩
      · have hr : R = (⟨#[]⟩, x, true) := by rw [HR.out, if_neg (fun h => hc h.2)]
        have dc : (c != 0) = true := by simpa using hc
        subst hr
        clear HR hc
        go_wp2_with fail
        go_ret
        exact ⟨rfl, HX2.out.set _, grown_set1 (grown_of_below HB2.out)⟩)
end Go.Proofs.YthkbllkhomjmbaaDoor
