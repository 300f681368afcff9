/- The drawing functions of the verifier's package: whatever the bytes, a draw is a number within its bounds, and of what was there nothing but the source's own block turns. -/
import Derived.Test.YtcckpkcjekcajaaDoorBase
import Derived.BigRegion
import Derived.Deep.QuietTactic
import Derived.BigQuiet
import Derived.Deep.DeepCutAuto
import Derived.Maps.Range
namespace Go.Proofs.YtcckpkcjekcajaaDoor
open Go.RowKit

/-- Of what was there nothing but block b has turned. -/
def Kept (b : Nat) (w w' : World) : Prop := w.grownBy w' (some b)
theorem Kept.refl (b : Nat) (w : World) : Kept b w w := World.grownBy.refl w _
theorem Kept.trans {b : Nat} {w w1 w2 : World} (h : Kept b w w1) (k : Kept b w1 w2) : Kept b w w2 := h.andThen k (fun _ e => .inr e)
theorem Kept.drew {b : Nat} {w w1 : World} (h : Kept b w w1) : Kept b w w1.drew := ⟨h.os, h.tape, h.output, h.size, h.block⟩
theorem Kept.drewN {b : Nat} {w w1 : World} (h : Kept b w w1) (n : Nat) : Kept b w (w1.drewN n) := ⟨h.os, h.tape, h.output, h.size, h.block⟩
theorem Kept.alloc {b : Nat} {w w1 : World} (h : Kept b w w1) (o : Obj) : Kept b w (w1.alloc o) := h.trans (World.grownBy_alloc w1 o _)
theorem Kept.setCell {b : Nat} {w w1 : World} (h : Kept b w w1) (i : Nat) (v : Value) : Kept b w (w1.setCell ⟨b, i, none⟩ v) :=
  h.trans ⟨rfl, rfl, rfl, by simp, fun k _ hk => Below.heap_setCell w1 ⟨b, i, none⟩ v k (fun e => hk (by rw [e]))⟩
theorem Kept.grown {b : Nat} {w w1 w2 : World} {row : Option Nat} (h : Kept b w w1) (k : w1.grownBy w2 row) (hr : ∀ j, row = some j → w.heap.size ≤ j) : Kept b w w2 := h.andThen k (fun j e => .inl (hr j e))
theorem Kept.cell {b : Nat} {w w' : World} (h : Kept b w w') {p : Addr} (hl : p.block < w.heap.size) (hp : p.block ≠ b) : w'.cell? p = w.cell? p := World.cell?_of_block (w := w) (h.block p.block hl (fun e => hp (Option.some.inj e)))
theorem Kept.below {b B : Nat} {w w' : World} (h : Kept b w w') (hB : B ≤ b) (hw : B ≤ w.heap.size) : Below B w w' :=
  ⟨h.os, h.tape, h.output, h.size, fun k hk => h.block k (by omega) (fun e => by have := Option.some.inj e; omega)⟩

/-- A slice of bytes that came in can be read. -/
def Bytes (w : World) (a : Option Addr) (len : Nat) : Prop :=
  0 < len → ∃ x, a = some x ∧ x.spot = none ∧ x.block < w.heap.size ∧ ∀ i, i < len → ∃ z : Nat, z < 256 ∧ w.cell? ⟨x.block, x.off + i, none⟩ = some (.int .u8 (z : Int))
theorem Bytes.below {w w' : World} {a : Option Addr} {len : Nat} (h : Bytes w a len) (k : Below w.heap.size w w') : Bytes w' a len := fun h0 => by
  obtain ⟨x, e, hs, hl, hc⟩ := h h0
  exact ⟨x, e, hs, Nat.lt_of_lt_of_le hl k.size, fun i hi => by
    obtain ⟨z, hz, hz'⟩ := hc i hi
    exact ⟨z, hz, by rw [k.cell (p := ⟨x.block, x.off + i, none⟩) hl]; exact hz'⟩⟩
/-- The same, the bytes lying in another block than b. -/
def Row (w : World) (a : Option Addr) (len : Nat) (b : Nat) : Prop :=
  0 < len → ∃ x, a = some x ∧ x.spot = none ∧ x.block ≠ b ∧ x.block < w.heap.size ∧ ∀ i, i < len → ∃ z : Nat, z < 256 ∧ w.cell? ⟨x.block, x.off + i, none⟩ = some (.int .u8 (z : Int))
theorem Row.kept {w w' : World} {a : Option Addr} {len b : Nat} (h : Row w a len b) (k : Kept b w w') : Row w' a len b := fun h0 => by
  obtain ⟨x, e, hs, hb, hl, hc⟩ := h h0
  exact ⟨x, e, hs, hb, Nat.lt_of_lt_of_le hl k.size, fun i hi => by
    obtain ⟨z, hz, hz'⟩ := hc i hi
    exact ⟨z, hz, by rw [k.cell (p := ⟨x.block, x.off + i, none⟩) hl hb]; exact hz'⟩⟩

/-- The source in block b, over the slice a, len, cap. -/
def Src (w : World) (b : Nat) (a : Option Addr) (len cap : Nat) : Prop :=
  ∃ (k : Nat) (mix size : Int), k ≤ len ∧ w.heap[b]? = some (.cells #[.slice a len cap, .int .i64 k, .int .u64 mix, .int .i64 size] 89 (0, 0)) ∧ len ≤ 1048576
theorem lt_of_some {w : World} {b : Nat} {o : Obj} (h : w.heap[b]? = some o) : b < w.heap.size := (Array.getElem?_eq_some_iff.1 h).1
theorem Src.lt {w : World} {b : Nat} {a : Option Addr} {len cap : Nat} (h : Src w b a len cap) : b < w.heap.size := by
  obtain ⟨_, _, _, _, hb, _⟩ := h; exact lt_of_some hb
theorem Src.grown {w w' : World} {b : Nat} {a : Option Addr} {len cap : Nat} {row : Option Nat} (h : Src w b a len cap) (g : w.grownBy w' row) (hr : row ≠ some b) : Src w' b a len cap := by
  obtain ⟨k, m, s, h1, h2, h3⟩ := h
  exact ⟨k, m, s, h1, by rw [g.block b (lt_of_some h2) (fun e => hr e.symm)]; exact h2, h3⟩
theorem Src.cells {w : World} {b : Nat} {V c1 c2 c3 : Value} (h : w.heap[b]? = some (.cells #[V, c1, c2, c3] 89 (0, 0))) :
    (w.cell? ⟨b, 0, none⟩ = some V ∧ w.cell? ⟨b, 1, none⟩ = some c1 ∧ w.cell? ⟨b, 2, none⟩ = some c2 ∧ w.cell? ⟨b, 3, none⟩ = some c3) ∧
    (w.frozen? ⟨b, 0, none⟩ = false ∧ w.frozen? ⟨b, 1, none⟩ = false ∧ w.frozen? ⟨b, 2, none⟩ = false ∧ w.frozen? ⟨b, 3, none⟩ = false) := by
  refine ⟨⟨?_, ?_, ?_, ?_⟩, ?_, ?_, ?_, ?_⟩
  all_goals first | (rw [cell_of_row w b _ _ _ _ h]; rfl) | exact frozen_of_row w b _ _ _ h

/-- What a draw gives: a number of which P holds; the source goes on; nothing else turns. -/
def Drawn (b : Nat) (a : Option Addr) (len cap : Nat) (P : Int → Prop) (w : World) (e : Ending) (w' : World) : Prop :=
  ∃ v : Int, P v ∧ e = .returned (.int .i64 v) ∧ Src w' b a len cap ∧ Kept b w w'

/-- The source's block as it stands in w, nothing else having turned since w0. -/
def SrcIn (b : Nat) (V : Value) (k : Nat) (size : Int) (w0 w : World) : Prop :=
  ∃ mix : Int, w.heap[b]? = some (.cells #[V, .int .i64 k, .int .u64 mix, .int .i64 size] 89 (0, 0)) ∧ Kept b w0 w
theorem set_one {b : Nat} {w : World} {V c1 c2 c3 : Value} (h : w.heap[b]? = some (.cells #[V, c1, c2, c3] 89 (0, 0))) (v : Value) : (w.setCell ⟨b, 1, none⟩ v).heap[b]? = some (.cells #[V, v, c2, c3] 89 (0, 0)) :=
  heap_setCell_same w b 1 _ _ v h
theorem set_two {b : Nat} {w : World} {V c1 c2 c3 : Value} (h : w.heap[b]? = some (.cells #[V, c1, c2, c3] 89 (0, 0))) (v : Value) : (w.setCell ⟨b, 2, none⟩ v).heap[b]? = some (.cells #[V, c1, v, c3] 89 (0, 0)) :=
  heap_setCell_same w b 2 _ _ v h
theorem set_three {b : Nat} {w : World} {V c1 c2 c3 : Value} (h : w.heap[b]? = some (.cells #[V, c1, c2, c3] 89 (0, 0))) (v : Value) : (w.setCell ⟨b, 3, none⟩ v).heap[b]? = some (.cells #[V, c1, c2, v] 89 (0, 0)) :=
  heap_setCell_same w b 3 _ _ v h
theorem drawn_mod (x most : Int) (h1 : 1 < most) (h2 : most ≤ 9223372036854775807) : 0 ≤ wrap64 ((IntKind.u64.wrap x).tmod most) ∧ wrap64 ((IntKind.u64.wrap x).tmod most) < most := by
  have h0 : 0 ≤ IntKind.u64.wrap x := by rw [IntKind.wrap_u64]; omega
  rw [Int.tmod_eq_emod_of_nonneg h0]
  have a := Int.emod_nonneg (IntKind.u64.wrap x) (show most ≠ 0 by omega)
  have b := Int.emod_lt_of_pos (IntKind.u64.wrap x) (show 0 < most by omega)
  rw [IntWalk.wrap64_in _ (by omega)]
  exact ⟨a, b⟩

set_option maxHeartbeats 1000000 in
set_option maxRecDepth 100000 in
theorem n_any (b : Nat) (a : Option Addr) (len cap : Nat) (most : Int) (w : World) (hS : Src w b a len cap) (hR : Row w a len b) (h1 : 1 < most) (h2 : most ≤ 9223372036854775807) :
    Calls Tryd.prog 39 #[.pointer (some ⟨b, 0, none⟩), .int .i64 most] w (Drawn b a len cap (fun v => 0 ≤ v ∧ v < most) w) := by
  obtain ⟨k, mix, size, hk, hb, hl⟩ := hS
  obtain ⟨⟨c0, c1, c2, c3⟩, f0, f1, f2, f3⟩ := Src.cells hb
  have HB := Lib.hid hb
  have HR := Lib.hid hR
  clear hb hR
  go_enter Tryd.func39, Tryd.ntmps39
  go_wp2_with fail
  go_quiet (fail)
  go_upto_if 17 with fail
  go_cut [5] (fun s5 wx => ∃ z j : Nat, z < 256 ∧ j ≤ len ∧ s5 = .int .u64 (z : Int) ∧ SrcIn b (.slice a len cap) j size w wx)
  case first =>
    by_cases hkl : k < len
    · obtain ⟨x, rfl, hs, hxb, hxl, hc⟩ := HR.out (by omega)
      obtain ⟨xb, xo, xs⟩ := x
      simp only at hs hxb hxl hc
      subst hs
      obtain ⟨z, hz, hcz⟩ := hc k hkl
      clear hc
      have d0 : (k : Int) < (len : Int) := by omega
      have d1 : (0 : Int) ≤ (k : Int) := by omega
      go_wp2_with fail
      go_quiet (fail)
      go_wp2_with fail
      go_meet
      case rel => exact ⟨z, k + 1, hz, by omega, rfl, mix, by rw [show ((k + 1 : Nat) : Int) = (k : Int) + 1 by omega]; exact set_one (w := w.drewN _) HB.out _, Kept.setCell (w1 := w.drewN _) ((Kept.refl b w).drewN _) 1 _⟩
    · have d0 : decide ((k : Int) < (len : Int)) = false := by simp; omega
      go_wp2_with fail
      go_meet
      case rel => exact ⟨0, k, by omega, hk, rfl, mix, HB.out, (Kept.refl b w).drewN _⟩
  case rest =>
    obtain ⟨z, j, hz, hj, rfl, mix1, hb1, ho1⟩ := hcut
    clear c0 c1 c2 c3 f0 f1 f2 f3 HB HR
    obtain ⟨⟨c0, c1, c2, c3⟩, f0, f1, f2, f3⟩ := Src.cells hb1
    have HB1 := Lib.hid hb1
    have HO1 := Lib.hid ho1
    clear hb1 ho1
    go_upto_region 7 with fail
    go_cut [] (fun wx => SrcIn b (.slice a len cap) j size w wx)
    case first =>
      go_region
      go_wp2_with fail
      go_meet
      case rel => exact ⟨_, set_two HB1.out _, (HO1.out.setCell 2 _).drew⟩
    case rest =>
      clear c0 c1 c2 c3 f0 f1 f2 f3 HB1 HO1
      obtain ⟨mix1, hb1, ho1⟩ := hcut
      obtain ⟨⟨c0, c1, c2, c3⟩, f0, f1, f2, f3⟩ := Src.cells hb1
      have HB1 := Lib.hid hb1
      have HO1 := Lib.hid ho1
      clear hb1 ho1
      go_upto_region 8 with fail
      go_cut [] (fun wx => SrcIn b (.slice a len cap) j size w wx)
      case first =>
        go_region
        go_wp2_with fail
        go_meet
        case rel => exact ⟨_, set_two HB1.out _, (HO1.out.setCell 2 _).drew⟩
      case rest =>
        clear c0 c1 c2 c3 f0 f1 f2 f3 HB1 HO1
        obtain ⟨mix1, hb1, ho1⟩ := hcut
        obtain ⟨⟨c0, c1, c2, c3⟩, f0, f1, f2, f3⟩ := Src.cells hb1
        have HB1 := Lib.hid hb1
        have HO1 := Lib.hid ho1
        clear hb1 ho1
        go_upto_region 9 with fail
        go_cut [] (fun wx => SrcIn b (.slice a len cap) j size w wx)
        case first =>
          go_region
          go_wp2_with fail
          go_meet
          case rel => exact ⟨_, set_two HB1.out _, (HO1.out.setCell 2 _).drew⟩
        case rest =>
          clear c0 c1 c2 c3 f0 f1 f2 f3 HB1 HO1
          obtain ⟨mix1, hb1, ho1⟩ := hcut
          obtain ⟨⟨c0, c1, c2, c3⟩, f0, f1, f2, f3⟩ := Src.cells hb1
          have HB1 := Lib.hid hb1
          have HO1 := Lib.hid ho1
          clear hb1 ho1
          go_wp2_with fail
          go_ret
          exact ⟨_, drawn_mod _ _ h1 h2, rfl, ⟨j, _, _, hj, HB1.out, hl⟩, HO1.out⟩

/-- The same of a draw that says yes or no. -/
def DrawnB (b : Nat) (a : Option Addr) (len cap : Nat) (w : World) (e : Ending) (w' : World) : Prop :=
  ∃ v : Bool, e = .returned (.bool v) ∧ Src w' b a len cap ∧ Kept b w w'

set_option maxHeartbeats 400000 in
theorem one_any (b : Nat) (a : Option Addr) (len cap : Nat) (most : Int) (w : World) (hS : Src w b a len cap) (hR : Row w a len b) (h1 : 1 < most) (h2 : most ≤ 9223372036854775807) :
    Calls Tryd.prog 37 #[.pointer (some ⟨b, 0, none⟩), .int .i64 most] w (DrawnB b a len cap w) := by
  have HC := Lib.hid (n_any b a len cap most w hS hR h1 h2)
  clear hS hR
  go_enter Tryd.func37, Tryd.ntmps37
  go_wp2_with fail
  refine HC.out.mono ?_
  rintro e w1 ⟨v, hv, rfl, hs, hk⟩
  have HS := Lib.hid hs
  have HK := Lib.hid hk
  clear hs hk
  go_wp2_with fail
  go_ret
  exact ⟨_, rfl, HS.out, HK.out⟩

theorem owned_from {base : Nat} {wr : World} {v : Value} {n : Nat} {xs : List Value} (h : wr.ownsRow base 5 1 v n xs) : ∀ k, v.ownBlock = some k → base ≤ k := fun k hk => (h.lt k hk).1
theorem owned_not {base b : Nat} {wr : World} {v : Value} {n : Nat} {xs : List Value} (h : wr.ownsRow base 5 1 v n xs) (hb : b < base) : v.ownBlock = none ∨ v.ownBlock ≠ some b := by
  right; intro e; have := (h.lt b e).1; omega
theorem ownShape {base : Nat} {wr : World} {e : TypeId} {v : Value} {n : Nat} {xs : List Value} (h : wr.ownsRow base e 1 v n xs) : v = .slice none 0 0 ∧ n = 0 ∨ ∃ g cap, v = .slice (some ⟨g, 0, none⟩) n cap := by
  rcases h.2 with ⟨h0, h1⟩ | ⟨g, cap, cur, h', _⟩
  · exact .inl ⟨h0, h1⟩
  · exact .inr ⟨g, cap, h'⟩

/-- What drawing bytes gives: a string of so many bytes. -/
def DrawnS (b : Nat) (a : Option Addr) (len cap : Nat) (n : Nat) (w : World) (e : Ending) (w' : World) : Prop :=
  ∃ s : ByteArray, s.size = n ∧ e = .returned (.string s) ∧ Src w' b a len cap ∧ Kept b w w'
def BytesRel (b : Nat) (a : Option Addr) (len cap n : Nat) (w : World) (v i : Value) (wr : World) : Prop :=
  ∃ l : List UInt8, l.length ≤ n ∧ i = .int .i64 (l.length : Int) ∧ (∃ g c, v = .slice (some ⟨g, 0, none⟩) l.length c) ∧ wr.ownsRow w.heap.size 5 1 v l.length (l.map B) ∧ Src wr b a len cap ∧ Kept b w wr
theorem byte_of (v : Int) (h0 : 0 ≤ v) (h1 : v < 256) : v = ((v.toNat.toUInt8).toNat : Int) := by simp; omega

set_option maxHeartbeats 1000000 in
set_option maxRecDepth 100000 in
theorem bytes_any (b : Nat) (a : Option Addr) (len cap n : Nat) (w : World) (hS : Src w b a len cap) (hR : Row w a len b) (hn : n ≤ 1000) :
    Calls Tryd.prog 38 #[.pointer (some ⟨b, 0, none⟩), .int .i64 (n : Int)] w (DrawnS b a len cap n w) := by
  obtain ⟨i0, hi, hz0, hz1, hz2⟩ := info_parts Tryd.info5
  have hbl := hS.lt
  have HS := Lib.hid hS
  have HR := Lib.hid hR
  clear hS hR
  go_enter Tryd.func38, Tryd.ntmps38
  go_wp2_with fail
  go_loopw [5, 6] (fun v i wr => BytesRel b a len cap n w v i wr) (fun _ i _ => n - (intOf i).toNat)
  case atStart => exact ⟨[], by simp, rfl, ⟨_, _, rfl⟩, World.ownsRow_lit w #[] 0 (Nat.le_refl _) (by decide) rfl, HS.out.grown (World.grownBy_alloc w _ none) (by simp), (Kept.refl b w).alloc _⟩
  case round =>
    obtain ⟨l, hln, rfl, ⟨g, c, rfl⟩, hown, hs, hk⟩ := hrel
    have HOWN := Lib.hid hown
    have HSR := Lib.hid hs
    have HK := Lib.hid hk
    have hsz : w.heap.size ≤ wr.heap.size := hk.size
    clear hown hs hk
    by_cases hlt : l.length < n
    · go_wp2_with fail
      refine (n_any b a len cap 256 _ HSR.out (HR.out.kept HK.out) (by omega) (by omega)).mono ?_
      rintro e w1 ⟨x, ⟨hx0, hx1⟩, rfl, hs1, hk1⟩
      have hown := HOWN.out.kept hk1 (owned_not HOWN.out hbl)
      have HS1 := Lib.hid hs1
      have HK1 := Lib.hid (HK.out.trans hk1)
      have hsz1 : w.heap.size ≤ w1.heap.size := Nat.le_trans hsz hk1.size
      clear hs1 hk1 HOWN HSR HK
      go_wp2_with (at_builtin; refine wpList_append_own _ rfl _ _ 22 rfl w.heap.size 5 i0 (.int .u8 0) 1 1 Tryd.underlying22 hi hz0 hz1 hz2 rfl (by decide) _ _ _ rfl (hown.alloc _) ⟨w1.heap.size, 0, none⟩ 1 1 [B x.toNat.toUInt8] rfl rfl ?c1 ?c2 ?c3 ?c4 ?c5 ?_)
      case c1 => exact one_cell _ _ _ (val_int (byte_of x hx0 hx1))
      case c2 => intro u hu; simp at hu; subst hu; rfl
      case c3 => unfold maxLen; omega
      case c4 => omega
      case c5 => simp; omega
      intro v' w2 hown' hgrow _
      have hsh := ownShape hown'
      have HO2 := Lib.hid hown'
      have HS2 := Lib.hid ((HS1.out.grown (World.grownBy_alloc w1 _ none) (by simp)).grown hgrow (fun e => by
        have := owned_from hown b (by simpa using e); omega))
      have HK2 := Lib.hid ((HK1.out.alloc _).grown hgrow (fun j e => owned_from hown j (by simpa using e)))
      have HSH := Lib.hid (show ∃ g c, v' = .slice (some ⟨g, 0, none⟩) (l.length + 1) c by
        rcases hsh with ⟨_, h0⟩ | h
        · omega
        · exact h)
      clear hown' hgrow hown hsh
      go_wp2
      go_roundw
      case rel => exact ⟨l ++ [x.toNat.toUInt8], by simp; omega, by simp, by simpa using HSH.out, by simpa using HO2.out, HS2.out, HK2.out⟩
      case measure => simp [intOf]; omega
    · obtain rfl : l.length = n := by omega
      have conv := conv_row (c := c) HOWN.out l l.length rfl (Nat.le_refl _) (by rw [List.take_of_length_le (by simp)])
      obtain ⟨str, hstr⟩ : ∃ str : ByteArray, str = ⟨l.toArray⟩ := ⟨_, rfl⟩
      have HZ := Lib.hid (show str.size = l.length by rw [hstr]; simp [ByteArray.size])
      rw [← hstr] at conv
      clear hstr
      go_wp2
      go_ret
      exact ⟨str, HZ.out, rfl, HSR.out, HK.out⟩
end Go.Proofs.YtcckpkcjekcajaaDoor
