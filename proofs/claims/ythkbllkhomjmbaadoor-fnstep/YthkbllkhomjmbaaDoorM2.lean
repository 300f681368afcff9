/- Ground texts of this claim, in one. -/
import Derived.Test.YthkbllkhomjmbaaDoorBase
import Derived.BigRegion
import Derived.Deep.QuietTactic
import Derived.BigQuiet
import Derived.Deep.DeepCutAuto
import Derived.Maps.Range
import Derived.Test.YthkbllkhomjmbaaDoorBBytes
namespace Go.Proofs.YthkbllkhomjmbaaDoor
open Go.RowKit

/-- Of what was there nothing but block b has turned. -/
def Kept (b : Nat) (w w' : World) : Prop := w.grownBy w' (some b)
theorem Kept.refl (b : Nat) (w : World) : Kept b w w := World.grownBy.refl w _
theorem Kept.trans {b : Nat} {w w1 w2 : World} (h : Kept b w w1) (k : Kept b w1 w2) : Kept b w w2 := h.andThen k (fun _ e => .inr e)
theorem Kept.drew {b : Nat} {w w1 : World} (h : Kept b w w1) : Kept b w w1.drew := ⟨h.os, h.tape, h.output, h.size, h.block⟩
theorem Kept.drewN {b : Nat} {w w1 : World} (h : Kept b w w1) (n : Nat) : Kept b w (w1.drewN n) := ⟨h.os, h.tape, h.output, h.size, h.block⟩
theorem Kept.alloc {b : Nat} {w w1 : World} (h : Kept b w w1) (o : Obj) : Kept b w (w1.alloc o) := h.trans (World.grownBy_alloc w1 o _)
theorem Kept.setCell {b : Nat} {w w1 : World} (h : Kept b w w1) (i : Nat) (v : Value) : Kept b w (w1.setCell ⟨b, i, none⟩ v) :=
  h.trans ⟨rfl, rfl, rfl, by simp, fun k _ hk => Below.heap_setCell w1 ⟨b, i, none⟩ v k (fun e => hk (by rw [e]))⟩
theorem Kept.grown {b : Nat} {w w1 w2 : World} {row : Option Nat} (h : Kept b w w1) (k : w1.grownBy w2 row) (hr : ∀ j, row = some j → w.heap.size ≤ j) : Kept b w w2 := h.andThen k (fun j e => .inl (hr j e))
theorem Kept.cell {b : Nat} {w w' : World} (h : Kept b w w') {p : Addr} (hl : p.block < w.heap.size) (hp : p.block ≠ b) : w'.cell? p = w.cell? p := World.cell?_of_block (w := w) (h.block p.block hl (fun e => hp (Option.some.inj e)))
theorem Kept.below {b B : Nat} {w w' : World} (h : Kept b w w') (hB : B ≤ b) (hw : B ≤ w.heap.size) : Below B w w' :=
  ⟨h.os, h.tape, h.output, h.size, fun k hk => h.block k (by omega) (fun e => by have := Option.some.inj e; omega)⟩

/-- A slice of bytes that came in can be read. -/
def Bytes (w : World) (a : Option Addr) (len : Nat) : Prop :=
  0 < len → ∃ x, a = some x ∧ x.spot = none ∧ x.block < w.heap.size ∧ ∀ i, i < len → ∃ z : Nat, z < 256 ∧ w.cell? ⟨x.block, x.off + i, none⟩ = some (.int .u8 (z : Int))
theorem Bytes.below {w w' : World} {a : Option Addr} {len : Nat} (h : Bytes w a len) (k : Below w.heap.size w w') : Bytes w' a len := fun h0 => by
  obtain ⟨x, e, hs, hl, hc⟩ := h h0
  exact ⟨x, e, hs, Nat.lt_of_lt_of_le hl k.size, fun i hi => by
    obtain ⟨z, hz, hz'⟩ := hc i hi
    exact ⟨z, hz, by rw [k.cell (p := ⟨x.block, x.off + i, none⟩) hl]; exact hz'⟩⟩
/-- The same, the bytes lying in another block than b. -/
def Row (w : World) (a : Option Addr) (len : Nat) (b : Nat) : Prop :=
  0 < len → ∃ x, a = some x ∧ x.spot = none ∧ x.block ≠ b ∧ x.block < w.heap.size ∧ ∀ i, i < len → ∃ z : Nat, z < 256 ∧ w.cell? ⟨x.block, x.off + i, none⟩ = some (.int .u8 (z : Int))
theorem Row.kept {w w' : World} {a : Option Addr} {len b : Nat} (h : Row w a len b) (k : Kept b w w') : Row w' a len b := fun h0 => by
  obtain ⟨x, e, hs, hb, hl, hc⟩ := h h0
  exact ⟨x, e, hs, hb, Nat.lt_of_lt_of_le hl k.size, fun i hi => by
    obtain ⟨z, hz, hz'⟩ := hc i hi
    exact ⟨z, hz, by rw [k.cell (p := ⟨x.block, x.off + i, none⟩) hl hb]; exact hz'⟩⟩

/-- The source in block b, over the slice a, len, cap. -/
def Src (w : World) (b : Nat) (a : Option Addr) (len cap : Nat) : Prop :=
  ∃ (k : Nat) (mix size : Int), k ≤ len ∧ w.heap[b]? = some (.cells #[.slice a len cap, .int .i64 k, .int .u64 mix, .int .i64 size] 126 (0, 0)) ∧ len ≤ 1048576
theorem lt_of_some {w : World} {b : Nat} {o : Obj} (h : w.heap[b]? = some o) : b < w.heap.size := (Array.getElem?_eq_some_iff.1 h).1
theorem Src.lt {w : World} {b : Nat} {a : Option Addr} {len cap : Nat} (h : Src w b a len cap) : b < w.heap.size := by
  obtain ⟨_, _, _, _, hb, _⟩ := h; exact lt_of_some hb
theorem Src.grown {w w' : World} {b : Nat} {a : Option Addr} {len cap : Nat} {row : Option Nat} (h : Src w b a len cap) (g : w.grownBy w' row) (hr : row ≠ some b) : Src w' b a len cap := by
  obtain ⟨k, m, s, h1, h2, h3⟩ := h
  exact ⟨k, m, s, h1, by rw [g.block b (lt_of_some h2) (fun e => hr e.symm)]; exact h2, h3⟩
theorem Src.cells {w : World} {b : Nat} {V c1 c2 c3 : Value} (h : w.heap[b]? = some (.cells #[V, c1, c2, c3] 126 (0, 0))) :
    (w.cell? ⟨b, 0, none⟩ = some V ∧ w.cell? ⟨b, 1, none⟩ = some c1 ∧ w.cell? ⟨b, 2, none⟩ = some c2 ∧ w.cell? ⟨b, 3, none⟩ = some c3) ∧
    (w.frozen? ⟨b, 0, none⟩ = false ∧ w.frozen? ⟨b, 1, none⟩ = false ∧ w.frozen? ⟨b, 2, none⟩ = false ∧ w.frozen? ⟨b, 3, none⟩ = false) := by
  refine ⟨⟨?_, ?_, ?_, ?_⟩, ?_, ?_, ?_, ?_⟩
  all_goals first | (rw [cell_of_row w b _ _ _ _ h]; rfl) | exact frozen_of_row w b _ _ _ h

/-- What a draw gives: a number of which P holds; the source goes on; nothing else turns. -/
def Drawn (b : Nat) (a : Option Addr) (len cap : Nat) (P : Int → Prop) (w : World) (e : Ending) (w' : World) : Prop :=
  ∃ v : Int, P v ∧ e = .returned (.int .i64 v) ∧ Src w' b a len cap ∧ Kept b w w'

/-- The source's block as it stands in w, nothing else having turned since w0. -/
def SrcIn (b : Nat) (V : Value) (k : Nat) (size : Int) (w0 w : World) : Prop :=
  ∃ mix : Int, w.heap[b]? = some (.cells #[V, .int .i64 k, .int .u64 mix, .int .i64 size] 126 (0, 0)) ∧ Kept b w0 w
theorem set_one {b : Nat} {w : World} {V c1 c2 c3 : Value} (h : w.heap[b]? = some (.cells #[V, c1, c2, c3] 126 (0, 0))) (v : Value) : (w.setCell ⟨b, 1, none⟩ v).heap[b]? = some (.cells #[V, v, c2, c3] 126 (0, 0)) :=
  heap_setCell_same w b 1 _ _ v h
theorem set_two {b : Nat} {w : World} {V c1 c2 c3 : Value} (h : w.heap[b]? = some (.cells #[V, c1, c2, c3] 126 (0, 0))) (v : Value) : (w.setCell ⟨b, 2, none⟩ v).heap[b]? = some (.cells #[V, c1, v, c3] 126 (0, 0)) :=
  heap_setCell_same w b 2 _ _ v h
theorem set_three {b : Nat} {w : World} {V c1 c2 c3 : Value} (h : w.heap[b]? = some (.cells #[V, c1, c2, c3] 126 (0, 0))) (v : Value) : (w.setCell ⟨b, 3, none⟩ v).heap[b]? = some (.cells #[V, c1, c2, v] 126 (0, 0)) :=
  heap_setCell_same w b 3 _ _ v h
theorem drawn_mod (x most : Int) (h1 : 1 < most) (h2 : most ≤ 9223372036854775807) : 0 ≤ wrap64 ((IntKind.u64.wrap x).tmod most) ∧ wrap64 ((IntKind.u64.wrap x).tmod most) < most := by
  have h0 : 0 ≤ IntKind.u64.wrap x := by rw [IntKind.wrap_u64]; omega
  rw [Int.tmod_eq_emod_of_nonneg h0]
  have a := Int.emod_nonneg (IntKind.u64.wrap x) (show most ≠ 0 by omega)
  have b := Int.emod_lt_of_pos (IntKind.u64.wrap x) (show 0 < most by omega)
  rw [IntWalk.wrap64_in _ (by omega)]
  exact ⟨a, b⟩

set_option maxHeartbeats 1000000 in
set_option maxRecDepth 100000 in
theorem n_any (b : Nat) (a : Option Addr) (len cap : Nat) (most : Int) (w : World) (hS : Src w b a len cap) (hR : Row w a len b) (h1 : 1 < most) (h2 : most ≤ 9223372036854775807) :
    Calls Tryd.prog 64 #[.pointer (some ⟨b, 0, none⟩), .int .i64 most] w (Drawn b a len cap (fun v => 0 ≤ v ∧ v < most) w) := by
  obtain ⟨k, mix, size, hk, hb, hl⟩ := hS
  obtain ⟨⟨c0, c1, c2, c3⟩, f0, f1, f2, f3⟩ := Src.cells hb
  have HB := Lib.hid hb
  have HR := Lib.hid hR
  clear hb hR
  go_enter Tryd.func64, Tryd.ntmps64
  go_wp2_with fail
  go_quiet (fail)
  go_upto_if 17 with fail
  go_cut [5] (fun s5 wx => ∃ z j : Nat, z < 256 ∧ j ≤ len ∧ s5 = .int .u64 (z : Int) ∧ SrcIn b (.slice a len cap) j size w wx)
  case first =>
    by_cases hkl : k < len
    · obtain ⟨x, rfl, hs, hxb, hxl, hc⟩ := HR.out (by omega)
      obtain ⟨xb, xo, xs⟩ := x
      simp only at hs hxb hxl hc
      subst hs
      obtain ⟨z, hz, hcz⟩ := hc k hkl
      clear hc
      have d0 : (k : Int) < (len : Int) := by omega
      have d1 : (0 : Int) ≤ (k : Int) := by omega
      go_wp2_with fail
      go_quiet (fail)
      go_wp2_with fail
      go_meet
      case rel => exact ⟨z, k + 1, hz, by omega, rfl, mix, by rw [show ((k + 1 : Nat) : Int) = (k : Int) + 1 by omega]; exact set_one (w := w.drewN _) HB.out _, Kept.setCell (w1 := w.drewN _) ((Kept.refl b w).drewN _) 1 _⟩
    · have d0 : decide ((k : Int) < (len : Int)) = false := by simp; omega
      go_wp2_with fail
      go_meet
      case rel => exact ⟨0, k, by omega, hk, rfl, mix, HB.out, (Kept.refl b w).drewN _⟩
  case rest =>
    obtain ⟨z, j, hz, hj, rfl, mix1, hb1, ho1⟩ := hcut
    clear c0 c1 c2 c3 f0 f1 f2 f3 HB HR
    obtain ⟨⟨c0, c1, c2, c3⟩, f0, f1, f2, f3⟩ := Src.cells hb1
    have HB1 := Lib.hid hb1
    have HO1 := Lib.hid ho1
    clear hb1 ho1
    go_upto_region 7 with fail
    go_cut [] (fun wx => SrcIn b (.slice a len cap) j size w wx)
    case first =>
      go_region
      go_wp2_with fail
      go_meet
      case rel => exact ⟨_, set_two HB1.out _, (HO1.out.setCell 2 _).drew⟩
    case rest =>
      clear c0 c1 c2 c3 f0 f1 f2 f3 HB1 HO1
      obtain ⟨mix1, hb1, ho1⟩ := hcut
      obtain ⟨⟨c0, c1, c2, c3⟩, f0, f1, f2, f3⟩ := Src.cells hb1
      have HB1 := Lib.hid hb1
      have HO1 := Lib.hid ho1
      clear hb1 ho1
      go_upto_region 8 with fail
      go_cut [] (fun wx => SrcIn b (.slice a len cap) j size w wx)
      case first =>
        go_region
        go_wp2_with fail
        go_meet
        case rel => exact ⟨_, set_two HB1.out _, (HO1.out.setCell 2 _).drew⟩
      case rest =>
        clear c0 c1 c2 c3 f0 f1 f2 f3 HB1 HO1
        obtain ⟨mix1, hb1, ho1⟩ := hcut
        obtain ⟨⟨c0, c1, c2, c3⟩, f0, f1, f2, f3⟩ := Src.cells hb1
        have HB1 := Lib.hid hb1
        have HO1 := Lib.hid ho1
        clear hb1 ho1
        go_upto_region 9 with fail
        go_cut [] (fun wx => SrcIn b (.slice a len cap) j size w wx)
        case first =>
          go_region
          go_wp2_with fail
          go_meet
          case rel => exact ⟨_, set_two HB1.out _, (HO1.out.setCell 2 _).drew⟩
        case rest =>
          clear c0 c1 c2 c3 f0 f1 f2 f3 HB1 HO1
          obtain ⟨mix1, hb1, ho1⟩ := hcut
          obtain ⟨⟨c0, c1, c2, c3⟩, f0, f1, f2, f3⟩ := Src.cells hb1
          have HB1 := Lib.hid hb1
          have HO1 := Lib.hid ho1
          clear hb1 ho1
          go_wp2_with fail
          go_ret
          exact ⟨_, drawn_mod _ _ h1 h2, rfl, ⟨j, _, _, hj, HB1.out, hl⟩, HO1.out⟩

/-- The same of a draw that says yes or no. -/
def DrawnB (b : Nat) (a : Option Addr) (len cap : Nat) (w : World) (e : Ending) (w' : World) : Prop :=
  ∃ v : Bool, e = .returned (.bool v) ∧ Src w' b a len cap ∧ Kept b w w'

set_option maxHeartbeats 400000 in
theorem one_any (b : Nat) (a : Option Addr) (len cap : Nat) (most : Int) (w : World) (hS : Src w b a len cap) (hR : Row w a len b) (h1 : 1 < most) (h2 : most ≤ 9223372036854775807) :
    Calls Tryd.prog 63 #[.pointer (some ⟨b, 0, none⟩), .int .i64 most] w (DrawnB b a len cap w) := by
  have HC := Lib.hid (n_any b a len cap most w hS hR h1 h2)
  clear hS hR
  go_enter Tryd.func63, Tryd.ntmps63
  go_wp2_with fail
  refine HC.out.mono ?_
  rintro e w1 ⟨v, hv, rfl, hs, hk⟩
  have HS := Lib.hid hs
  have HK := Lib.hid hk
  clear hs hk
  go_wp2_with fail
  go_ret
  exact ⟨_, rfl, HS.out, HK.out⟩

theorem owned_from {base : Nat} {wr : World} {v : Value} {n : Nat} {xs : List Value} (h : wr.ownsRow base 5 1 v n xs) : ∀ k, v.ownBlock = some k → base ≤ k := fun k hk => (h.lt k hk).1
theorem owned_not {base b : Nat} {wr : World} {v : Value} {n : Nat} {xs : List Value} (h : wr.ownsRow base 5 1 v n xs) (hb : b < base) : v.ownBlock = none ∨ v.ownBlock ≠ some b := by
  right; intro e; have := (h.lt b e).1; omega
theorem ownShape {base : Nat} {wr : World} {e : TypeId} {v : Value} {n : Nat} {xs : List Value} (h : wr.ownsRow base e 1 v n xs) : v = .slice none 0 0 ∧ n = 0 ∨ ∃ g cap, v = .slice (some ⟨g, 0, none⟩) n cap := by
  rcases h.2 with ⟨h0, h1⟩ | ⟨g, cap, cur, h', _⟩
  · exact .inl ⟨h0, h1⟩
  · exact .inr ⟨g, cap, h'⟩

/-- What drawing bytes gives: a string of so many bytes. -/
def DrawnS (b : Nat) (a : Option Addr) (len cap : Nat) (n : Nat) (w : World) (e : Ending) (w' : World) : Prop :=
  ∃ s : ByteArray, s.size = n ∧ e = .returned (.string s) ∧ Src w' b a len cap ∧ Kept b w w'
def BytesRel (b : Nat) (a : Option Addr) (len cap n : Nat) (w : World) (v i : Value) (wr : World) : Prop :=
  ∃ l : List UInt8, l.length ≤ n ∧ i = .int .i64 (l.length : Int) ∧ (∃ g c, v = .slice (some ⟨g, 0, none⟩) l.length c) ∧ wr.ownsRow w.heap.size 5 1 v l.length (l.map B) ∧ Src wr b a len cap ∧ Kept b w wr
theorem byte_of (v : Int) (h0 : 0 ≤ v) (h1 : v < 256) : v = ((v.toNat.toUInt8).toNat : Int) := by simp; omega

set_option maxHeartbeats 1000000 in
set_option maxRecDepth 100000 in
theorem bytes_any (b : Nat) (a : Option Addr) (len cap n : Nat) (w : World) (hS : Src w b a len cap) (hR : Row w a len b) (hn : n ≤ 1000) :
    Calls Tryd.prog 65 #[.pointer (some ⟨b, 0, none⟩), .int .i64 (n : Int)] w (DrawnS b a len cap n w) := by
  obtain ⟨i0, hi, hz0, hz1, hz2⟩ := info_parts Tryd.info5
  have hbl := hS.lt
  have HS := Lib.hid hS
  have HR := Lib.hid hR
  clear hS hR
  go_enter Tryd.func65, Tryd.ntmps65
  go_wp2_with fail
  go_loopw [5, 6] (fun v i wr => BytesRel b a len cap n w v i wr) (fun _ i _ => n - (intOf i).toNat)
  case atStart => exact ⟨[], by simp, rfl, ⟨_, _, rfl⟩, World.ownsRow_lit w #[] 0 (Nat.le_refl _) (by decide) rfl, HS.out.grown (World.grownBy_alloc w _ none) (by simp), (Kept.refl b w).alloc _⟩
  case round =>
    obtain ⟨l, hln, rfl, ⟨g, c, rfl⟩, hown, hs, hk⟩ := hrel
    have HOWN := Lib.hid hown
    have HSR := Lib.hid hs
    have HK := Lib.hid hk
    have hsz : w.heap.size ≤ wr.heap.size := hk.size
    clear hown hs hk
    by_cases hlt : l.length < n
    · go_wp2_with fail
      refine (n_any b a len cap 256 _ HSR.out (HR.out.kept HK.out) (by omega) (by omega)).mono ?_
      rintro e w1 ⟨x, ⟨hx0, hx1⟩, rfl, hs1, hk1⟩
      have hown := HOWN.out.kept hk1 (owned_not HOWN.out hbl)
      have HS1 := Lib.hid hs1
      have HK1 := Lib.hid (HK.out.trans hk1)
      have hsz1 : w.heap.size ≤ w1.heap.size := Nat.le_trans hsz hk1.size
      clear hs1 hk1 HOWN HSR HK
      go_wp2_with (at_builtin; refine wpList_append_own _ rfl _ _ 22 rfl w.heap.size 5 i0 (.int .u8 0) 1 1 Tryd.underlying22 hi hz0 hz1 hz2 rfl (by decide) _ _ _ rfl (hown.alloc _) ⟨w1.heap.size, 0, none⟩ 1 1 [B x.toNat.toUInt8] rfl rfl ?c1 ?c2 ?c3 ?c4 ?c5 ?_)
      case c1 => exact one_cell _ _ _ (val_int (byte_of x hx0 hx1))
      case c2 => intro u hu; simp at hu; subst hu; rfl
      case c3 => unfold maxLen; omega
      case c4 => omega
      case c5 => simp; omega
      intro v' w2 hown' hgrow _
      have hsh := ownShape hown'
      have HO2 := Lib.hid hown'
      have HS2 := Lib.hid ((HS1.out.grown (World.grownBy_alloc w1 _ none) (by simp)).grown hgrow (fun e => by
        have := owned_from hown b (by simpa using e); omega))
      have HK2 := Lib.hid ((HK1.out.alloc _).grown hgrow (fun j e => owned_from hown j (by simpa using e)))
      have HSH := Lib.hid (show ∃ g c, v' = .slice (some ⟨g, 0, none⟩) (l.length + 1) c by
        rcases hsh with ⟨_, h0⟩ | h
        · omega
        · exact h)
      clear hown' hgrow hown hsh
      go_wp2
      go_roundw
      case rel => exact ⟨l ++ [x.toNat.toUInt8], by simp; omega, by simp, by simpa using HSH.out, by simpa using HO2.out, HS2.out, HK2.out⟩
      case measure => simp [intOf]; omega
    · obtain rfl : l.length = n := by omega
      have conv := conv_row (c := c) HOWN.out l l.length rfl (Nat.le_refl _) (by rw [List.take_of_length_le (by simp)])
      obtain ⟨str, hstr⟩ : ∃ str : ByteArray, str = ⟨l.toArray⟩ := ⟨_, rfl⟩
      have HZ := Lib.hid (show str.size = l.length by rw [hstr]; simp [ByteArray.size])
      rw [← hstr] at conv
      clear hstr
      go_wp2
      go_ret
      exact ⟨str, HZ.out, rfl, HSR.out, HK.out⟩
end Go.Proofs.YthkbllkhomjmbaaDoor

namespace Go.Proofs.YthkbllkhomjmbaaDoor
open Go.RowKit

theorem Bytes.row {w w' : World} {a : Option Addr} {len b : Nat} (h : Bytes w a len) (hk : Below w.heap.size w w') (hb : w.heap.size ≤ b) : Row w' a len b := fun h0 => by
  obtain ⟨x, e, hs, hl, hc⟩ := (h h0)
  exact ⟨x, e, hs, by omega, Nat.lt_of_lt_of_le hl hk.size, fun i hi => by
    obtain ⟨z, hz, hz'⟩ := hc i hi
    exact ⟨z, hz, by rw [hk.cell (p := ⟨x.block, x.off + i, none⟩) hl]; exact hz'⟩⟩

def SourceRel (a : Option Addr) (len cap : Nat) (w : World) (i : Value) (wr : World) : Prop :=
  ∃ (k : Nat) (mix : Int), k ≤ len ∧ i = .int .i64 (k : Int) ∧ wr.heap[w.heap.size]? = some (.cells #[.slice a len cap, .int .i64 0, .int .u64 mix, .int .i64 0] 126 (0, 0)) ∧ Below w.heap.size w wr
/-- What making a source gives. -/
def Made (a : Option Addr) (len cap : Nat) (w : World) (e : Ending) (w' : World) : Prop :=
  e = .returned (.pointer (some ⟨w.heap.size, 0, none⟩)) ∧ Src w' w.heap.size a len cap ∧ Below w.heap.size w w'

set_option maxHeartbeats 1000000 in
set_option maxRecDepth 100000 in
theorem source_any (a : Option Addr) (len cap : Nat) (w : World) (hB : Bytes w a len) (hl : len ≤ 1048576) :
    Calls Tryd.prog 58 #[.slice a len cap] w (Made a len cap w) := by
  have HB := Lib.hid hB
  clear hB
  go_enter Tryd.func58, Tryd.ntmps58
  go_wp2_with fail
  go_loopw [4] (fun i wr => SourceRel a len cap w i wr) (fun i _ => len - (intOf i).toNat)
  case atStart => exact ⟨0, _, Nat.zero_le _, rfl, heap_alloc_new w _, (Below.refl _ _).alloc (Nat.le_refl _) _⟩
  case round =>
    obtain ⟨k, mix, hk, rfl, hb, hbel⟩ := hrel
    obtain ⟨⟨c0, c1, c2, c3⟩, f0, f1, f2, f3⟩ := Src.cells hb
    have HW := Lib.hid hb
    have HBEL := Lib.hid hbel
    clear hb hbel
    by_cases hgo : k < len ∧ k < 64
    · obtain ⟨hkl, hk64⟩ := hgo
      obtain ⟨x, rfl, hs, hxl, hc⟩ := HB.out (by omega)
      obtain ⟨xb, xo, xs⟩ := x
      simp only at hs hxl hc
      subst hs
      obtain ⟨z, hz, hcz0⟩ := hc k hkl
      have hcz : wr.cell? ⟨xb, xo + k, none⟩ = some (.int .u8 (z : Int)) := by rw [HBEL.out.cell (p := ⟨xb, xo + k, none⟩) hxl]; exact hcz0
      have hne : ¬ xb = w.heap.size := by omega
      clear hc hcz0
      have d0 : (k : Int) < (len : Int) := by omega
      have d1 : (k : Int) < 64 := by omega
      have d2 : (0 : Int) ≤ (k : Int) := by omega
      go_wp2_with fail
      go_region
      go_wp2_with fail
      go_roundw
      case rel => exact ⟨k + 1, _, by omega, by go_num, set_two HW.out _, (HBEL.out.setCell (p := ⟨w.heap.size, 2, none⟩) (Nat.le_refl _) _).drew⟩
      case measure => simp [intOf]; omega
    · have hend : len ≤ k ∨ k < len ∧ 64 ≤ k := by omega
      clear hgo
      by_cases h12 : (len : Int) / 20 ≤ 12
      · rcases hend with e0 | ⟨e0, e1⟩
        all_goals go_wp2_with fail
        all_goals go_ret
        all_goals exact ⟨rfl, ⟨0, _, _, Nat.zero_le _, set_three HW.out _, hl⟩, HBEL.out.setCell (p := ⟨w.heap.size, 3, none⟩) (Nat.le_refl _) _⟩
      · rcases hend with e0 | ⟨e0, e1⟩
        all_goals go_wp2_with fail
        all_goals go_ret
        all_goals exact ⟨rfl, ⟨0, _, _, Nat.zero_le _, set_three (set_three HW.out _) _, hl⟩, (HBEL.out.setCell (p := ⟨w.heap.size, 3, none⟩) (Nat.le_refl _) _).setCell (p := ⟨w.heap.size, 3, none⟩) (Nat.le_refl _) _⟩
end Go.Proofs.YthkbllkhomjmbaaDoor

namespace Go.Proofs.YthkbllkhomjmbaaDoor
open Go.RowKit

theorem below_kept {b : Nat} {w w' : World} (h : Below w.heap.size w w') : Kept b w w' := ⟨h.os, h.tape, h.output, h.size, fun k hk _ => h.block k hk⟩
theorem Src.below {w w' : World} {b : Nat} {a : Option Addr} {len cap : Nat} (h : Src w b a len cap) (hb : Below w.heap.size w w') : Src w' b a len cap := by
  obtain ⟨k, m, s, h1, h2, h3⟩ := h
  exact ⟨k, m, s, h1, by rw [hb.block b (lt_of_some h2)]; exact h2, h3⟩
theorem Bx.kept {w w' : World} {n b : Nat} {T : TypeId} {vs : Array Value} (h : Bx w n T vs) (hk : Kept b w w') (hn : n ≠ b) : Bx w' n T vs := (hk.block n h.lt (fun e => hn (Option.some.inj e))).trans h
def stpV (x : stpT) : Value := .agg #[.int .i64 x.1, .int .i64 x.2.1, .int .i64 x.2.2.1, .string x.2.2.2]
/-- What a drawn step gives. -/
def DrawnX (b : Nat) (a : Option Addr) (len cap : Nat) (w : World) (e : Ending) (w' : World) : Prop :=
  ∃ x : stpT, x.2.2.2.size ≤ 10 ∧ e = .returned (stpV x) ∧ Src w' b a len cap ∧ Kept b w w'
/-- A string of a few is drawn. -/
def DrawnD (b : Nat) (a : Option Addr) (len cap : Nat) (w : World) (e : Ending) (w' : World) : Prop :=
  ∃ s : ByteArray, s.size ≤ 10 ∧ e = .returned (.string s) ∧ Src w' b a len cap ∧ Kept b w w'

set_option maxRecDepth 100000 in
set_option maxHeartbeats 1000000 in
theorem pick_any (b : Nat) (a : Option Addr) (len cap g : Nat) (w : World) (hS : Src w b a len cap) (hR : Row w a len b) (hg : ∀ j : Nat, j < 5 → ∃ s : ByteArray, s.size ≤ 10 ∧ w.cell? ⟨g, j, none⟩ = some (.string s)) (hl : g < w.heap.size) (hn : g ≠ b) :
    Calls Tryd.prog 121 #[.pointer (some ⟨b, 0, none⟩), .slice (some ⟨g, 0, none⟩) 5 5] w (DrawnD b a len cap w) := by
  have HC := Lib.hid (n_any b a len cap 5 w hS hR (by omega) (by omega))
  have HG := Lib.hid hg
  clear hS hR hg
  go_enter Tryd.func121, Tryd.ntmps121
  go_wp2_with fail
  refine HC.out.mono ?_
  rintro e w1 ⟨v, ⟨hv0, hv1⟩, rfl, hs, hk⟩
  obtain ⟨j, rfl⟩ := Int.eq_ofNat_of_zero_le hv0
  obtain ⟨s, hz, hc⟩ := HG.out j (by omega)
  have hc1 : w1.cell? ⟨g, j, none⟩ = some (.string s) := (hk.cell (p := ⟨g, j, none⟩) hl hn).trans hc
  have HS := Lib.hid hs
  have HK := Lib.hid hk
  clear hs hk hc HG HC
  go_wp2_with fail
  go_ret
  exact ⟨s, hz, rfl, HS.out, HK.out⟩

set_option maxRecDepth 100000 in
set_option maxHeartbeats 1000000 in
theorem data_any (b : Nat) (a : Option Addr) (len cap : Nat) (w : World) (hS : Src w b a len cap) (hR : Row w a len b) :
    Calls Tryd.prog 120 #[.pointer (some ⟨b, 0, none⟩)] w (DrawnD b a len cap w) := by
  have hbl := hS.lt
  have HS := Lib.hid hS
  have HR := Lib.hid hR
  clear hS hR
  go_enter Tryd.func120, Tryd.ntmps120
  go_wp2_with fail
  generalize hW : w.alloc _ = W
  have hk : Kept b w W := by rw [← hW]; exact (Kept.refl b w).alloc _
  have hs : Src W b a len cap := by rw [← hW]; exact HS.out.below (below_alloc1 w _)
  have hg : ∀ j : Nat, j < 5 → ∃ s : ByteArray, s.size ≤ 10 ∧ W.cell? ⟨w.heap.size, j, none⟩ = some (.string s) := by
    intro j hj
    rw [← hW]
    match j, hj with
    | 0, _ => exact ⟨_, by decide, (bx_new w _ _).cell 0⟩
    | 1, _ => exact ⟨_, by decide, (bx_new w _ _).cell 1⟩
    | 2, _ => exact ⟨_, by decide, (bx_new w _ _).cell 2⟩
    | 3, _ => exact ⟨_, by decide, (bx_new w _ _).cell 3⟩
    | 4, _ => exact ⟨_, by decide, (bx_new w _ _).cell 4⟩
  have hl : w.heap.size < W.heap.size := by rw [← hW]; simp
  clear hW
  have HK := Lib.hid hk
  have HC := Lib.hid (pick_any b a len cap w.heap.size W hs (HR.out.kept hk) hg hl (by omega))
  clear hk hs hg
  refine HC.out.mono ?_
  rintro e w1 ⟨s, hz, rfl, hs, hk⟩
  have HS1 := Lib.hid hs
  have HK1 := Lib.hid (HK.out.trans hk)
  clear hs hk
  go_wp2_with fail
  go_ret
  exact ⟨s, hz, rfl, HS1.out, HK1.out⟩


theorem Kept.box {b n : Nat} {w0 w : World} (h : Kept b w0 w) (i : Nat) (v : Value) (hn : w0.heap.size ≤ n) : Kept b w0 (w.setCell ⟨n, i, none⟩ v) :=
  ⟨h.os, h.tape, h.output, by simpa using h.size, fun k hk hne => by
    rw [Below.heap_setCell w ⟨n, i, none⟩ v k (by simp; omega)]
    exact h.block k hk hne⟩
theorem Src.box {w : World} {b n : Nat} {a : Option Addr} {len cap : Nat} (h : Src w b a len cap) (i : Nat) (v : Value) (hn : b ≠ n) : Src (w.setCell ⟨n, i, none⟩ v) b a len cap := by
  obtain ⟨k, m, s, h1, h2, h3⟩ := h
  exact ⟨k, m, s, h1, by rw [Below.heap_setCell w ⟨n, i, none⟩ v b hn]; exact h2, h3⟩
theorem Kept.four {b n : Nat} {w0 w : World} (h : Kept b w0 w) (hn : w0.heap.size ≤ n) (x y z u : Value) : Kept b w0 ((((w.setCell ⟨n, 0, none⟩ x).setCell ⟨n, 1, none⟩ y).setCell ⟨n, 2, none⟩ z).setCell ⟨n, 3, none⟩ u) :=
  (((h.box 0 x hn).box 1 y hn).box 2 z hn).box 3 u hn
theorem Src.four {w : World} {b n : Nat} {a : Option Addr} {len cap : Nat} (h : Src w b a len cap) (hn : b ≠ n) (x y z u : Value) : Src ((((w.setCell ⟨n, 0, none⟩ x).setCell ⟨n, 1, none⟩ y).setCell ⟨n, 2, none⟩ z).setCell ⟨n, 3, none⟩ u) b a len cap :=
  (((h.box 0 x hn).box 1 y hn).box 2 z hn).box 3 u hn
theorem Bx.four {w : World} {n m : Nat} {T : TypeId} {vs : Array Value} (h : Bx w n T vs) (hn : n ≠ m) (x y z u : Value) : Bx ((((w.setCell ⟨m, 0, none⟩ x).setCell ⟨m, 1, none⟩ y).setCell ⟨m, 2, none⟩ z).setCell ⟨m, 3, none⟩ u) n T vs :=
  (((h.other ⟨m, 0, none⟩ x hn).other ⟨m, 1, none⟩ y hn).other ⟨m, 2, none⟩ z hn).other ⟨m, 3, none⟩ u hn
theorem Bx.all4 {w : World} {n : Nat} {T : TypeId} {a b c d : Value} (h : Bx w n T #[a, b, c, d]) (x y z u : Value) : Bx ((((w.setCell ⟨n, 0, none⟩ x).setCell ⟨n, 1, none⟩ y).setCell ⟨n, 2, none⟩ z).setCell ⟨n, 3, none⟩ u) n T #[x, y, z, u] :=
  (((h.set (j := 0) x).set (j := 1) y).set (j := 2) z).set (j := 3) u
theorem Bx.cf4 {w : World} {n : Nat} {T : TypeId} {a b c d : Value} (h : Bx w n T #[a, b, c, d]) : (w.cell? ⟨n, 0, none⟩ = some a ∧ w.cell? ⟨n, 1, none⟩ = some b ∧ w.cell? ⟨n, 2, none⟩ = some c ∧ w.cell? ⟨n, 3, none⟩ = some d) ∧ (w.frozen? ⟨n, 0, none⟩ = false ∧ w.frozen? ⟨n, 1, none⟩ = false ∧ w.frozen? ⟨n, 2, none⟩ = false ∧ w.frozen? ⟨n, 3, none⟩ = false) :=
  ⟨⟨h.cell 0, h.cell 1, h.cell 2, h.cell 3⟩, h.frozen 0, h.frozen 1, h.frozen 2, h.frozen 3⟩
/-- The state of a draw of a step: the answer's box m0, the step's box n, the source. -/
structure XSt (b : Nat) (a : Option Addr) (len cap : Nat) (w : World) (m0 n : Nat) (x : stpT) (wr : World) : Prop where
  ans : Bx wr m0 41 #[.int .i64 0, .int .i64 0, .int .i64 0, .string { data := #[] }]
  box : Bx wr n 41 #[.int .i64 x.1, .int .i64 x.2.1, .int .i64 x.2.2.1, .string x.2.2.2]
  src : Src wr b a len cap
  kept : Kept b w wr
  m0b : m0 ≠ b
  nb : n ≠ b
  mn : m0 ≠ n
  lo : w.heap.size ≤ m0
  ln : w.heap.size ≤ n
section
variable {b : Nat} {a : Option Addr} {len cap : Nat} {w : World} {m0 n : Nat} {x : stpT} {w1 w2 : World}
theorem XSt.keep (h : XSt b a len cap w m0 n x w1) (hk : Kept b w1 w2) (hs : Src w2 b a len cap) : XSt b a len cap w m0 n x w2 :=
  ⟨h.ans.kept hk h.m0b, h.box.kept hk h.nb, hs, h.kept.trans hk, h.m0b, h.nb, h.mn, h.lo, h.ln⟩
theorem XSt.next (h : XSt b a len cap w m0 n x w1) (hb : Below w1.heap.size w1 w2) : XSt b a len cap w m0 n x w2 := h.keep (below_kept hb) (h.src.below hb)
theorem XSt.set0 (h : XSt b a len cap w m0 n x w1) (v : Int) : XSt b a len cap w m0 n (v, x.2.1, x.2.2.1, x.2.2.2) (w1.setCell ⟨n, 0, none⟩ (.int .i64 v)) :=
  ⟨h.ans.other ⟨n, 0, none⟩ _ h.mn, h.box.set (j := 0) _, h.src.box 0 _ (Ne.symm h.nb), h.kept.box 0 _ h.ln, h.m0b, h.nb, h.mn, h.lo, h.ln⟩
theorem XSt.set1 (h : XSt b a len cap w m0 n x w1) (v : Int) : XSt b a len cap w m0 n (x.1, v, x.2.2.1, x.2.2.2) (w1.setCell ⟨n, 1, none⟩ (.int .i64 v)) :=
  ⟨h.ans.other ⟨n, 1, none⟩ _ h.mn, h.box.set (j := 1) _, h.src.box 1 _ (Ne.symm h.nb), h.kept.box 1 _ h.ln, h.m0b, h.nb, h.mn, h.lo, h.ln⟩
theorem XSt.set2 (h : XSt b a len cap w m0 n x w1) (v : Int) : XSt b a len cap w m0 n (x.1, x.2.1, v, x.2.2.2) (w1.setCell ⟨n, 2, none⟩ (.int .i64 v)) :=
  ⟨h.ans.other ⟨n, 2, none⟩ _ h.mn, h.box.set (j := 2) _, h.src.box 2 _ (Ne.symm h.nb), h.kept.box 2 _ h.ln, h.m0b, h.nb, h.mn, h.lo, h.ln⟩
theorem XSt.set3 (h : XSt b a len cap w m0 n x w1) (v : ByteArray) : XSt b a len cap w m0 n (x.1, x.2.1, x.2.2.1, v) (w1.setCell ⟨n, 3, none⟩ (.string v)) :=
  ⟨h.ans.other ⟨n, 3, none⟩ _ h.mn, h.box.set (j := 3) _, h.src.box 3 _ (Ne.symm h.nb), h.kept.box 3 _ h.ln, h.m0b, h.nb, h.mn, h.lo, h.ln⟩
theorem XSt.all (h : XSt b a len cap w m0 n x w1) (y : stpT) : XSt b a len cap w m0 n y ((((w1.setCell ⟨n, 0, none⟩ (.int .i64 y.1)).setCell ⟨n, 1, none⟩ (.int .i64 y.2.1)).setCell ⟨n, 2, none⟩ (.int .i64 y.2.2.1)).setCell ⟨n, 3, none⟩ (.string y.2.2.2)) :=
  ⟨h.ans.four h.mn _ _ _ _, h.box.all4 _ _ _ _, h.src.four (Ne.symm h.nb) _ _ _ _, h.kept.four h.ln _ _ _ _, h.m0b, h.nb, h.mn, h.lo, h.ln⟩
/-- The answer stored. -/
theorem XSt.fin (h : XSt b a len cap w m0 n x w1) (p q r s : Value) : Src ((((w1.setCell ⟨m0, 0, none⟩ p).setCell ⟨m0, 1, none⟩ q).setCell ⟨m0, 2, none⟩ r).setCell ⟨m0, 3, none⟩ s) b a len cap ∧ Kept b w ((((w1.setCell ⟨m0, 0, none⟩ p).setCell ⟨m0, 1, none⟩ q).setCell ⟨m0, 2, none⟩ r).setCell ⟨m0, 3, none⟩ s) :=
  ⟨h.src.four (Ne.symm h.m0b) _ _ _ _, h.kept.four h.lo _ _ _ _⟩
end


set_option maxRecDepth 100000 in
set_option maxHeartbeats 4000000 in
theorem step_any (b : Nat) (a : Option Addr) (len cap : Nat) (w : World) (hS : Src w b a len cap) (hR : Row w a len b) :
    Calls Tryd.prog 109 #[.pointer (some ⟨b, 0, none⟩), .int .i64 4] w (DrawnX b a len cap w) := by
  have hbl := hS.lt
  have Z := #[Value.int .i64 0, Value.int .i64 0, Value.int .i64 0, Value.string { data := #[] }]
  have Y0 := Lib.hid (bx_new w 41 #[.int .i64 0, .int .i64 0, .int .i64 0, .string { data := #[] }])
  have K0 := Lib.hid ((Kept.refl b w).alloc (.cells #[.int .i64 0, .int .i64 0, .int .i64 0, .string { data := #[] }] 41))
  have S0 := Lib.hid (hS.below (below_alloc1 w (.cells #[.int .i64 0, .int .i64 0, .int .i64 0, .string { data := #[] }] 41)))
  have z0 := size_alloc1 w (.cells #[.int .i64 0, .int .i64 0, .int .i64 0, .string { data := #[] }] 41)
  have HR := Lib.hid hR
  clear hS hR Z
  go_enter Tryd.func109, Tryd.ntmps109
  go_wp2_with fail
  generalize w.alloc (.cells #[.int .i64 0, .int .i64 0, .int .i64 0, .string { data := #[] }] 41) = W0 at *
  refine (n_any b a len cap 4 W0 S0.out (HR.out.kept K0.out) (by omega) (by omega)).mono ?_
  rintro e w1 ⟨y, ⟨hy0, hy1⟩, rfl, hs1, hk1⟩
  have Y1 := Lib.hid (Y0.out.kept hk1 (by omega))
  have K1 := Lib.hid (K0.out.trans hk1)
  have S1 := Lib.hid hs1
  have g1 : W0.heap.size ≤ w1.heap.size := hk1.size
  clear hs1 hk1 Y0 S0 K0
  have m0 : wrap64 (1 + y) = 1 + y := IntWalk.wrap64_in _ (by omega)
  have m1 : IntKind.i64.wrap (1 + y) = 1 + y := IntWalk.i64_in _ (by omega)
  go_wp2_with fail
  refine (n_any b a len cap 4 w1 S1.out (HR.out.kept K1.out) (by omega) (by omega)).mono ?_
  rintro e w2 ⟨t, ⟨ht0, ht1⟩, rfl, hs2, hk2⟩
  have g2 : w1.heap.size ≤ w2.heap.size := hk2.size
  have ST2 := Lib.hid (show XSt b a len cap w w.heap.size w2.heap.size (1 + y, t, 0, ⟨#[]⟩) (w2.alloc (.cells #[.int .i64 (1 + y), .int .i64 t, .int .i64 0, .string { data := #[] }] 41)) from
    ⟨(Y1.out.kept hk2 (by omega)).next (below_alloc1 w2 _), bx_new w2 _ _, hs2.below (below_alloc1 w2 _), (K1.out.trans hk2).alloc _, by omega, by omega, by omega, Nat.le_refl _, by omega⟩)
  clear hs2 hk2 Y1 K1 S1 m0 m1
  have hy : y = 0 ∨ y = 1 ∨ y = 2 ∨ y = 3 := by omega
  rcases hy with rfl | rfl | rfl | rfl
  · replace ST2 : Hid (XSt b a len cap w w.heap.size w2.heap.size (1, t, 0, ⟨#[]⟩) (w2.alloc (.cells #[.int .i64 1, .int .i64 t, .int .i64 0, .string { data := #[] }] 41))) := ST2
    obtain ⟨⟨r0, r1, r2, r3⟩, s0, s1, s2, s3⟩ := ST2.out.ans.cf4
    obtain ⟨⟨q0, q1, q2, q3⟩, t0, t1, t2, t3⟩ := ST2.out.box.cf4
    go_wp2_with fail
    refine bodyPost_ret (v := stpV (1, t, 0, ⟨#[]⟩)) (by simp [stpV, results, Tryd.results109, go_sem, r0, r1, r2, r3]) rfl ⟨(1, t, 0, ⟨#[]⟩), Nat.zero_le _, rfl, ?_⟩
    exact ST2.out.fin _ _ _ _
  · obtain ⟨⟨q0, q1, q2, q3⟩, t0, t1, t2, t3⟩ := ST2.out.box.cf4
    go_wp2_with fail
    clear q0 q1 q2 q3 t0 t1 t2 t3
    have d0 := ST2.out.box.cf4.2.2.2.2
    refine (data_any b a len cap _ ST2.out.src (HR.out.kept ST2.out.kept)).mono ?_
    rintro e w4 ⟨d, hd, rfl, hs4, hk4⟩
    have ST4 := Lib.hid (ST2.out.keep hk4 hs4)
    obtain ⟨⟨q0, q1, q2, q3⟩, t0, t1, t2, t3⟩ := ST4.out.box.cf4
    have ST4' := Lib.hid (ST4.out.set3 d)
    clear hs4 hk4 d0
    obtain ⟨⟨r0, r1, r2, r3⟩, s0, s1, s2, s3⟩ := ST4'.out.ans.cf4
    obtain ⟨⟨u0, u1, u2, u3⟩, v0, v1, v2, v3⟩ := ST4'.out.box.cf4
    go_wp2_with fail
    refine bodyPost_ret (v := stpV (2, t, 0, d)) (by simp [stpV, results, Tryd.results109, go_sem, r0, r1, r2, r3]) rfl ⟨(2, t, 0, d), hd, rfl, ?_⟩
    exact ST4'.out.fin _ _ _ _
  · obtain ⟨⟨q0, q1, q2, q3⟩, t0, t1, t2, t3⟩ := ST2.out.box.cf4
    go_wp2_with fail
    clear q0 q1 q2 q3 t0 t1 t2 t3
    refine (n_any b a len cap 4 _ ST2.out.src (HR.out.kept ST2.out.kept) (by omega) (by omega)).mono ?_
    rintro e w3 ⟨f, ⟨hf0, hf1⟩, rfl, hs3, hk3⟩
    have ST3 := Lib.hid (ST2.out.keep hk3 hs3)
    obtain ⟨⟨q0, q1, q2, q3⟩, t0, t1, t2, t3⟩ := ST3.out.box.cf4
    have ST4 := Lib.hid (ST3.out.set2 f)
    obtain ⟨⟨u0, u1, u2, u3⟩, v0, v1, v2, v3⟩ := ST4.out.box.cf4
    clear hs3 hk3
    obtain ⟨⟨r0, r1, r2, r3⟩, s0, s1, s2, s3⟩ := ST4.out.ans.cf4
    go_wp2_with fail
    refine bodyPost_ret (v := stpV (3, t, f, ⟨#[]⟩)) (by simp [stpV, results, Tryd.results109, go_sem, r0, r1, r2, r3]) rfl ⟨(3, t, f, ⟨#[]⟩), Nat.zero_le _, rfl, ?_⟩
    exact ST4.out.fin _ _ _ _
  · obtain ⟨⟨q0, q1, q2, q3⟩, t0, t1, t2, t3⟩ := ST2.out.box.cf4
    go_wp2_with fail
    clear q0 q1 q2 q3 t0 t1 t2 t3
    refine (n_any b a len cap 4 _ ST2.out.src (HR.out.kept ST2.out.kept) (by omega) (by omega)).mono ?_
    rintro e w3 ⟨f, ⟨hf0, hf1⟩, rfl, hs3, hk3⟩
    have ST3 := Lib.hid (ST2.out.keep hk3 hs3)
    obtain ⟨⟨q0, q1, q2, q3⟩, t0, t1, t2, t3⟩ := ST3.out.box.cf4
    have ST4 := Lib.hid (ST3.out.set2 f)
    obtain ⟨⟨u0, u1, u2, u3⟩, v0, v1, v2, v3⟩ := ST4.out.box.cf4
    clear hs3 hk3
    go_wp2_with fail
    clear q0 q1 q2 q3 t0 t1 t2 t3 u0 u1 u2 u3 v0 v1 v2 v3
    have d0 := ST4.out.box.cf4.2.2.2.2
    refine (data_any b a len cap _ ST4.out.src (HR.out.kept ST4.out.kept)).mono ?_
    rintro e w4 ⟨d, hd, rfl, hs4, hk4⟩
    have ST5 := Lib.hid (ST4.out.keep hk4 hs4)
    obtain ⟨⟨q0, q1, q2, q3⟩, t0, t1, t2, t3⟩ := ST5.out.box.cf4
    have ST5' := Lib.hid (ST5.out.set3 d)
    clear hs4 hk4 d0
    obtain ⟨⟨r0, r1, r2, r3⟩, s0, s1, s2, s3⟩ := ST5'.out.ans.cf4
    obtain ⟨⟨u0, u1, u2, u3⟩, v0, v1, v2, v3⟩ := ST5'.out.box.cf4
    go_wp2_with fail
    refine bodyPost_ret (v := stpV (4, t, f, d)) (by simp [stpV, results, Tryd.results109, go_sem, r0, r1, r2, r3]) rfl ⟨(4, t, f, d), hd, rfl, ?_⟩
    exact ST5'.out.fin _ _ _ _
end Go.Proofs.YthkbllkhomjmbaaDoor

namespace Go.Proofs.YthkbllkhomjmbaaDoor
open Go.RowKit

theorem ints3 (x0 x1 x2 : Int) (j : Nat) (h : j < 3) : ∃ z : Int, (#[Value.int .i64 x0, .int .i64 x1, .int .i64 x2])[j]? = some (.int .i64 z) := by
  match j, h with
  | 0, _ => exact ⟨_, rfl⟩
  | 1, _ => exact ⟨_, rfl⟩
  | 2, _ => exact ⟨_, rfl⟩
theorem ints5 (x0 x1 x2 x3 x4 : Int) (j : Nat) (h : j < 5) : ∃ z : Int, (#[Value.int .i64 x0, .int .i64 x1, .int .i64 x2, .int .i64 x3, .int .i64 x4])[j]? = some (.int .i64 z) := by
  match j, h with
  | 0, _ => exact ⟨_, rfl⟩
  | 1, _ => exact ⟨_, rfl⟩
  | 2, _ => exact ⟨_, rfl⟩
  | 3, _ => exact ⟨_, rfl⟩
  | 4, _ => exact ⟨_, rfl⟩
theorem ints7 (x0 x1 x2 x3 x4 x5 x6 : Int) (j : Nat) (h : j < 7) : ∃ z : Int, (#[Value.int .i64 x0, .int .i64 x1, .int .i64 x2, .int .i64 x3, .int .i64 x4, .int .i64 x5, .int .i64 x6])[j]? = some (.int .i64 z) := by
  match j, h with
  | 0, _ => exact ⟨_, rfl⟩
  | 1, _ => exact ⟨_, rfl⟩
  | 2, _ => exact ⟨_, rfl⟩
  | 3, _ => exact ⟨_, rfl⟩
  | 4, _ => exact ⟨_, rfl⟩
  | 5, _ => exact ⟨_, rfl⟩
  | 6, _ => exact ⟨_, rfl⟩

set_option maxRecDepth 100000 in
set_option maxHeartbeats 4000000 in
theorem any_any (b : Nat) (a : Option Addr) (len cap : Nat) (w : World) (hS : Src w b a len cap) (hR : Row w a len b) :
    Calls Tryd.prog 75 #[.pointer (some ⟨b, 0, none⟩)] w (DrawnX b a len cap w) := by
  have hbl := hS.lt
  have Y0 := Lib.hid (bx_new w 41 #[.int .i64 0, .int .i64 0, .int .i64 0, .string { data := #[] }])
  have K0 := Lib.hid ((Kept.refl b w).alloc (.cells #[.int .i64 0, .int .i64 0, .int .i64 0, .string { data := #[] }] 41))
  have S0 := Lib.hid (hS.below (below_alloc1 w (.cells #[.int .i64 0, .int .i64 0, .int .i64 0, .string { data := #[] }] 41)))
  have z0 := size_alloc1 w (.cells #[.int .i64 0, .int .i64 0, .int .i64 0, .string { data := #[] }] 41)
  have HR := Lib.hid hR
  clear hS hR
  go_enter Tryd.func75, Tryd.ntmps75
  go_wp2_with fail
  generalize w.alloc (.cells #[.int .i64 0, .int .i64 0, .int .i64 0, .string { data := #[] }] 41) = W0 at *
  refine (step_any b a len cap W0 S0.out (HR.out.kept K0.out)).mono ?_
  rintro e w1 ⟨x, hx, rfl, hs1, hk1⟩
  have g1 : W0.heap.size ≤ w1.heap.size := hk1.size
  unfold stpV
  have ST1 := Lib.hid (show XSt b a len cap w w.heap.size w1.heap.size x (w1.alloc (.cells #[.int .i64 x.1, .int .i64 x.2.1, .int .i64 x.2.2.1, .string x.2.2.2] 41)) from
    ⟨(Y0.out.kept hk1 (by omega)).next (below_alloc1 w1 _), bx_new w1 _ _, hs1.below (below_alloc1 w1 _), (K0.out.trans hk1).alloc _, by omega, by omega, by omega, Nat.le_refl _, by omega⟩)
  clear hs1 hk1 Y0 K0 S0
  go_wp2_with fail
  generalize w1.alloc (.cells #[.int .i64 x.1, .int .i64 x.2.1, .int .i64 x.2.2.1, .string x.2.2.2] 41) = W1 at *
  generalize w1.heap.size = n at *
  refine (one_any b a len cap 6 W1 ST1.out.src (HR.out.kept ST1.out.kept) (by omega) (by omega)).mono ?_
  rintro e w2 ⟨bb, rfl, hs2, hk2⟩
  have ST2 := Lib.hid (ST1.out.keep hk2 hs2)
  clear hs2 hk2 ST1
  cases bb with
  | false =>
    go_wp2_with fail
    refine (one_any b a len cap 10 _ ST2.out.src (HR.out.kept ST2.out.kept) (by omega) (by omega)).mono ?_
    rintro e w4 ⟨cc, rfl, hs4, hk4⟩
    have T4 := Lib.hid (ST2.out.keep hk4 hs4)
    clear hs4 hk4 ST2
    cases cc with
    | false =>
      obtain ⟨⟨r0, r1, r2, r3⟩, s0, s1, s2, s3⟩ := T4.out.ans.cf4
      obtain ⟨⟨u0, u1, u2, u3⟩, v0, v1, v2, v3⟩ := T4.out.box.cf4
      go_wp2_with fail
      refine bodyPost_ret (v := stpV (x.1, x.2.1, x.2.2.1, x.2.2.2)) (by simp [stpV, results, Tryd.results75, go_sem, r0, r1, r2, r3]) rfl ⟨(x.1, x.2.1, x.2.2.1, x.2.2.2), hx, rfl, ?_⟩
      exact T4.out.fin _ _ _ _
    | true =>
      go_wp2_with fail
      refine (n_any b a len cap 5 _ T4.out.src (HR.out.kept T4.out.kept) (by omega) (by omega)).mono ?_
      rintro e w5 ⟨y, ⟨hy0, hy1⟩, rfl, hs5, hk5⟩
      have T5 := Lib.hid (T4.out.keep hk5 hs5)
      clear hs5 hk5 T4
      have hy : y = 0 ∨ y = 1 ∨ y = 2 ∨ y = 3 ∨ y = 4 := by omega
      clear hy0 hy1
      rcases hy with rfl | rfl | rfl | rfl | rfl
      · go_wp2_with fail
        refine (n_any b a len cap 7 _ T5.out.src (HR.out.kept T5.out.kept) (by omega) (by omega)).mono ?_
        rintro e w6 ⟨z, -, rfl, hs6, hk6⟩
        have T6 := Lib.hid (T5.out.keep hk6 hs6)
        obtain ⟨⟨q0, q1, q2, q3⟩, t0, t1, t2, t3⟩ := T6.out.box.cf4
        have T7 := Lib.hid (T6.out.set0 z)
        clear hs6 hk6
        obtain ⟨⟨r0, r1, r2, r3⟩, s0, s1, s2, s3⟩ := T7.out.ans.cf4
        obtain ⟨⟨u0, u1, u2, u3⟩, v0, v1, v2, v3⟩ := T7.out.box.cf4
        go_wp2_with fail
        refine bodyPost_ret (v := stpV (z, x.2.1, x.2.2.1, x.2.2.2)) (by simp [stpV, results, Tryd.results75, go_sem, r0, r1, r2, r3]) rfl ⟨(z, x.2.1, x.2.2.1, x.2.2.2), hx, rfl, ?_⟩
        exact T7.out.fin _ _ _ _
      · have T6 := Lib.hid (T5.out.next (below_alloc1 w5 (.cells #[.int .i64 (-1), .int .i64 7, .int .i64 8] 2)))
        have BX := Lib.hid (bx_new w5 2 #[.int .i64 (-1), .int .i64 7, .int .i64 8])
        have hgb : w5.heap.size ≠ b := by have := T5.out.src.lt; omega
        go_wp2_with fail
        generalize w5.alloc (.cells #[.int .i64 (-1), .int .i64 7, .int .i64 8] 2) = W6 at *
        generalize w5.heap.size = g5 at *
        refine (n_any b a len cap 3 _ T6.out.src (HR.out.kept T6.out.kept) (by omega) (by omega)).mono ?_
        rintro e w7 ⟨v, ⟨hv0, hv1⟩, rfl, hs7, hk7⟩
        obtain ⟨j, rfl⟩ := Int.eq_ofNat_of_zero_le hv0
        obtain ⟨zz, hzz⟩ := ints3 (-1) (7) (8) j (by omega)
        have hcell := (BX.out.kept hk7 hgb).cell j
        rw [hzz] at hcell
        have T7 := Lib.hid (T6.out.keep hk7 hs7)
        obtain ⟨⟨q0, q1, q2, q3⟩, t0, t1, t2, t3⟩ := T7.out.box.cf4
        have T8 := Lib.hid (T7.out.set1 zz)
        clear hs7 hk7 hzz BX
        obtain ⟨⟨r0, r1, r2, r3⟩, s0, s1, s2, s3⟩ := T8.out.ans.cf4
        obtain ⟨⟨u0, u1, u2, u3⟩, v0, v1, v2, v3⟩ := T8.out.box.cf4
        go_wp2_with fail
        refine bodyPost_ret (v := stpV (x.1, zz, x.2.2.1, x.2.2.2)) (by simp [stpV, results, Tryd.results75, go_sem, r0, r1, r2, r3]) rfl ⟨(x.1, zz, x.2.2.1, x.2.2.2), hx, rfl, ?_⟩
        exact T8.out.fin _ _ _ _
      · have T6 := Lib.hid (T5.out.next (below_alloc1 w5 (.cells #[.int .i64 (-1), .int .i64 7, .int .i64 8, .int .i64 1000000, .int .i64 1000001] 2)))
        have BX := Lib.hid (bx_new w5 2 #[.int .i64 (-1), .int .i64 7, .int .i64 8, .int .i64 1000000, .int .i64 1000001])
        have hgb : w5.heap.size ≠ b := by have := T5.out.src.lt; omega
        go_wp2_with fail
        generalize w5.alloc (.cells #[.int .i64 (-1), .int .i64 7, .int .i64 8, .int .i64 1000000, .int .i64 1000001] 2) = W6 at *
        generalize w5.heap.size = g5 at *
        refine (n_any b a len cap 5 _ T6.out.src (HR.out.kept T6.out.kept) (by omega) (by omega)).mono ?_
        rintro e w7 ⟨v, ⟨hv0, hv1⟩, rfl, hs7, hk7⟩
        obtain ⟨j, rfl⟩ := Int.eq_ofNat_of_zero_le hv0
        obtain ⟨zz, hzz⟩ := ints5 (-1) (7) (8) (1000000) (1000001) j (by omega)
        have hcell := (BX.out.kept hk7 hgb).cell j
        rw [hzz] at hcell
        have T7 := Lib.hid (T6.out.keep hk7 hs7)
        obtain ⟨⟨q0, q1, q2, q3⟩, t0, t1, t2, t3⟩ := T7.out.box.cf4
        have T8 := Lib.hid (T7.out.set2 zz)
        clear hs7 hk7 hzz BX
        obtain ⟨⟨r0, r1, r2, r3⟩, s0, s1, s2, s3⟩ := T8.out.ans.cf4
        obtain ⟨⟨u0, u1, u2, u3⟩, v0, v1, v2, v3⟩ := T8.out.box.cf4
        go_wp2_with fail
        refine bodyPost_ret (v := stpV (x.1, x.2.1, zz, x.2.2.2)) (by simp [stpV, results, Tryd.results75, go_sem, r0, r1, r2, r3]) rfl ⟨(x.1, x.2.1, zz, x.2.2.2), hx, rfl, ?_⟩
        exact T8.out.fin _ _ _ _
      · go_wp2_with fail
        refine (n_any b a len cap 3 _ T5.out.src (HR.out.kept T5.out.kept) (by omega) (by omega)).mono ?_
        rintro e w6 ⟨v, ⟨hv0, hv1⟩, rfl, hs6, hk6⟩
        obtain ⟨j, rfl⟩ := Int.eq_ofNat_of_zero_le hv0
        have T6 := Lib.hid (T5.out.keep hk6 hs6)
        have hw : wrap64 (7 + (j : Int)) = ((7 + j : Nat) : Int) := by rw [IntWalk.wrap64_in _ (by omega)]; omega
        clear hs6 hk6
        go_wp2_with fail
        refine (bytes_any b a len cap (7 + j) _ T6.out.src (HR.out.kept T6.out.kept) (by omega)).mono ?_
        rintro e w7 ⟨d, hd, rfl, hs7, hk7⟩
        have T7 := Lib.hid (T6.out.keep hk7 hs7)
        obtain ⟨⟨q0, q1, q2, q3⟩, t0, t1, t2, t3⟩ := T7.out.box.cf4
        have T8 := Lib.hid (T7.out.set3 d)
        clear hs7 hk7 hw
        obtain ⟨⟨r0, r1, r2, r3⟩, s0, s1, s2, s3⟩ := T8.out.ans.cf4
        obtain ⟨⟨u0, u1, u2, u3⟩, v0, v1, v2, v3⟩ := T8.out.box.cf4
        go_wp2_with fail
        refine bodyPost_ret (v := stpV (x.1, x.2.1, x.2.2.1, d)) (by simp [stpV, results, Tryd.results75, go_sem, r0, r1, r2, r3]) rfl ⟨(x.1, x.2.1, x.2.2.1, d), by simp only; omega, rfl, ?_⟩
        exact T8.out.fin _ _ _ _
      · obtain ⟨⟨q0, q1, q2, q3⟩, t0, t1, t2, t3⟩ := T5.out.box.cf4
        have T8 := Lib.hid (T5.out.set3 ⟨#[]⟩)
        obtain ⟨⟨r0, r1, r2, r3⟩, s0, s1, s2, s3⟩ := T8.out.ans.cf4
        obtain ⟨⟨u0, u1, u2, u3⟩, v0, v1, v2, v3⟩ := T8.out.box.cf4
        go_wp2_with fail
        refine bodyPost_ret (v := stpV (x.1, x.2.1, x.2.2.1, ⟨#[]⟩)) (by simp [stpV, results, Tryd.results75, go_sem, r0, r1, r2, r3]) rfl ⟨(x.1, x.2.1, x.2.2.1, ⟨#[]⟩), Nat.zero_le _, rfl, ?_⟩
        exact T8.out.fin _ _ _ _
  | true =>
    go_wp2_with fail
    refine (n_any b a len cap 9 _ ST2.out.src (HR.out.kept ST2.out.kept) (by omega) (by omega)).mono ?_
    rintro e w3 ⟨f, -, rfl, hs3, hk3⟩
    have ST3 := Lib.hid (ST2.out.keep hk3 hs3)
    obtain ⟨⟨q0, q1, q2, q3⟩, t0, t1, t2, t3⟩ := ST3.out.box.cf4
    have ST4 := Lib.hid (ST3.out.all (5, 0, f, ⟨#[]⟩))
    clear hs3 hk3 ST2
    go_wp2_with fail
    clear q0 q1 q2 q3 t0 t1 t2 t3
    refine (one_any b a len cap 10 _ ST4.out.src (HR.out.kept ST4.out.kept) (by omega) (by omega)).mono ?_
    rintro e w4 ⟨cc, rfl, hs4, hk4⟩
    have T4 := Lib.hid (ST4.out.keep hk4 hs4)
    clear hs4 hk4 ST4
    cases cc with
    | false =>
      obtain ⟨⟨r0, r1, r2, r3⟩, s0, s1, s2, s3⟩ := T4.out.ans.cf4
      obtain ⟨⟨u0, u1, u2, u3⟩, v0, v1, v2, v3⟩ := T4.out.box.cf4
      go_wp2_with fail
      refine bodyPost_ret (v := stpV (5, 0, f, ⟨#[]⟩)) (by simp [stpV, results, Tryd.results75, go_sem, r0, r1, r2, r3]) rfl ⟨(5, 0, f, ⟨#[]⟩), Nat.zero_le _, rfl, ?_⟩
      exact T4.out.fin _ _ _ _
    | true =>
      go_wp2_with fail
      refine (n_any b a len cap 5 _ T4.out.src (HR.out.kept T4.out.kept) (by omega) (by omega)).mono ?_
      rintro e w5 ⟨y, ⟨hy0, hy1⟩, rfl, hs5, hk5⟩
      have T5 := Lib.hid (T4.out.keep hk5 hs5)
      clear hs5 hk5 T4
      have hy : y = 0 ∨ y = 1 ∨ y = 2 ∨ y = 3 ∨ y = 4 := by omega
      clear hy0 hy1
      rcases hy with rfl | rfl | rfl | rfl | rfl
      · go_wp2_with fail
        refine (n_any b a len cap 7 _ T5.out.src (HR.out.kept T5.out.kept) (by omega) (by omega)).mono ?_
        rintro e w6 ⟨z, -, rfl, hs6, hk6⟩
        have T6 := Lib.hid (T5.out.keep hk6 hs6)
        obtain ⟨⟨q0, q1, q2, q3⟩, t0, t1, t2, t3⟩ := T6.out.box.cf4
        have T7 := Lib.hid (T6.out.set0 z)
        clear hs6 hk6
        obtain ⟨⟨r0, r1, r2, r3⟩, s0, s1, s2, s3⟩ := T7.out.ans.cf4
        obtain ⟨⟨u0, u1, u2, u3⟩, v0, v1, v2, v3⟩ := T7.out.box.cf4
        go_wp2_with fail
        refine bodyPost_ret (v := stpV (z, 0, f, ⟨#[]⟩)) (by simp [stpV, results, Tryd.results75, go_sem, r0, r1, r2, r3]) rfl ⟨(z, 0, f, ⟨#[]⟩), Nat.zero_le _, rfl, ?_⟩
        exact T7.out.fin _ _ _ _
      · have T6 := Lib.hid (T5.out.next (below_alloc1 w5 (.cells #[.int .i64 (-1), .int .i64 7, .int .i64 8] 2)))
        have BX := Lib.hid (bx_new w5 2 #[.int .i64 (-1), .int .i64 7, .int .i64 8])
        have hgb : w5.heap.size ≠ b := by have := T5.out.src.lt; omega
        go_wp2_with fail
        generalize w5.alloc (.cells #[.int .i64 (-1), .int .i64 7, .int .i64 8] 2) = W6 at *
        generalize w5.heap.size = g5 at *
        refine (n_any b a len cap 3 _ T6.out.src (HR.out.kept T6.out.kept) (by omega) (by omega)).mono ?_
        rintro e w7 ⟨v, ⟨hv0, hv1⟩, rfl, hs7, hk7⟩
        obtain ⟨j, rfl⟩ := Int.eq_ofNat_of_zero_le hv0
        obtain ⟨zz, hzz⟩ := ints3 (-1) (7) (8) j (by omega)
        have hcell := (BX.out.kept hk7 hgb).cell j
        rw [hzz] at hcell
        have T7 := Lib.hid (T6.out.keep hk7 hs7)
        obtain ⟨⟨q0, q1, q2, q3⟩, t0, t1, t2, t3⟩ := T7.out.box.cf4
        have T8 := Lib.hid (T7.out.set1 zz)
        clear hs7 hk7 hzz BX
        obtain ⟨⟨r0, r1, r2, r3⟩, s0, s1, s2, s3⟩ := T8.out.ans.cf4
        obtain ⟨⟨u0, u1, u2, u3⟩, v0, v1, v2, v3⟩ := T8.out.box.cf4
        go_wp2_with fail
        refine bodyPost_ret (v := stpV (5, zz, f, ⟨#[]⟩)) (by simp [stpV, results, Tryd.results75, go_sem, r0, r1, r2, r3]) rfl ⟨(5, zz, f, ⟨#[]⟩), Nat.zero_le _, rfl, ?_⟩
        exact T8.out.fin _ _ _ _
      · have T6 := Lib.hid (T5.out.next (below_alloc1 w5 (.cells #[.int .i64 (-1), .int .i64 7, .int .i64 8, .int .i64 1000000, .int .i64 1000001] 2)))
        have BX := Lib.hid (bx_new w5 2 #[.int .i64 (-1), .int .i64 7, .int .i64 8, .int .i64 1000000, .int .i64 1000001])
        have hgb : w5.heap.size ≠ b := by have := T5.out.src.lt; omega
        go_wp2_with fail
        generalize w5.alloc (.cells #[.int .i64 (-1), .int .i64 7, .int .i64 8, .int .i64 1000000, .int .i64 1000001] 2) = W6 at *
        generalize w5.heap.size = g5 at *
        refine (n_any b a len cap 5 _ T6.out.src (HR.out.kept T6.out.kept) (by omega) (by omega)).mono ?_
        rintro e w7 ⟨v, ⟨hv0, hv1⟩, rfl, hs7, hk7⟩
        obtain ⟨j, rfl⟩ := Int.eq_ofNat_of_zero_le hv0
        obtain ⟨zz, hzz⟩ := ints5 (-1) (7) (8) (1000000) (1000001) j (by omega)
        have hcell := (BX.out.kept hk7 hgb).cell j
        rw [hzz] at hcell
        have T7 := Lib.hid (T6.out.keep hk7 hs7)
        obtain ⟨⟨q0, q1, q2, q3⟩, t0, t1, t2, t3⟩ := T7.out.box.cf4
        have T8 := Lib.hid (T7.out.set2 zz)
        clear hs7 hk7 hzz BX
        obtain ⟨⟨r0, r1, r2, r3⟩, s0, s1, s2, s3⟩ := T8.out.ans.cf4
        obtain ⟨⟨u0, u1, u2, u3⟩, v0, v1, v2, v3⟩ := T8.out.box.cf4
        go_wp2_with fail
        refine bodyPost_ret (v := stpV (5, 0, zz, ⟨#[]⟩)) (by simp [stpV, results, Tryd.results75, go_sem, r0, r1, r2, r3]) rfl ⟨(5, 0, zz, ⟨#[]⟩), Nat.zero_le _, rfl, ?_⟩
        exact T8.out.fin _ _ _ _
      · go_wp2_with fail
        refine (n_any b a len cap 3 _ T5.out.src (HR.out.kept T5.out.kept) (by omega) (by omega)).mono ?_
        rintro e w6 ⟨v, ⟨hv0, hv1⟩, rfl, hs6, hk6⟩
        obtain ⟨j, rfl⟩ := Int.eq_ofNat_of_zero_le hv0
        have T6 := Lib.hid (T5.out.keep hk6 hs6)
        have hw : wrap64 (7 + (j : Int)) = ((7 + j : Nat) : Int) := by rw [IntWalk.wrap64_in _ (by omega)]; omega
        clear hs6 hk6
        go_wp2_with fail
        refine (bytes_any b a len cap (7 + j) _ T6.out.src (HR.out.kept T6.out.kept) (by omega)).mono ?_
        rintro e w7 ⟨d, hd, rfl, hs7, hk7⟩
        have T7 := Lib.hid (T6.out.keep hk7 hs7)
        obtain ⟨⟨q0, q1, q2, q3⟩, t0, t1, t2, t3⟩ := T7.out.box.cf4
        have T8 := Lib.hid (T7.out.set3 d)
        clear hs7 hk7 hw
        obtain ⟨⟨r0, r1, r2, r3⟩, s0, s1, s2, s3⟩ := T8.out.ans.cf4
        obtain ⟨⟨u0, u1, u2, u3⟩, v0, v1, v2, v3⟩ := T8.out.box.cf4
        go_wp2_with fail
        refine bodyPost_ret (v := stpV (5, 0, f, d)) (by simp [stpV, results, Tryd.results75, go_sem, r0, r1, r2, r3]) rfl ⟨(5, 0, f, d), by simp only; omega, rfl, ?_⟩
        exact T8.out.fin _ _ _ _
      · obtain ⟨⟨q0, q1, q2, q3⟩, t0, t1, t2, t3⟩ := T5.out.box.cf4
        have T8 := Lib.hid (T5.out.set3 ⟨#[]⟩)
        obtain ⟨⟨r0, r1, r2, r3⟩, s0, s1, s2, s3⟩ := T8.out.ans.cf4
        obtain ⟨⟨u0, u1, u2, u3⟩, v0, v1, v2, v3⟩ := T8.out.box.cf4
        go_wp2_with fail
        refine bodyPost_ret (v := stpV (5, 0, f, ⟨#[]⟩)) (by simp [stpV, results, Tryd.results75, go_sem, r0, r1, r2, r3]) rfl ⟨(5, 0, f, ⟨#[]⟩), Nat.zero_le _, rfl, ?_⟩
        exact T8.out.fin _ _ _ _
end Go.Proofs.YthkbllkhomjmbaaDoor

namespace Go.Proofs.YthkbllkhomjmbaaDoor
open Go.RowKit

set_option maxRecDepth 100000 in
/-- A number below most, also where there is one alone. -/
theorem n_any1 (b : Nat) (a : Option Addr) (len cap : Nat) (most : Nat) (w : World) (hS : Src w b a len cap) (hR : Row w a len b) (h1 : 1 ≤ most) (h2 : most ≤ 1000000) :
    Calls Tryd.prog 64 #[.pointer (some ⟨b, 0, none⟩), .int .i64 (most : Int)] w fun e w' => ∃ j : Nat, j < most ∧ e = .returned (.int .i64 (j : Int)) ∧ Src w' b a len cap ∧ Kept b w w' := by
  by_cases h : most = 1
  · subst h
    have HS := Lib.hid hS
    clear hS hR
    go_enter Tryd.func64, Tryd.ntmps64
    go_wp2_with fail
    go_ret
    exact ⟨0, by omega, rfl, HS.out, Kept.refl _ _⟩
  · refine (n_any b a len cap (most : Int) w hS hR (by omega) (by omega)).mono ?_
    rintro e w1 ⟨v, ⟨h0, h1⟩, rfl, hs, hk⟩
    obtain ⟨j, rfl⟩ := Int.eq_ofNat_of_zero_le h0
    exact ⟨j, by omega, rfl, hs, hk⟩
theorem spoilByte (k : Nat) (h : k < 17) : ∃ z : UInt8, ∀ w : World, (Instr.index 9 (.string ⟨#[32, 10, 48, 97, 45, 110, 44, 58, 93, 255, 40, 120, 126, 49, 128, 225, 59]⟩) (.int .i64 (k : Int))).run Tryd.prog w = .ok (.int .u8 (z.toNat : Int)) w := by
  have : k = 0 ∨ k = 1 ∨ k = 2 ∨ k = 3 ∨ k = 4 ∨ k = 5 ∨ k = 6 ∨ k = 7 ∨ k = 8 ∨ k = 9 ∨ k = 10 ∨ k = 11 ∨ k = 12 ∨ k = 13 ∨ k = 14 ∨ k = 15 ∨ k = 16 := by omega
  rcases this with rfl | rfl | rfl | rfl | rfl | rfl | rfl | rfl | rfl | rfl | rfl | rfl | rfl | rfl | rfl | rfl | rfl
  · exact ⟨32, fun w => by kernel_rfl⟩
  · exact ⟨10, fun w => by kernel_rfl⟩
  · exact ⟨48, fun w => by kernel_rfl⟩
  · exact ⟨97, fun w => by kernel_rfl⟩
  · exact ⟨45, fun w => by kernel_rfl⟩
  · exact ⟨110, fun w => by kernel_rfl⟩
  · exact ⟨44, fun w => by kernel_rfl⟩
  · exact ⟨58, fun w => by kernel_rfl⟩
  · exact ⟨93, fun w => by kernel_rfl⟩
  · exact ⟨255, fun w => by kernel_rfl⟩
  · exact ⟨40, fun w => by kernel_rfl⟩
  · exact ⟨120, fun w => by kernel_rfl⟩
  · exact ⟨126, fun w => by kernel_rfl⟩
  · exact ⟨49, fun w => by kernel_rfl⟩
  · exact ⟨128, fun w => by kernel_rfl⟩
  · exact ⟨225, fun w => by kernel_rfl⟩
  · exact ⟨59, fun w => by kernel_rfl⟩
def DrawnT (b : Nat) (a : Option Addr) (len cap : Nat) (m : Nat) (w : World) (e : Ending) (w' : World) : Prop :=
  ∃ s : ByteArray, s.size ≤ m ∧ e = .returned (.string s) ∧ Src w' b a len cap ∧ Kept b w w'
set_option maxRecDepth 100000 in
set_option maxHeartbeats 4000000 in
theorem spoil_any (b : Nat) (a : Option Addr) (len cap : Nat) (s : ByteArray) (w : World) (hS : Src w b a len cap) (hR : Row w a len b) (hs : s.size ≤ 1000) :
    Calls Tryd.prog 76 #[.pointer (some ⟨b, 0, none⟩), .string s] w (DrawnT b a len cap 1001 w) := by
  have hbl := hS.lt
  have HC := Lib.hid (n_any1 b a len cap (s.size + 1) w hS hR (by omega) (by omega))
  have HR := Lib.hid hR
  clear hS hR
  have m0 : wrap64 ((s.size : Int) + 1) = ((s.size + 1 : Nat) : Int) := by rw [IntWalk.wrap64_in _ (by omega)]; omega
  go_enter Tryd.func76, Tryd.ntmps76
  go_wp2_with fail
  refine HC.out.mono ?_
  rintro e w1 ⟨k, hk, rfl, hs1, hk1⟩
  have S1 := Lib.hid hs1
  have K1 := Lib.hid hk1
  clear hs1 hk1 HC m0
  go_wp2_with fail
  refine (n_any1 b a len cap 17 w1 S1.out (HR.out.kept K1.out) (by omega) (by omega)).mono ?_
  rintro e w2 ⟨v, hv, rfl, hs2, hk2⟩
  obtain ⟨z, hz⟩ := spoilByte v hv
  have S2 := Lib.hid (hs2.below (below_alloc1 w2 (.cells #[.int .u8 (z.toNat : Int)] 5)))
  have K2 := Lib.hid ((K1.out.trans hk2).alloc (.cells #[.int .u8 (z.toNat : Int)] 5))
  have conv := conv_block (c := 1) (w := w2.alloc (.cells #[.int .u8 (z.toNat : Int)] 5)) (g := w2.heap.size) (e := 5) (xs := [.int .u8 (z.toNat : Int)]) (heap_alloc_new w2 _) [z] 1 rfl rfl
  obtain ⟨c, hc⟩ : ∃ c : ByteArray, c = ⟨[z].toArray⟩ := ⟨_, rfl⟩
  have hcs : c.size = 1 := by rw [hc]; rfl
  rw [← hc] at conv
  clear hs2 hk2 S1 K1 hc
  have e0 : (0 : Int) ≤ (k : Int) := by omega
  have e1 : (k : Int) ≤ (s.size : Int) := by omega
  by_cases hks : k = s.size
  · have e2 : ((k : Int) == (s.size : Int)) = true := by simp; omega
    clear hks
    go_wp2_with fail
    go_quiet (fail)
    go_wp2_with fail
    go_ret
    exact ⟨_, by simp [ByteArray.size_append, ByteArray.size_extract]; omega, rfl, S2.out, K2.out.drewN _⟩
  have e2 : ((k : Int) == (s.size : Int)) = false := by simp; omega
  go_wp2_with fail
  refine (one_any b a len cap 3 _ S2.out (HR.out.kept K2.out) (by omega) (by omega)).mono ?_
  rintro e w3 ⟨bb, rfl, hs3, hk3⟩
  have S3 := Lib.hid hs3
  have K3 := Lib.hid (K2.out.trans hk3)
  clear hs3 hk3 S2 K2 conv
  cases bb with
  | true =>
    go_wp2_with fail
    go_quiet (fail)
    go_wp2_with fail
    go_ret
    exact ⟨_, by simp [ByteArray.size_append, ByteArray.size_extract]; omega, rfl, S3.out, K3.out.drewN _⟩
  | false =>
    go_wp2_with fail
    refine (one_any b a len cap 2 _ S3.out (HR.out.kept K3.out) (by omega) (by omega)).mono ?_
    rintro e w4 ⟨cc, rfl, hs4, hk4⟩
    have S4 := Lib.hid hs4
    have K4 := Lib.hid (K3.out.trans hk4)
    have m1 : wrap64 ((k : Int) + 1) = (k : Int) + 1 := IntWalk.wrap64_in _ (by omega)
    have m2 : IntKind.i64.wrap ((k : Int) + 1) = (k : Int) + 1 := IntWalk.i64_in _ (by omega)
    have e3 : (0 : Int) ≤ (k : Int) + 1 := by omega
    have e4 : (k : Int) + 1 ≤ (s.size : Int) := by omega
    clear hs4 hk4 S3 K3
    cases cc with
    | true =>
      go_wp2_with fail
      go_quiet (fail)
      go_wp2_with fail
      go_ret
      exact ⟨_, by simp [ByteArray.size_append, ByteArray.size_extract]; omega, rfl, S4.out, K4.out.drewN _⟩
    | false =>
      go_wp2_with fail
      go_quiet (fail)
      go_wp2_with fail
      go_ret
      exact ⟨_, by simp [ByteArray.size_append, ByteArray.size_extract]; omega, rfl, S4.out, K4.out.drewN _⟩
end Go.Proofs.YthkbllkhomjmbaaDoor
