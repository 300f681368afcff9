/- Ground texts of this claim, in one. -/
import Derived.Test.YthkbllkhomjmbaaGreatDoorSRead
import Derived.Test.YthkbllkhomjmbaaGreatDoorBDraw4
import Derived.Test.YthkbllkhomjmbaaGreatDoorBDraw6
import Derived.Test.YthkbllkhomjmbaaGreatDoorBDraw3
import Derived.Test.YthkbllkhomjmbaaGreatDoorDraws
import Derived.Test.YthkbllkhomjmbaaGreatDoorBase
import Derived.Test.YthkbllkhomjmbaaGreatDoorJoin
import Derived.Test.YthkbllkhomjmbaaGreatDoorText
import Derived.Test.YthkbllkhomjmbaaGreatDoorSRight
import Derived.Test.YthkbllkhomjmbaaGreatDoorBCodeM
import Derived.Test.YthkbllkhomjmbaaGreatDoorBBytes
import Derived.Test.YthkbllkhomjmbaaGreatDoorCat
import Derived.Test.YthkbllkhomjmbaaGreatDoorBIRight
import Derived.Deep.RegionHeld3
import Derived.Deep.DrawnRows
import Derived.Test.YthkbllkhomjmbaaGreatDoorSource
import Derived.Test.YthkbllkhomjmbaaGreatDoorLStep
import Derived.Deep.QuietTactic
import Derived.BigQuiet
import Derived.Lib.Zigzag
import Derived.Laws.Bits64b
import Derived.Test.YthkbllkhomjmbaaGreatDoorVar
import Derived.Test.YthkbllkhomjmbaaGreatDoorRows
import Derived.WalkKit
import Derived.WalkSpells
import Derived.WalkLawsBesides
import Derived.Lib.Hide
import Derived.ScopeJumps
import Derived.WalkMore
import Derived.LaidEql
import Derived.Stop.Asserts
import Derived.RowKitTokens
namespace Go.Proofs.YthkbllkhomjmbaaGreatDoor
open Go.RowKit

/-- 'append([]T{}, src...)' outside a drawn region. -/
theorem wpList_append_copy {P : Program} (w : World) {ops : Array Oper} {rest : List Oper} {o : Oper} {a : Act} {Q : Exit → Act → World → Prop} (hg : o.guard = none) (s x : Operand) (t : TypeId)
    (hop : o.op = Op.call { callee := Callee.builtin Builtin.append, args := #[s, x], argTypes := #[t, t] })
    (e : TypeId) (i : TypeInfo) (z : Value) (sz bytes : Nat) (ht : P.underlying t = some (.slice e)) (hi : P.info? e = some i) (hz : i.zero = some z) (hsize : i.size = sz) (hby : i.bytes = bytes) (hzs : z.cells.size = sz) (hsz : 0 < sz)
    (g : Addr) (hs : a.eval s = .slice (some g) 0 0) (src : Value) (hx : a.eval x = src) (n : Nat) (xs : List Value) (hr : Rd w src n sz xs) (h63 : n ≤ maxLen) (hbytes : n * bytes ≤ 140737488355328)
    (hK : ∀ ad cap w', Own w' w.heap.size (.slice ad n cap) n sz xs → Below w.heap.size w w' → wpList P ops Q rest (a.put o.dst (.slice ad n cap)) w') :
    wpList P ops Q (o :: rest) a w := by
  refine wpList_plain hg fun K hK' => ?_
  obtain ⟨v', w', hrun, h1, h2⟩ := run_append_copy (P := P) w t o.type e i z sz bytes ht hi hz hsize hby hzs hsz g src n xs hr h63 hbytes
  obtain ⟨ad, cap, rfl, _⟩ := id h1.2
  unfold Oper.wp
  simp [execOp, hop, resolve, invoke, builtin, hs, hx, hrun, Result.andThen]
  exact hK' _ _ (hK ad cap w' h1 ⟨h2.os, h2.tape, h2.output, h2.size, fun k hk => h2.block k hk (by simp)⟩)

def syncL (sec : List ByteArray) (dir : List D) : List ByteArray := dir.foldl (fun s d => s.set d.1.toNat d.2) sec
theorem syncL_length (dir : List D) : ∀ sec : List ByteArray, (syncL sec dir).length = sec.length := by
  induction dir with
  | nil => intro sec; rfl
  | cons d dir ih => intro sec; exact (ih _).trans (by simp)
theorem syncL_step (sec : List ByteArray) (dir : List D) (k : Nat) (h : k < dir.length) : syncL sec (dir.take (k + 1)) = (syncL sec (dir.take k)).set dir[k].1.toNat dir[k].2 := by
  unfold syncL
  rw [List.take_succ_eq_append_getElem h, List.foldl_append]
  rfl
theorem strs_set (l : List ByteArray) (i : Nat) (x : ByteArray) : strs (l.set i x) = (strs l).set i (.string x) := by simp [strs, List.map_set]
def syncOf (F : FM) : FM := ⟨syncL F.sec F.dir, []⟩
theorem grown_drew {w w' : World} {r : Option Nat} (h : w.grownBy w' r) : w.grownBy w'.drew r := ⟨h.os, h.tape, h.output, h.size, h.block⟩
theorem grown_keeps {w w' : World} {b k : Nat} (h : w.grownBy w' (some b)) (hk : k < w.heap.size) (hne : k ≠ b) (j : Nat) : w'.cell? ⟨k, j, none⟩ = w.cell? ⟨k, j, none⟩ ∧ w'.frozen? ⟨k, j, none⟩ = w.frozen? ⟨k, j, none⟩ := by
  have e := h.block k hk (by simp; omega)
  exact ⟨by simp only [World.cell?, e], by simp only [World.frozen?, e]⟩
def SyncRel (F : FM) (W : World) (lo b off cap : Nat) (i : Value) (wr : World) : Prop :=
  ∃ k : Nat, k ≤ F.dir.length ∧ i = .int .i64 k ∧ Own wr lo (.slice (some ⟨b, off, none⟩) F.sec.length cap) F.sec.length 1 (strs (syncL F.sec (F.dir.take k))) ∧ W.grownBy wr (some b)

end Go.Proofs.YthkbllkhomjmbaaGreatDoor

namespace Go.Proofs.YthkbllkhomjmbaaGreatDoor
open Go.RowKit

/-- A drawn image: of the call's own since w; the source lies in block b. -/
structure ZSt (b : Nat) (a : Option Addr) (len cap : Nat) (w : World) (l : List ByteArray) (v : Value) (wr : World) : Prop where
  gr : Gr wr w.heap.size 9 1 v l.length (strs l)
  src : Src wr b a len cap
  kept : Kept b w wr
  small : ∀ s ∈ l, s.size ≤ 10
section
variable {b : Nat} {a : Option Addr} {len cap : Nat} {w : World} {l : List ByteArray} {v : Value} {w1 w2 : World}
theorem ZSt.keep (h : ZSt b a len cap w l v w1) (hk : Kept b w1 w2) (hs : Src w2 b a len cap) (hb : b < w.heap.size) : ZSt b a len cap w l v w2 :=
  ⟨h.gr.kept hk hb, hs, h.kept.trans hk, h.small⟩
theorem ZSt.next (h : ZSt b a len cap w l v w1) (hb2 : Below w1.heap.size w1 w2) (hb : b < w.heap.size) : ZSt b a len cap w l v w2 :=
  h.keep (below_kept hb2) (h.src.below hb2) hb
theorem strs_snoc (l : List ByteArray) (x : ByteArray) : strs (l ++ [x]) = strs l ++ [.string x] := by simp [strs]
theorem ZSt.grow (h : ZSt b a len cap w l v w1) (hb : b < w.heap.size) (x : ByteArray) (hx : x.size ≤ 10) (g c : Nat)
    (hg : Gr w2 w.heap.size 9 1 (.slice (some ⟨g, 0, none⟩) (l.length + 1) c) (l.length + 1) (strs l ++ [.string x])) (hgr : w1.grownBy w2 (blk v l.length)) : ZSt b a len cap w (l ++ [x]) (.slice (some ⟨g, 0, none⟩) (l ++ [x]).length c) w2 := by
  have hlo : ∀ k, blk v l.length = some k → w.heap.size ≤ k := fun k hk => (h.gr.own.blk k hk).1
  refine ⟨?_, h.src.grown hgr (fun e => by have := hlo b e; omega), ⟨hgr.os.trans h.kept.os, hgr.tape.trans h.kept.tape, hgr.output.trans h.kept.output, Nat.le_trans h.kept.size hgr.size, fun k hk hne => ?_⟩, ?_⟩
  · rw [List.length_append, strs_snoc]; exact hg
  · rw [hgr.block k (Nat.lt_of_lt_of_le hk h.kept.size) (fun e => by have := hlo k e.symm; omega)]
    exact h.kept.block k hk hne
  · intro d hd
    rcases List.mem_append.1 hd with h' | h'
    · exact h.small d h'
    · rw [List.mem_singleton.1 h']; exact hx
theorem ZSt.from (h : ZSt b a len cap w1 l v w2) (hk : Kept b w w1) : ZSt b a len cap w l v w2 := ⟨h.gr.lower hk.size, h.src, hk.trans h.kept, h.small⟩
/-- One block written. -/
theorem ZSt.put {g c : Nat} (h : ZSt b a len cap w l (.slice (some ⟨g, 0, none⟩) l.length c) w1) (hb : b < w.heap.size) (j : Nat) (hj : j < l.length) (x : ByteArray) (hx : x.size ≤ 10) :
    ZSt b a len cap w (l.set j x) (.slice (some ⟨g, 0, none⟩) l.length c) (w1.setCell ⟨g, j, none⟩ (.string x)) := by
  have hg : w.heap.size ≤ g := (h.gr.own.blk g (blk_pos (by omega))).1
  refine ⟨?_, h.src.grown (row := some g) (grown_set (World.grownBy.refl w1 (some g))) (fun e => by have := Option.some.inj e; omega), h.kept.box j (.string x) hg, ?_⟩
  · rw [List.length_set, strs_set]; exact h.gr.set (by omega) j _
  · intro d hd
    rcases List.mem_or_eq_of_mem_set hd with h' | h'
    · exact h.small d h'
    · rw [h']; exact hx
end
theorem one_new (w : World) (x : Value) (t : TypeId) : ∀ j v, [x][j]? = some v → (w.alloc (.cells #[x] t)).cell? ((⟨w.heap.size, 0, none⟩ : Addr).add j) = some v := by
  intro j u hj
  rw [Addr.add_lit, (bx_new w t #[x]).cell]
  simpa using hj
/-- What a draw of an image gives. -/
def DrawnZ (b : Nat) (a : Option Addr) (len cap : Nat) (P : Nat → Prop) (w : World) (e : Ending) (w' : World) : Prop :=
  ∃ l v, P l.length ∧ e = .returned v ∧ ZSt b a len cap w l v w'
def ImRel (b : Nat) (a : Option Addr) (len cap : Nat) (k : Nat) (w : World) (i v : Value) (wr : World) : Prop :=
  ∃ (j : Nat) (l : List ByteArray), i = .int .i64 (j : Int) ∧ l.length + j = k ∧ ZSt b a len cap w l v wr
set_option maxRecDepth 100000 in
set_option maxHeartbeats 4000000 in
theorem image_any (b : Nat) (a : Option Addr) (len cap : Nat) (k : Nat) (hk : k ≤ 9) (w : World) (hS : Src w b a len cap) (hR : Row w a len b) :
    Calls Tryz.prog 93 #[.pointer (some ⟨b, 0, none⟩), .int .i64 (k : Int)] w (DrawnZ b a len cap (fun n => n = k) w) := by
  obtain ⟨i0, hi, hz0, hz1, hz2'⟩ := info_parts Tryz.info9
  have hbl := hS.lt
  have HR := Lib.hid hR
  have ST0 := Lib.hid (show ZSt b a len cap w [] (.slice (some ⟨w.heap.size, 0, none⟩) 0 0) (w.alloc (.cells #[] 9)) from ⟨.inr ⟨rfl, rfl, .inr ⟨_, rfl⟩⟩, hS.below (below_alloc1 w _), below_kept (below_alloc1 w _), by simp⟩)
  clear hS hR
  go_enter Tryz.func93, Tryz.ntmps93
  go_wp2_with fail
  go_loopw [1, 5] (fun i v wr => ImRel b a len cap k w i v wr) (fun i _ _ => (intOf i).toNat)
  case atStart => exact ⟨k, [], rfl, by simp, ST0.out⟩
  case round =>
    clear ST0
    obtain ⟨j, l, rfl, hlen, hst⟩ := hrel
    obtain ⟨x3, c3, rfl⟩ := gr_form hst.gr
    have ST := Lib.hid hst
    clear hst
    by_cases hlt : 0 < j
    · have e0 : (0 : Int) < (j : Int) := by omega
      have m1 : IntKind.i64.wrap ((j : Int) - 1) = (j : Int) - 1 := IntWalk.i64_in _ (by omega)
      have m2 : wrap64 ((j : Int) - 1) = (j : Int) - 1 := IntWalk.wrap64_in _ (by omega)
      go_wp2_with fail
      refine (data_any b a len cap wr ST.out.src (HR.out.kept ST.out.kept)).mono ?_
      rintro e w2 ⟨x, hx, rfl, hs2, hk2⟩
      have S2 := Lib.hid (ST.out.keep hk2 hs2 hbl)
      have hz2 : w.heap.size ≤ w2.heap.size := S2.out.kept.size
      clear hs2 hk2 ST
      go_wp2_with ((with_reducible show wpList _ _ _ (⟨some 15, _, _, _, _, _⟩ :: _) _ _); refine wpList_append_gr (lo := w.heap.size) (e := 9) (sz := 1) (v := .slice x3 l.length c3) (n := l.length) (xs := strs l) rfl (.tmp 11) (.tmp 14) 23 rfl i0 _ 16 Tryz.underlying23 hi hz0 hz1 hz2' rfl (by decide) rfl (by rw [strs_length]; omega) ?_ ⟨w2.heap.size, 0, none⟩ 1 1 rfl [.string x] (by decide) rfl ?_ (fun u hu => by obtain rfl := List.mem_singleton.1 hu; rfl) (by unfold maxLen; omega) (by omega) (by simp; omega) ?_)
      · exact (S2.out.next (below_alloc1 w2 _) hbl).gr
      · exact one_new w2 _ 9
      · intro gg cc w8 hgn hgr hloc
        have S10 := Lib.hid ((S2.out.next (below_alloc1 w2 _) hbl).grow hbl x hx gg cc hgn hgr)
        clear hgn hgr hloc
        go_wp2_with fail
        go_roundw
        case rel => exact ⟨j - 1, l ++ [x], by first | rfl | (congr 1; omega) | (rw [show ((j - 1 : Nat) : Int) = (j : Int) - 1 by omega]), by simp; omega, by have := S10.out; simpa using this⟩
        case measure => simp [intOf]; omega
    · obtain rfl : j = 0 := by omega
      go_wp2_with fail
      go_ret
      exact ⟨l, _, by omega, rfl, ST.out⟩

set_option maxRecDepth 100000 in
set_option maxHeartbeats 4000000 in
theorem oddZ_any (b : Nat) (a : Option Addr) (len cap : Nat) (w : World) (hS : Src w b a len cap) (hR : Row w a len b) :
    Calls Tryz.prog 54 #[.pointer (some ⟨b, 0, none⟩)] w (DrawnZ b a len cap (fun n => n ≤ 9) w) := by
  have hbl := hS.lt
  have HR := Lib.hid hR
  have HS := Lib.hid hS
  clear hS hR
  go_enter Tryz.func54, Tryz.ntmps54
  go_wp2_with fail
  refine (n_any b a len cap 5 w HS.out HR.out (by omega) (by omega)).mono ?_
  rintro e w1 ⟨y, ⟨hy0, hy1⟩, rfl, hs1, hk1⟩
  obtain ⟨n, rfl⟩ := Int.eq_ofNat_of_zero_le hy0
  have K1 := Lib.hid hk1
  have S1 := Lib.hid hs1
  have m0 : wrap64 (1 + (n : Int)) = ((1 + n : Nat) : Int) := by rw [IntWalk.wrap64_in _ (by omega)]; omega
  have m1 : IntKind.i64.wrap (1 + (n : Int)) = ((1 + n : Nat) : Int) := by rw [IntWalk.i64_in _ (by omega)]; omega
  clear hs1 hk1 HS
  go_wp2_with fail
  refine (image_any b a len cap (1 + n) (by omega) w1 S1.out (HR.out.kept K1.out)).mono ?_
  rintro e w2 ⟨l, v, hl, rfl, hst⟩
  obtain ⟨x3, c3, rfl⟩ := gr_form hst.gr
  have ST := Lib.hid (hst.from K1.out)
  have hl1 : 1 ≤ l.length := by omega
  have hl9 : l.length ≤ 5 := by omega
  clear hst S1 K1 m0 m1 hl
  go_wp2_with fail
  refine (one_any b a len cap 12 _ ST.out.src (HR.out.kept ST.out.kept) (by omega) (by omega)).mono ?_
  rintro e w3 ⟨bb, rfl, hs3, hk3⟩
  have ST3 := Lib.hid (ST.out.keep hk3 hs3 hbl)
  clear hs3 hk3 ST
  cases bb with
  | false =>
    go_wp2_with fail
    go_ret
    exact ⟨l, _, by omega, rfl, ST3.out⟩
  | true =>
    go_wp2_with fail
    refine (n_any b a len cap 3 _ ST3.out.src (HR.out.kept ST3.out.kept) (by omega) (by omega)).mono ?_
    rintro e w4 ⟨y, ⟨hq0, hq1⟩, rfl, hs4, hk4⟩
    have ST4 := Lib.hid (ST3.out.keep hk4 hs4 hbl)
    clear hs4 hk4 ST3
    have hy : y = 0 ∨ y = 1 ∨ y = 2 := by omega
    rcases hy with rfl | rfl | rfl
    · go_wp2_with fail
      refine (n_any b a len cap 2 _ ST4.out.src (HR.out.kept ST4.out.kept) (by omega) (by omega)).mono ?_
      rintro e w5 ⟨y, ⟨hr0, hr1⟩, rfl, hs5, hk5⟩
      obtain ⟨r, rfl⟩ := Int.eq_ofNat_of_zero_le hr0
      have ST5 := Lib.hid (ST4.out.keep hk5 hs5 hbl)
      have m0 : wrap64 (2 * (r : Int)) = 2 * (r : Int) := IntWalk.wrap64_in _ (by omega)
      have m1 : IntKind.i64.wrap (2 * (r : Int)) = 2 * (r : Int) := IntWalk.i64_in _ (by omega)
      have m2 : wrap64 (7 + 2 * (r : Int)) = ((7 + 2 * r : Nat) : Int) := by rw [IntWalk.wrap64_in _ (by omega)]; omega
      have m3 : IntKind.i64.wrap (7 + 2 * (r : Int)) = ((7 + 2 * r : Nat) : Int) := by rw [IntWalk.i64_in _ (by omega)]; omega
      clear hs5 hk5 ST4
      go_wp2_with fail
      refine (bytes_any b a len cap (7 + 2 * r) _ ST5.out.src (HR.out.kept ST5.out.kept) (by omega)).mono ?_
      rintro e w6 ⟨s, hs, rfl, hs6, hk6⟩
      have ST6 := Lib.hid (ST5.out.keep hk6 hs6 hbl)
      clear hs6 hk6 ST5 m0 m1 m2 m3
      obtain ⟨g, off, hp, hlo, hgl, hc, hf⟩ := ST6.out.gr.own.get (by omega)
      subst hp
      obtain rfl := ST6.out.gr.at0 (by omega)
      obtain ⟨v0, hv0⟩ : ∃ v0, w6.cell? ⟨g, 0, none⟩ = some v0 := by
        have := hc 0 (by omega)
        rw [List.getElem?_eq_getElem (by rw [strs_length]; omega)] at this
        exact ⟨_, this⟩
      have hf0 : w6.frozen? ⟨g, 0, none⟩ = false := hf 0 (by omega)
      have ST7 := Lib.hid (ST6.out.put hbl 0 (by omega) s (by omega))
      clear hc hf
      go_wp2_with fail
      go_ret
      exact ⟨l.set 0 s, _, by rw [List.length_set]; omega, rfl, ST7.out⟩
    · go_wp2_with fail
      go_ret
      exact ⟨[], _, by simp, rfl, ⟨Gr.nil _ _ _ _, ST4.out.src, ST4.out.kept, by simp⟩⟩
    · go_wp2_with fail
      refine (n_any b a len cap 2 _ ST4.out.src (HR.out.kept ST4.out.kept) (by omega) (by omega)).mono ?_
      rintro e w5 ⟨y, ⟨hr0, hr1⟩, rfl, hs5, hk5⟩
      obtain ⟨r, rfl⟩ := Int.eq_ofNat_of_zero_le hr0
      have ST5 := Lib.hid (ST4.out.keep hk5 hs5 hbl)
      have m2 : wrap64 (8 + (r : Int)) = ((8 + r : Nat) : Int) := by rw [IntWalk.wrap64_in _ (by omega)]; omega
      have m3 : IntKind.i64.wrap (8 + (r : Int)) = ((8 + r : Nat) : Int) := by rw [IntWalk.i64_in _ (by omega)]; omega
      clear hs5 hk5 ST4
      go_wp2_with fail
      refine (image_any b a len cap (8 + r) (by omega) _ ST5.out.src (HR.out.kept ST5.out.kept)).mono ?_
      rintro e w6 ⟨l6, v6, hl6, rfl, hst6⟩
      obtain ⟨x6, c6, rfl⟩ := gr_form hst6.gr
      have ST6 := Lib.hid (hst6.from ST5.out.kept)
      have hl9' : l6.length ≤ 9 := by omega
      clear hst6 ST5 m2 m3 hl6
      go_wp2_with fail
      go_ret
      exact ⟨l6, _, by omega, rfl, ST6.out⟩
end Go.Proofs.YthkbllkhomjmbaaGreatDoor

namespace Go.Proofs.YthkbllkhomjmbaaGreatDoor
open Go.RowKit

theorem stepBs_size (k t f : Int) (d : ByteArray) : (stepBs k t f d).size ≤ 48 := by
  unfold stepBs
  split
  · rename_i h
    obtain ⟨k0, k1, t0, t1, f0, f1, d1⟩ := ok_bounds h
    have z1 := putS_size k (by omega) (by omega)
    have z2 := putS_size t (by omega) (by omega)
    have z3 := putS_size f (by omega) (by omega)
    have z4 := putS_size d.size (by omega) (by omega)
    unfold stepS
    simp only [ByteArray.size_append]
    omega
  · exact Nat.zero_le _
/-- A string drawn from bytes. -/
def DrawnStr (m : Nat) (w : World) (e : Ending) (w' : World) : Prop := ∃ s : ByteArray, s.size ≤ m ∧ e = .returned (.string s) ∧ Below w.heap.size w w'
/-- A step and a number drawn from bytes. -/
def DrawnSN (w : World) (e : Ending) (w' : World) : Prop := ∃ (x : stpT) (n : Int), x.2.2.2.size ≤ 10 ∧ e = .returned (.tuple #[stpV x, .int .i64 n]) ∧ Below w.heap.size w w'
theorem XSt.cells {b : Nat} {a : Option Addr} {len cap : Nat} {w : World} {m0 n : Nat} {x : stpT} {w1 : World} (h : XSt b a len cap w m0 n x w1) :
    w1.cell? ⟨n, 0, none⟩ = some (.int .i64 x.1) ∧ w1.cell? ⟨n, 1, none⟩ = some (.int .i64 x.2.1) ∧ w1.cell? ⟨n, 2, none⟩ = some (.int .i64 x.2.2.1) ∧ w1.cell? ⟨n, 3, none⟩ = some (.string x.2.2.2) := h.box.cf4.1
theorem XSt.cellsS {b : Nat} {a : Option Addr} {len cap : Nat} {w : World} {m0 n : Nat} {x : stpT} {w1 : World} (h : XSt b a len cap w m0 n x w1) (p q r s : Value) :
    ((((w1.setCell ⟨m0, 0, none⟩ p).setCell ⟨m0, 1, none⟩ q).setCell ⟨m0, 2, none⟩ r).setCell ⟨m0, 3, none⟩ s).cell? ⟨n, 0, none⟩ = some (.int .i64 x.1) ∧ ((((w1.setCell ⟨m0, 0, none⟩ p).setCell ⟨m0, 1, none⟩ q).setCell ⟨m0, 2, none⟩ r).setCell ⟨m0, 3, none⟩ s).cell? ⟨n, 1, none⟩ = some (.int .i64 x.2.1) ∧ ((((w1.setCell ⟨m0, 0, none⟩ p).setCell ⟨m0, 1, none⟩ q).setCell ⟨m0, 2, none⟩ r).setCell ⟨m0, 3, none⟩ s).cell? ⟨n, 2, none⟩ = some (.int .i64 x.2.2.1) ∧ ((((w1.setCell ⟨m0, 0, none⟩ p).setCell ⟨m0, 1, none⟩ q).setCell ⟨m0, 2, none⟩ r).setCell ⟨m0, 3, none⟩ s).cell? ⟨n, 3, none⟩ = some (.string x.2.2.2) := (h.box.four (Ne.symm h.mn) p q r s).cf4.1
def set4x (w : World) (m : Nat) (p q r s : Value) : World := (((w.setCell ⟨m, 0, none⟩ p).setCell ⟨m, 1, none⟩ q).setCell ⟨m, 2, none⟩ r).setCell ⟨m, 3, none⟩ s
theorem set4x_size (w : World) (m : Nat) (p q r s : Value) : (set4x w m p q r s).heap.size = w.heap.size := by simp [set4x]
theorem XSt.drew {b : Nat} {a : Option Addr} {len cap : Nat} {w : World} {m0 n : Nat} {x : stpT} {w1 : World} (h : XSt b a len cap w m0 n x w1) : XSt b a len cap w m0 n x w1.drew := ⟨h.ans, h.box, h.src, h.kept.drew, h.m0b, h.nb, h.mn, h.lo, h.ln⟩
end Go.Proofs.YthkbllkhomjmbaaGreatDoor

namespace Go.Proofs.YthkbllkhomjmbaaGreatDoor
open Go.RowKit

def edgeCells : Array Value := #[.int .i64 0, .int .i64 1, .int .i64 (-1), .int .i64 2, .int .i64 1000, .int .i64 1001, .int .i64 2147483648, .int .i64 2147483647, .int .i64 (-2147483648), .int .i64 4611686018427387904, .int .i64 9223372036854775807, .int .i64 (-9223372036854775808), .int .i64 1000000, .int .i64 1000001]
theorem edge_at : ∀ v : Nat, v < 14 → ∃ x : Int, -9223372036854775808 ≤ x ∧ x ≤ 9223372036854775807 ∧ edgeCells[v]? = some (.int .i64 x)
  | 0, _ => ⟨_, by omega, by omega, rfl⟩
  | 1, _ => ⟨_, by omega, by omega, rfl⟩
  | 2, _ => ⟨_, by omega, by omega, rfl⟩
  | 3, _ => ⟨_, by omega, by omega, rfl⟩
  | 4, _ => ⟨_, by omega, by omega, rfl⟩
  | 5, _ => ⟨_, by omega, by omega, rfl⟩
  | 6, _ => ⟨_, by omega, by omega, rfl⟩
  | 7, _ => ⟨_, by omega, by omega, rfl⟩
  | 8, _ => ⟨_, by omega, by omega, rfl⟩
  | 9, _ => ⟨_, by omega, by omega, rfl⟩
  | 10, _ => ⟨_, by omega, by omega, rfl⟩
  | 11, _ => ⟨_, by omega, by omega, rfl⟩
  | 12, _ => ⟨_, by omega, by omega, rfl⟩
  | 13, _ => ⟨_, by omega, by omega, rfl⟩
  | n + 14, h => by omega

set_option maxHeartbeats 1000000 in
set_option maxRecDepth 100000 in
theorem edge_any (b : Nat) (a : Option Addr) (len cap : Nat) (w : World) (hS : Src w b a len cap) (hR : Row w a len b) :
    Calls Tryz.prog 74 #[.pointer (some ⟨b, 0, none⟩)] w (Drawn b a len cap (fun v => -9223372036854775808 ≤ v ∧ v ≤ 9223372036854775807) w) := by
  have hbl := hS.lt
  have HS := Lib.hid (hS.grown (World.grownBy_alloc w (.cells edgeCells 2) none) (by simp))
  have HR := Lib.hid (hR.kept ((Kept.refl b w).alloc (.cells edgeCells 2)))
  have HN := Lib.hid (n_any b a len cap 14 (w.alloc (.cells edgeCells 2)) HS.out HR.out (by omega) (by omega))
  clear hS hR
  go_enter Tryz.func74, Tryz.ntmps74
  go_wp2_with fail
  refine HN.out.mono ?_
  rintro e w1 ⟨v, ⟨hv0, hv1⟩, rfl, hs1, hk1⟩
  obtain ⟨k, rfl⟩ := Int.eq_ofNat_of_zero_le hv0
  obtain ⟨x, hx0, hx1, hxc⟩ := edge_at k (by omega)
  have hc : w1.cell? ⟨w.heap.size, k, none⟩ = some (.int .i64 x) := by
    rw [hk1.cell (p := ⟨w.heap.size, k, none⟩) (by simp) (by simp; omega), World.cell?_alloc_new]; exact hxc
  have HS1 := Lib.hid hs1
  have HK1 := Lib.hid (((Kept.refl b w).alloc (.cells edgeCells 2)).trans hk1)
  clear hs1 hk1 hxc
  go_wp2_with fail
  go_ret
  exact ⟨x, ⟨hx0, hx1⟩, rfl, HS1.out, HK1.out⟩
end Go.Proofs.YthkbllkhomjmbaaGreatDoor

namespace Go.Proofs.YthkbllkhomjmbaaGreatDoor
open Go.RowKit

def bitF (n : Int) : Int := if (bits BinOp.and IntKind.u32 n 1 == 1) = true then bits BinOp.xor IntKind.u32 (n / 2) 3988292384 else n / 2
def bitsF : Nat → Int → Int
  | 0, n => n
  | k + 1, n => bitF (bitsF k n)
def byteF (r b : Int) : Int := bitsF 8 (bits BinOp.xor IntKind.u32 r (b % 4294967296))
def regF (s : ByteArray) (r : Int) : Nat → Int
  | 0 => r
  | k + 1 => byteF (regF s r k) (bt s k)
theorem bitsF_yes (k : Nat) (n : Int) (h : (bits BinOp.and IntKind.u32 (bitsF k n) 1 == 1) = true) : bits BinOp.xor IntKind.u32 (bitsF k n / 2) 3988292384 = bitsF (k + 1) n := by
  simp only [bitsF, bitF]; rw [if_pos h]
theorem bitsF_no (k : Nat) (n : Int) (h : (bits BinOp.and IntKind.u32 (bitsF k n) 1 == 1) = false) : bitsF k n / 2 = bitsF (k + 1) n := by
  simp only [bitsF, bitF]; rw [if_neg (by rw [h]; simp)]
set_option maxHeartbeats 400000 in
theorem shifted_any (r b : Int) (w : World) :
    Calls Tryz.prog 164 #[.int .u32 r, .int .u8 b] w fun e w' => e = .returned (.int .u32 (byteF r b)) ∧ w = w' := by
  go_enter Tryz.func164, Tryz.ntmps164
  go_wp2
  go_loop [0, 10] (fun x i => ∃ k : Nat, k ≤ 8 ∧ i = .int .i64 k ∧ x = .int .u32 (bitsF k (bits BinOp.xor IntKind.u32 r (b % 4294967296)))) (fun _ i => 8 - (intOf i).toNat)
  case atStart => exact ⟨0, by omega, rfl, rfl⟩
  case round =>
    obtain ⟨k, hk, rfl, rfl⟩ := hrel
    by_cases hlt : k < 8
    · cases h : (bits BinOp.and IntKind.u32 (bitsF k (bits BinOp.xor IntKind.u32 r (b % 4294967296))) 1 == 1)
      · have H := Lib.hid (bitsF_no _ _ h)
        go_wp2
        go_round
        case rel => exact ⟨k + 1, by omega, by go_num, val_int H.out⟩
        case measure => simp [intOf]; omega
      · have H := Lib.hid (bitsF_yes _ _ h)
        go_wp2
        go_round
        case rel => exact ⟨k + 1, by omega, by go_num, val_int H.out⟩
        case measure => simp [intOf]; omega
    · obtain rfl : k = 8 := by omega
      go_wp2
      go_ret
      exact ⟨rfl, rfl⟩

theorem xor_comm32 (a b : Int) : bits BinOp.xor IntKind.u32 a b = bits BinOp.xor IntKind.u32 b a := by
  simp only [bits, BitVec.xor_comm]
theorem max32 (a : Int) : bits BinOp.xor IntKind.u32 IntKind.u32.max a = bits BinOp.xor IntKind.u32 a 4294967295 := by
  rw [xor_comm32, show IntKind.u32.max = 4294967295 by decide]
def crcF (c : Int) (s : ByteArray) : Int := wrap64 (bits BinOp.xor IntKind.u32 (regF s (bits BinOp.xor IntKind.u32 c 4294967295) s.size) 4294967295)
theorem regF_succ (s : ByteArray) (r : Int) (k : Nat) (h : k < s.size) : regF s r (k + 1) = bitsF 8 (bits BinOp.xor IntKind.u32 (regF s r k) ((s[k].toNat : Int) % 4294967296)) := by
  rw [bt_at s k h]; rfl
theorem regF_succ' (s : ByteArray) (r : Int) (k : Nat) (h : k < s.size) : byteF (regF s r k) (s[k].toNat : Int) = regF s r (k + 1) := by
  rw [bt_at s k h]; rfl

set_option maxHeartbeats 400000 in
theorem specCrc_any (c : Int) (s : ByteArray) (w : World) (hs : s.size ≤ maxLen) (h0 : 0 ≤ c) (h1 : c ≤ 4294967295) :
    Calls Tryz.prog 98 #[.int .i64 c, .string s] w fun e w' => e = .returned (.int .i64 (crcF c s)) ∧ w = w' := by
  unfold maxLen at hs
  go_enter Tryz.func98, Tryz.ntmps98
  go_wp2
  go_loop [5, 6] (fun x i => ∃ k : Nat, k ≤ s.size ∧ i = .int .i64 k ∧ x = .int .u32 (regF s (bits BinOp.xor IntKind.u32 c 4294967295) k)) (fun _ i => s.size - (intOf i).toNat)
  case atStart => exact ⟨0, by omega, rfl, rfl⟩
  case round =>
    obtain ⟨k, hk, rfl, rfl⟩ := hrel
    by_cases hlt : k < s.size
    · have HR := Lib.hid (regF_succ s (bits BinOp.xor IntKind.u32 c 4294967295) k hlt)
      go_wp2
      go_loop [5, 7] (fun x i => ∃ j : Nat, j ≤ 8 ∧ i = .int .i64 j ∧ x = .int .u32 (bitsF j (bits BinOp.xor IntKind.u32 (regF s (bits BinOp.xor IntKind.u32 c 4294967295) k) ((s[k].toNat : Int) % 4294967296)))) (fun _ i => 8 - (intOf i).toNat)
      case atStart => exact ⟨0, by omega, rfl, rfl⟩
      case round =>
        obtain ⟨j, hj, rfl, rfl⟩ := hrel
        by_cases hjl : j < 8
        · cases h : (bits BinOp.and IntKind.u32 (bitsF j (bits BinOp.xor IntKind.u32 (regF s (bits BinOp.xor IntKind.u32 c 4294967295) k) ((s[k].toNat : Int) % 4294967296))) 1 == 1)
          · have H := Lib.hid (bitsF_no _ _ h)
            go_wp2
            go_round
            case rel => exact ⟨j + 1, by omega, by go_num, val_int H.out⟩
            case measure => simp [intOf]; omega
          · have H := Lib.hid (bitsF_yes _ _ h)
            go_wp2
            go_round
            case rel => exact ⟨j + 1, by omega, by go_num, val_int H.out⟩
            case measure => simp [intOf]; omega
        · obtain rfl : j = 8 := by omega
          go_wp2
          go_round
          case rel => exact ⟨k + 1, by omega, by go_num, val_int HR.out.symm⟩
          case measure => simp [intOf]; omega
    · obtain rfl : k = s.size := by omega
      go_wp2
      go_ret
      exact ⟨rfl, rfl⟩

set_option maxHeartbeats 400000 in
theorem implMore_any (c : Int) (s : ByteArray) (w : World) (hs : s.size ≤ 8000) (h0 : 0 ≤ c) (h1 : c ≤ 4294967295) :
    Calls Tryz.prog 155 #[.int .i64 c, .string s] w fun e w' => e = .returned (.int .i64 (crcF c s)) ∧ w = w' := by
  have d1 : decide (8000 < s.size) = false := decide_eq_false (by omega)
  have d2 : decide (c < 0) = false := decide_eq_false (by omega)
  have d3 : decide (4294967295 < c) = false := decide_eq_false (by omega)
  go_enter Tryz.func155, Tryz.ntmps155
  go_wp2
  go_loop [5, 23] (fun x i => ∃ k : Nat, k ≤ s.size ∧ i = .int .i64 k ∧ x = .int .u32 (regF s (bits BinOp.xor IntKind.u32 c 4294967295) k)) (fun _ i => s.size - (intOf i).toNat)
  case atStart => exact ⟨0, by omega, rfl, val_int (max32 c)⟩
  case round =>
    obtain ⟨k, hk, rfl, rfl⟩ := hrel
    by_cases hlt : k < s.size
    · have HR := Lib.hid (regF_succ' s (bits BinOp.xor IntKind.u32 c 4294967295) k hlt)
      go_wp2_with (go_at_call 164; refine (shifted_any _ _ _).mono ?_; rintro e w' ⟨rfl, rfl⟩)
      go_round
      case rel => exact ⟨k + 1, by omega, by go_num, val_int HR.out⟩
      case measure => simp [intOf]; omega
    · obtain rfl : k = s.size := by omega
      go_wp2
      go_ret
      exact ⟨ret_int (by rw [max32]; rfl), rfl⟩

set_option maxHeartbeats 400000 in
theorem implMore_zero (c : Int) (s : ByteArray) (w : World) (hs : s.size ≤ maxLen) (h : 8000 < s.size ∨ c < 0 ∨ 4294967295 < c) :
    Calls Tryz.prog 155 #[.int .i64 c, .string s] w fun e w' => e = .returned (.int .i64 0) ∧ w = w' := by
  unfold maxLen at hs
  by_cases h1 : 8000 < s.size
  · go_enter Tryz.func155, Tryz.ntmps155
    go_wp2
    go_ret
    exact ⟨rfl, rfl⟩
  · by_cases h2 : c < 0
    · go_enter Tryz.func155, Tryz.ntmps155
      go_wp2
      go_ret
      exact ⟨rfl, rfl⟩
    · have h3 : 4294967295 < c := by omega
      go_enter Tryz.func155, Tryz.ntmps155
      go_wp2
      go_ret
      exact ⟨rfl, rfl⟩

set_option maxHeartbeats 400000 in
theorem implCrc1_any (s : ByteArray) (w : World) (hs : s.size ≤ 8000) :
    Calls Tryz.prog 136 #[.string s] w fun e w' => e = .returned (.int .i64 (crcF 0 s)) ∧ w = w' := by
  go_enter Tryz.func136, Tryz.ntmps136
  go_wp2_with fail
  refine (implMore_any 0 s _ hs (by omega) (by omega)).mono ?_
  rintro e w' ⟨rfl, rfl⟩
  go_wp2_with fail
  go_ret
  exact ⟨rfl, rfl⟩

set_option maxHeartbeats 400000 in
theorem implCrc1_zero (s : ByteArray) (w : World) (hs : s.size ≤ maxLen) (h : 8000 < s.size) :
    Calls Tryz.prog 136 #[.string s] w fun e w' => e = .returned (.int .i64 0) ∧ w = w' := by
  go_enter Tryz.func136, Tryz.ntmps136
  go_wp2_with fail
  refine (implMore_zero 0 s _ hs (.inl h)).mono ?_
  rintro e w' ⟨rfl, rfl⟩
  go_wp2_with fail
  go_ret
  exact ⟨rfl, rfl⟩

end Go.Proofs.YthkbllkhomjmbaaGreatDoor

namespace Go.Proofs.YthkbllkhomjmbaaGreatDoor
open Go.RowKit

def octet (c : Int) : UInt8 := (c % 256).toNat.toUInt8
def fourL (c : Int) : List UInt8 := [octet c, octet (c / 256), octet (c / 65536), octet (c / 16777216)]
/-- Four bytes, the least first. -/
def fourS (c : Int) : ByteArray := ⟨(fourL c).toArray⟩
theorem octet_val (c : Int) : c % 256 = ((octet c).toNat : Int) := by unfold octet; simp; omega
theorem octet_top (c : Int) (h0 : 0 ≤ c) (h1 : c ≤ 4294967295) : c / 16777216 = ((octet (c / 16777216)).toNat : Int) := by rw [← octet_val]; omega
theorem crcF_bound (c : Int) (s : ByteArray) : 0 ≤ crcF c s ∧ crcF c s ≤ 4294967295 := by
  unfold crcF
  generalize regF s (bits BinOp.xor IntKind.u32 c 4294967295) s.size = r
  have a := bits_lo_u32 BinOp.xor r 4294967295
  have b := bits_hi_u32 BinOp.xor r 4294967295
  generalize bits BinOp.xor IntKind.u32 r 4294967295 = x at *
  rw [IntWalk.wrap64_in x (by omega)]
  exact ⟨a, b⟩

set_option maxHeartbeats 400000 in
theorem four_any (c : Int) (w : World) (h0 : 0 ≤ c) (h1 : c ≤ 4294967295) :
    Calls Tryz.prog 97 #[.int .i64 c] w fun e w' => e = .returned (.string (fourS c)) ∧ Below w.heap.size w w' := by
  have conv := conv_block (c := 4) (w := w.alloc (Obj.cells #[Value.int IntKind.u8 (c % 256), Value.int IntKind.u8 (c / 256 % 256), Value.int IntKind.u8 (c / 65536 % 256), Value.int IntKind.u8 (c / 16777216)] 5)) (g := w.heap.size) (e := 5) (xs := [Value.int IntKind.u8 (c % 256), Value.int IntKind.u8 (c / 256 % 256), Value.int IntKind.u8 (c / 65536 % 256), Value.int IntKind.u8 (c / 16777216)]) (heap_alloc_new w _) (fourL c) 4 rfl (by
    rw [octet_val c, octet_val (c / 256), octet_val (c / 65536), octet_top c h0 h1]; rfl)
  have e : (⟨(fourL c).toArray⟩ : ByteArray) = fourS c := rfl
  rw [e] at conv
  clear e
  go_enter Tryz.func97, Tryz.ntmps97
  go_wp2_with fail
  go_ret
  exact ⟨rfl, (Below.refl _ _).alloc (Nat.le_refl _) _⟩

def SumRel (w : World) (c : Int) (i : Value) (wr : World) : Prop :=
  ∃ (k : Nat) (xs : List Value), k ≤ 4 ∧ i = .int .i64 k ∧ wr.ownsRow w.heap.size 175 1 (.slice (some ⟨w.heap.size, 0, none⟩) 4 4) 4 xs ∧ xs.take k = ((fourL c).take k).map B ∧ Below w.heap.size w wr
theorem set_take (xs : List Value) (k : Nat) (c : Int) (v : Value) (u : UInt8) (h : k < xs.length) (hk : (fourL c)[k]? = some u) (hx : xs.take k = ((fourL c).take k).map B) (hv : v = B u) :
    (xs.set k v).take (k + 1) = ((fourL c).take (k + 1)).map B := by
  subst hv
  obtain ⟨hk', rfl⟩ := List.getElem?_eq_some_iff.1 hk
  rw [List.take_succ_eq_append_getElem (by simpa using h), List.take_set_of_le (Nat.le_refl _), hx, List.take_succ_eq_append_getElem hk', List.map_append]
  simp

theorem sum_step {w wr : World} {c : Int} {k : Nat} {xs : List Value} (v : Value) (u : UInt8) (hk : k < 4) (hu : (fourL c)[k]? = some u) (hv : v = B u)
    (hown : wr.ownsRow w.heap.size 175 1 (.slice (some ⟨w.heap.size, 0, none⟩) 4 4) 4 xs) (hxs : xs.take k = ((fourL c).take k).map B) (hbel : Below w.heap.size w wr) :
    SumRel w c (.int .i64 ((k + 1 : Nat) : Int)) (wr.setCell ⟨w.heap.size, k, none⟩ v) :=
  ⟨k + 1, _, by omega, rfl, (hown.stored k v).1, set_take xs k c v u (by rw [hown.1]; omega) hu hxs hv, hbel.setCell (p := ⟨w.heap.size, k, none⟩) (Nat.le_refl _) v⟩

set_option maxHeartbeats 400000 in
theorem sum_any (s : ByteArray) (w : World) (hs : s.size ≤ 8000) :
    Calls Tryz.prog 92 #[.string s] w fun e w' => e = .returned (.string (fourS (crcF 0 s))) ∧ Below w.heap.size w w' := by
  obtain ⟨h0, h1⟩ := crcF_bound 0 s
  have hcall := implCrc1_any s w hs
  generalize crcF 0 s = c at *
  have HC := Lib.hid hcall
  clear hcall
  go_enter Tryz.func92, Tryz.ntmps92
  go_wp2_with fail
  refine HC.out.mono ?_
  rintro e w' ⟨rfl, rfl⟩
  clear HC
  go_wp2_with fail
  go_loopw [8] (fun i wr => SumRel w c i wr) (fun i _ => 4 - (intOf i).toNat)
  case atStart => exact ⟨0, _, by omega, rfl, World.ownsRow_lit w _ 4 (Nat.le_refl _) (by decide) rfl, rfl, (Below.refl _ _).alloc (Nat.le_refl _) _⟩
  case round =>
    obtain ⟨k, xs, hk, rfl, hown, hxs, hbel⟩ := hrel
    by_cases hlt : k < 4
    · have hc := hown.cellAt k (by omega)
      have hf := hown.frozenAt k
      have hxl : xs.length = 4 := hown.1
      rw [List.getElem?_eq_getElem (by omega)] at hc
      generalize xs[k] = v0 at hc
      have HXS := Lib.hid hxs
      have HO := Lib.hid hown
      have HBL := Lib.hid hbel
      clear hxs hxl hown hbel
      have hk4 : k = 0 ∨ k = 1 ∨ k = 2 ∨ k = 3 := by omega
      rcases hk4 with rfl | rfl | rfl | rfl
      · go_wp2
        go_roundw
        case rel => exact sum_step (k := 0) _ _ (by omega) rfl (val_int (octet_val c)) HO.out HXS.out HBL.out
        case measure => simp [intOf]
      · go_wp2
        go_roundw
        case rel => exact sum_step (k := 1) _ _ (by omega) rfl (val_int (octet_val _)) HO.out HXS.out HBL.out
        case measure => simp [intOf]
      · go_wp2
        go_roundw
        case rel => exact sum_step (k := 2) _ _ (by omega) rfl (val_int (octet_val _)) HO.out HXS.out HBL.out
        case measure => simp [intOf]
      · go_wp2
        go_roundw
        case rel => exact sum_step (k := 3) _ _ (by omega) rfl (val_int (octet_top c h0 h1)) HO.out HXS.out HBL.out
        case measure => simp [intOf]
    · obtain rfl : k = 4 := by omega
      have conv := conv_row (c := 4) hown (fourL c) 4 rfl (by omega) (by rw [hxs]; rfl)
      have e : (⟨(fourL c).toArray⟩ : ByteArray) = fourS c := rfl
      rw [e] at conv
      clear e hown hxs
      go_wp2
      go_ret
      exact ⟨rfl, hbel⟩

theorem fourS_size (c : Int) : (fourS c).size = 4 := rfl

set_option maxHeartbeats 400000 in
theorem specSeal_any (t : ByteArray) (w : World) (ht : t.size ≤ 7996) :
    Calls Tryz.prog 49 #[.string t] w fun e w' => e = .returned (.string (t ++ fourS (crcF 0 t))) ∧ Below w.heap.size w w' := by
  have hp : (fourS (crcF 0 t)).size ≤ 4 := by rw [fourS_size]; omega
  obtain ⟨h0, h1⟩ := crcF_bound 0 t
  have hm : t.size ≤ maxLen := by unfold maxLen; omega
  go_enter Tryz.func49, Tryz.ntmps49
  go_wp2_with fail
  refine (specCrc_any 0 t _ hm (by omega) (by omega)).mono ?_
  rintro e w1 ⟨rfl, rfl⟩
  go_wp2_with fail
  refine (four_any (crcF 0 t) _ h0 h1).mono ?_
  rintro e w1 ⟨rfl, hb1⟩
  go_wp2_with fail
  go_ret
  exact ⟨rfl, hb1⟩

set_option maxHeartbeats 400000 in
theorem implSeal_any (t : ByteArray) (w : World) (ht : t.size ≤ 7996) :
    Calls Tryz.prog 43 #[.string t] w fun e w' => e = .returned (.string (t ++ fourS (crcF 0 t))) ∧ Below w.heap.size w w' := by
  have hp : (fourS (crcF 0 t)).size ≤ 4 := by rw [fourS_size]; omega
  go_enter Tryz.func43, Tryz.ntmps43
  go_wp2_with fail
  refine (sum_any t _ (by omega)).mono ?_
  rintro e w1 ⟨rfl, hb1⟩
  go_wp2_with fail
  refine (joined_two t (fourS (crcF 0 t)) _ (by omega)).mono ?_
  rintro e w2 ⟨rfl, hb2⟩
  have hb := hb1.trans (hb2.mono hb1.size)
  clear hb1 hb2
  go_wp2_with fail
  go_ret
  exact ⟨rfl, hb⟩

set_option maxHeartbeats 400000 in
theorem specSeal_long (t : ByteArray) (w : World) (hs : t.size ≤ maxLen) (ht : 7996 < t.size) :
    Calls Tryz.prog 49 #[.string t] w fun e w' => e = .returned (.string ⟨#[]⟩) ∧ w = w' := by
  unfold maxLen at hs
  go_enter Tryz.func49, Tryz.ntmps49
  go_wp2_with fail
  go_ret
  exact ⟨rfl, rfl⟩
set_option maxHeartbeats 400000 in
theorem implSeal_long (t : ByteArray) (w : World) (hs : t.size ≤ maxLen) (ht : 7996 < t.size) :
    Calls Tryz.prog 43 #[.string t] w fun e w' => e = .returned (.string ⟨#[]⟩) ∧ w = w' := by
  unfold maxLen at hs
  go_enter Tryz.func43, Tryz.ntmps43
  go_wp2_with fail
  go_ret
  exact ⟨rfl, rfl⟩

end Go.Proofs.YthkbllkhomjmbaaGreatDoor

namespace Go.Proofs.YthkbllkhomjmbaaGreatDoor
open Go.RowKit

def sealS (t : ByteArray) : ByteArray := t ++ fourS (crcF 0 t)
def metaRaw (g : Int) (t : ByteArray) : ByteArray := putS g ++ (putS t.size ++ t)
def metaB (g : Int) (t : ByteArray) : ByteArray := if (1 ≤ g ∧ g ≤ 1000000) ∧ t.size ≤ 80 then sealS (metaRaw g t) else ByteArray.empty
theorem metaRaw_size {g : Int} {t : ByteArray} (h0 : 1 ≤ g) (h1 : g ≤ 1000000) (ht : t.size ≤ 80) : (metaRaw g t).size ≤ 100 := by
  unfold metaRaw
  have := putS_size g (by omega) (by omega)
  have := putS_size t.size (by omega) (by omega)
  rw [ByteArray.size_append, ByteArray.size_append]; omega
theorem metaB_size (g : Int) (t : ByteArray) : (metaB g t).size ≤ 104 := by
  unfold metaB
  split
  · rename_i h
    unfold sealS
    rw [ByteArray.size_append, fourS_size]
    have := metaRaw_size h.1.1 h.1.2 h.2
    omega
  · simp
end Go.Proofs.YthkbllkhomjmbaaGreatDoor

namespace Go.Proofs.YthkbllkhomjmbaaGreatDoor
open Go.RowKit

theorem stepB_up {n k t f : Int} {d : ByteArray} (h : stepB n k t f d = true) : stepB 8 k t f d = true := by
  obtain ⟨⟨n0, n1⟩, h⟩ := (stepB_iff ..).1 h
  refine stepB_yes ⟨⟨by omega, by omega⟩, ?_⟩
  have up : ∀ x : Int, inB x n = true → inB x 8 = true := fun x hx => by
    have := (inB_iff _ _).1 hx
    exact (inB_iff _ _).2 ⟨by omega, by omega⟩
  rcases h with ⟨a, b, c, e⟩ | ⟨a, b, c, e⟩ | ⟨a, b, c, e⟩ | ⟨a, b, c, e⟩ | h
  · exact .inl ⟨a, up _ b, c, e⟩
  · exact .inr (.inl ⟨a, up _ b, c, e⟩)
  · exact .inr (.inr (.inl ⟨a, up _ b, up _ c, e⟩))
  · exact .inr (.inr (.inr (.inl ⟨a, up _ b, up _ c, e⟩)))
  · exact .inr (.inr (.inr (.inr h)))
theorem stepS_size2 (k t f : Int) (d : ByteArray) : (stepS k t f d).size = (putS k).size + (putS t).size + (putS f).size + ((putS d.size).size + d.size) := by
  unfold stepS; simp only [ByteArray.size_append]
/-- A text with its length in front of it. -/
def txS (d : ByteArray) : ByteArray := putS d.size ++ d
abbrev pkT := Int × ByteArray × List stpT
def stpTx (s : stpT) : ByteArray := txS (stepS s.1 s.2.1 s.2.2.1 s.2.2.2)
def pkParts (n : Int) (b : Int) (d : ByteArray) (l : List stpT) : List ByteArray := putS b :: txS d :: putS n :: l.map stpTx
/-- The encoding without its seal. -/
def pkE (p : pkT) : ByteArray := cat (pkParts p.2.2.length p.1 p.2.1 p.2.2)
def pkOk (p : pkT) : Prop := codeS p.2.2 p.1 = 0 ∧ p.2.1.size = 32
open Classical in
noncomputable def pkB (p : pkT) : Bool := decide (pkOk p)
theorem pkB_iff (p : pkT) : pkB p = true ↔ pkOk p := by unfold pkB; simp
theorem pkB_no (p : pkT) : pkB p = false ↔ ¬ pkOk p := by unfold pkB; simp
noncomputable def pkBytes (p : pkT) : ByteArray := if pkB p = true then sealS (pkE p) else ⟨#[]⟩
def noPk : pkT := (0, ⟨#[]⟩, [])
theorem code_ok0 {l : List stpT} {n : Int} (h : codeS l n = 0) : (1 ≤ n ∧ n ≤ 8) ∧ l.length ≤ 20 ∧ ∀ s ∈ l, stepB n s.1 s.2.1 s.2.2.1 s.2.2.2 = true := by
  by_cases hf : FormBad l n
  · rw [codeS_form hf] at h; cases h
  refine ⟨Classical.byContradiction fun h1 => hf (.inl h1), Classical.byContradiction fun h1 => hf (.inr (.inl (by omega))), fun s hs => ?_⟩
  cases hb : stepB n s.1 s.2.1 s.2.2.1 s.2.2.2 with
  | true => rfl
  | false => exact absurd (.inr (.inr ⟨s, hs, by unfold wrongS; rw [hb]; rfl⟩)) hf
theorem pkOk.steps {p : pkT} (h : pkOk p) : ∀ s ∈ p.2.2, stepB 8 s.1 s.2.1 s.2.2.1 s.2.2.2 = true := fun s hs => stepB_up ((code_ok0 h.1).2.2 s hs)
theorem pkOk.len {p : pkT} (h : pkOk p) : p.2.2.length ≤ 20 := (code_ok0 h.1).2.1
theorem pkOk.num {p : pkT} (h : pkOk p) : 1 ≤ p.1 ∧ p.1 ≤ 8 := (code_ok0 h.1).1
theorem stpTx_size {s : stpT} (h : stepB 8 s.1 s.2.1 s.2.2.1 s.2.2.2 = true) : (stpTx s).size ≤ 60 := by
  obtain ⟨k0, k1, t0, t1, f0, f1, d1⟩ := ok_bounds h
  have z1 := putS_size s.1 (by omega) (by omega)
  have z2 := putS_size s.2.1 (by omega) (by omega)
  have z3 := putS_size s.2.2.1 (by omega) (by omega)
  have z4 := putS_size s.2.2.2.size (by omega) (by omega)
  have hz := stepS_size2 s.1 s.2.1 s.2.2.1 s.2.2.2
  unfold stpTx txS
  have z5 := putS_size (stepS s.1 s.2.1 s.2.2.1 s.2.2.2).size (by omega) (by omega)
  rw [ByteArray.size_append]; omega
theorem cat_stp_size : ∀ {l : List stpT}, (∀ s ∈ l, stepB 8 s.1 s.2.1 s.2.2.1 s.2.2.2 = true) → (cat (l.map stpTx)).size ≤ 60 * l.length
  | [], _ => Nat.le_refl _
  | s :: l, h => by
    have h1 := stpTx_size (h s (List.mem_cons_self ..))
    have h2 := cat_stp_size (l := l) fun x hx => h x (List.mem_cons_of_mem _ hx)
    rw [List.map_cons, cat_cons, ByteArray.size_append, List.length_cons]; omega
theorem pkE_size {p : pkT} (h : pkOk p) : (pkE p).size ≤ 1300 := by
  have h1 := cat_stp_size h.steps
  have h2 := h.len
  have h3 := h.num
  have h4 := h.2
  have z1 := putS_size p.1 (by omega) (by omega)
  have z2 := putS_size p.2.1.size (by omega) (by omega)
  have z3 := putS_size p.2.2.length (by omega) (by omega)
  unfold pkE pkParts txS
  rw [cat_cons, cat_cons, cat_cons, ByteArray.size_append, ByteArray.size_append, ByteArray.size_append, ByteArray.size_append]; omega

end Go.Proofs.YthkbllkhomjmbaaGreatDoor

namespace Go.Proofs.YthkbllkhomjmbaaGreatDoor
open Go.RowKit

def recB (n : Int) (s : stpT) : Bool := isT n && stepB 8 s.1 s.2.1 s.2.2.1 s.2.2.2
def recE (n : Int) (s : stpT) : ByteArray := putS n ++ stepS s.1 s.2.1 s.2.2.1 s.2.2.2
def recBs (n : Int) (s : stpT) : ByteArray := if recB n s = true then sealS (recE n s) else ⟨#[]⟩
def noStp : stpT := (0, 0, 0, ⟨#[]⟩)
theorem recB_iff (n : Int) (s : stpT) : recB n s = true ↔ (0 ≤ n ∧ n ≤ 1000000) ∧ stepB 8 s.1 s.2.1 s.2.2.1 s.2.2.2 = true := by
  unfold recB; rw [Bool.and_eq_true, isT_iff]
theorem recE_size {n : Int} {s : stpT} (h : recB n s = true) : (recE n s).size ≤ 100 := by
  obtain ⟨⟨n0, n1⟩, h⟩ := (recB_iff _ _).1 h
  obtain ⟨k0, k1, t0, t1, f0, f1, d1⟩ := ok_bounds h
  have z0 := putS_size n (by omega) (by omega)
  have z1 := putS_size s.1 (by omega) (by omega)
  have z2 := putS_size s.2.1 (by omega) (by omega)
  have z3 := putS_size s.2.2.1 (by omega) (by omega)
  have z4 := putS_size s.2.2.2.size (by omega) (by omega)
  have hz := stepS_size2 s.1 s.2.1 s.2.2.1 s.2.2.2
  unfold recE
  rw [ByteArray.size_append]; omega
theorem recBs_yes {n : Int} {s : stpT} (h : recB n s = true) : recBs n s = sealS (recE n s) := if_pos h
theorem recBs_no {n : Int} {s : stpT} (h : recB n s = false) : recBs n s = ⟨#[]⟩ := if_neg (by rw [h]; simp)
def keptN (l : List stpT) : Nat → Nat
  | 0 => 0
  | k + 1 => if (l.getD k noStp).1 = 5 then k + 1 else keptN l k
def keptS (l : List stpT) : Nat := if l.length ≤ 20 then keptN l l.length else 0
theorem keptN_le (l : List stpT) : ∀ k, keptN l k ≤ k
  | 0 => Nat.le_refl _
  | k + 1 => by
    unfold keptN
    split
    · exact Nat.le_refl _
    · have := keptN_le l k; omega
theorem keptN_label (l : List stpT) : ∀ k, keptN l k = 0 ∨ (l.getD (keptN l k - 1) noStp).1 = 5
  | 0 => .inl rfl
  | k + 1 => by
    unfold keptN
    split
    · rename_i h; exact .inr (by simpa using h)
    · exact keptN_label l k
theorem keptS_le (l : List stpT) : keptS l ≤ l.length := by
  unfold keptS
  split
  · exact keptN_le l _
  · exact Nat.zero_le _
theorem keptS_label (l : List stpT) : keptS l = 0 ∨ (l.getD (keptS l - 1) noStp).1 = 5 := by
  unfold keptS
  split
  · exact keptN_label l _
  · exact .inl rfl
theorem keptN_yes {l : List stpT} {k : Nat} (hk : k < l.length) (h : l[k].1 = 5) : keptN l (k + 1) = k + 1 := by
  rw [keptN, if_pos (by rw [List.getD_eq_getElem?_getD, List.getElem?_eq_getElem hk]; exact h)]
theorem keptN_no {l : List stpT} {k : Nat} (hk : k < l.length) (h : l[k].1 ≠ 5) : keptN l (k + 1) = keptN l k := by
  rw [keptN, if_neg (by rw [List.getD_eq_getElem?_getD, List.getElem?_eq_getElem hk]; exact h)]
end Go.Proofs.YthkbllkhomjmbaaGreatDoor

namespace Go.Proofs.YthkbllkhomjmbaaGreatDoor
open Go.RowKit

set_option maxRecDepth 100000 in
set_option maxHeartbeats 2000000 in
theorem specRecBs (n k t f : Int) (d : ByteArray) (w : World) :
    Calls Tryz.prog 30 #[.int .i64 n, .agg #[.int .i64 k, .int .i64 t, .int .i64 f, .string d]] w fun e w' => e = .returned (.string (recBs n (k, t, f, d))) ∧ Below w.heap.size w w' := by
  obtain ⟨R, hR⟩ : ∃ R, R = recBs n (k, t, f, d) := ⟨_, rfl⟩
  rw [← hR]
  unfold recBs recB at hR
  have HR := Lib.hid hR
  clear hR
  dsimp only at HR
  have HB := Lib.hid (below_alloc1 w (.cells #[.int .i64 k, .int .i64 t, .int .i64 f, .string d] 48))
  have HX := Lib.hid (bx_new w 48 #[.int .i64 k, .int .i64 t, .int .i64 f, .string d])
  cases hn : isT n with
  | false =>
    have hr : R = ⟨#[]⟩ := by rw [HR.out, hn]; rfl
    clear HR
    subst hr
    have HN := Lib.hid hn
    clear hn
    go_enter Tryz.func30, Tryz.ntmps30
    go_wp2_with fail
    refine (is_dec n 0 1000000 false _ HN.out).mono ?_
    rintro e w1 ⟨rfl, rfl⟩
    go_wp2_with fail
    go_ret
    exact ⟨rfl, HB.out⟩
  | true =>
  have HN := Lib.hid hn
  have hnb := (isT_iff n).1 hn
  cases hs : stepB 8 k t f d with
  | false =>
    have hr : R = ⟨#[]⟩ := by rw [HR.out, hn, hs]; rfl
    clear HR
    subst hr
    have HS := Lib.hid hs
    clear hs hn
    go_enter Tryz.func30, Tryz.ntmps30
    go_wp2_with fail
    refine (is_dec n 0 1000000 true _ HN.out).mono ?_
    rintro e w1 ⟨rfl, rfl⟩
    obtain ⟨c0, c1, c2, c3, -⟩ := keepQ HX.out (Below.refl _ _)
    go_wp2_with fail
    refine (specRightS k t f 8 d _).mono ?_
    rintro e w1 ⟨rfl, hb⟩
    have HB2 := Lib.hid (below_more HB.out hb)
    clear hb
    rw [HS.out]
    go_wp2_with fail
    go_ret
    exact ⟨rfl, HB2.out⟩
  | true =>
    have hr : R = sealS (putS n ++ stepS k t f d) := by rw [HR.out, hn, hs]; rfl
    clear HR
    rw [hr]
    clear hr
    have z := recE_size (n := n) (s := (k, t, f, d)) (by unfold recB; rw [hn, hs]; rfl)
    unfold recE at z
    dsimp only at z
    have HZ := Lib.hid (show (putS n ++ stepS k t f d).size ≤ 7996 by omega)
    rw [ByteArray.size_append] at z
    have a1 : ¬ (9223372036854775807 < (putS n).size + (stepS k t f d).size) := by omega
    have HS := Lib.hid hs
    clear hs hn z
    unfold sealS
    go_enter Tryz.func30, Tryz.ntmps30
    go_wp2_with fail
    refine (is_dec n 0 1000000 true _ HN.out).mono ?_
    rintro e w1 ⟨rfl, rfl⟩
    obtain ⟨c0, c1, c2, c3, -⟩ := keepQ HX.out (Below.refl _ _)
    go_wp2_with fail
    refine (specRightS k t f 8 d _).mono ?_
    rintro e w1 ⟨rfl, hb⟩
    have hx := HX.out.next hb
    replace c0 := hx.q0
    replace c1 := hx.q1
    replace c2 := hx.q2
    replace c3 := hx.q3
    replace HB := Lib.hid (below_more HB.out hb)
    replace HX := Lib.hid hx
    clear hb hx
    rw [HS.out]
    go_wp2_with fail
    go_region_held3 (fun w' => w'.cell? ⟨w.heap.size, 0, none⟩ = some (.int .i64 k) ∧ w'.cell? ⟨w.heap.size, 1, none⟩ = some (.int .i64 t) ∧ w'.cell? ⟨w.heap.size, 2, none⟩ = some (.int .i64 f) ∧ w'.cell? ⟨w.heap.size, 3, none⟩ = some (.string d) ∧ Below w1.heap.size w1 w')
      (first | (exact keepQ HX.out (Below.refl _ _).drew) | (go_split_ands; exact keepQ HX.out (below_more (by assumption) hbn)))
      ((first | (go_at_call 59; go_split_ands; refine (specPut _ _ ?_ ?_).mono ?_; omega; omega; rintro e wn ⟨rfl, hbn⟩) | (go_at_call 61; go_split_ands; refine (specL06 k t f d _ HS.out).mono ?_; rintro e wn ⟨rfl, hbn⟩) | (go_at_call 49; go_split_ands; refine (specSeal_any _ _ HZ.out).mono ?_; rintro e wn ⟨rfl, hbn⟩)))
    all_goals go_split_ands
    all_goals have HB2 := Lib.hid (HB.out.trans (Below.mono (B := w1.heap.size) (by assumption) HB.out.size))
    all_goals (go_wp2_with fail; go_ret; exact ⟨rfl, HB2.out⟩)

theorem joined_twoA (a b : ByteArray) (w : World) (h : a.size + b.size ≤ 10000) :
    Calls Tryz.prog 44 #[.slice (some ⟨w.heap.size, 0, none⟩) 2 2] (w.alloc (.cells #[.string a, .string b] 9)) fun e w' => e = .returned (.string (a ++ b)) ∧ Below (w.alloc (.cells #[.string a, .string b] 9)).heap.size (w.alloc (.cells #[.string a, .string b] 9)) w' := by
  have := joined_cat _ [a, b] _ (rd_new w 9 [a, b] 2) (by simp) (by rw [cat_two, ByteArray.size_append]; omega)
  rw [cat_two] at this
  exact this
set_option maxRecDepth 100000 in
set_option maxHeartbeats 2000000 in
theorem implRecBs (n k t f : Int) (d : ByteArray) (w : World) :
    Calls Tryz.prog 24 #[.int .i64 n, .agg #[.int .i64 k, .int .i64 t, .int .i64 f, .string d]] w fun e w' => e = .returned (.string (recBs n (k, t, f, d))) ∧ Below w.heap.size w w' := by
  obtain ⟨R, hR⟩ : ∃ R, R = recBs n (k, t, f, d) := ⟨_, rfl⟩
  rw [← hR]
  unfold recBs recB at hR
  have HR := Lib.hid hR
  clear hR
  dsimp only at HR
  have HB := Lib.hid (below_alloc1 w (.cells #[.int .i64 k, .int .i64 t, .int .i64 f, .string d] 48))
  have HX := Lib.hid (bx_new w 48 #[.int .i64 k, .int .i64 t, .int .i64 f, .string d])
  cases hn : isT n with
  | false =>
    have hr : R = ⟨#[]⟩ := by rw [HR.out, hn]; rfl
    clear HR
    subst hr
    have HN := Lib.hid hn
    clear hn
    go_enter Tryz.func24, Tryz.ntmps24
    go_wp2_with fail
    refine (isTime_any n false _ HN.out).mono ?_
    rintro e w1 ⟨rfl, rfl⟩
    go_wp2_with fail
    go_ret
    exact ⟨rfl, HB.out⟩
  | true =>
  have HN := Lib.hid hn
  have hnb := (isT_iff n).1 hn
  cases hs : stepB 8 k t f d with
  | false =>
    have hr : R = ⟨#[]⟩ := by rw [HR.out, hn, hs]; rfl
    clear HR
    subst hr
    have HS := Lib.hid hs
    clear hs hn
    go_enter Tryz.func24, Tryz.ntmps24
    go_wp2_with fail
    refine (isTime_any n true _ HN.out).mono ?_
    rintro e w1 ⟨rfl, rfl⟩
    obtain ⟨c0, c1, c2, c3, -⟩ := keepQ HX.out (Below.refl _ _)
    go_wp2_with fail
    refine (implRight k t f 8 d _).mono ?_
    rintro e w1 ⟨rfl, hb⟩
    have HB2 := Lib.hid (below_more HB.out hb)
    clear hb
    rw [HS.out]
    go_wp2_with fail
    go_ret
    exact ⟨rfl, HB2.out⟩
  | true =>
    have hr : R = sealS (putS n ++ stepS k t f d) := by rw [HR.out, hn, hs]; rfl
    clear HR
    rw [hr]
    clear hr
    have z := recE_size (n := n) (s := (k, t, f, d)) (by unfold recB; rw [hn, hs]; rfl)
    unfold recE at z
    dsimp only at z
    have HZ := Lib.hid (show (putS n ++ stepS k t f d).size ≤ 7996 by omega)
    have HZ2 := Lib.hid (show (putS n).size + (stepS k t f d).size ≤ 10000 by rw [ByteArray.size_append] at z; omega)
    rw [ByteArray.size_append] at z
    have a1 : ¬ (9223372036854775807 < (putS n).size + (stepS k t f d).size) := by omega
    have HS := Lib.hid hs
    have HSB := Lib.hid (show stepBs k t f d = stepS k t f d by unfold stepBs; rw [hs]; rfl)
    clear hs hn z
    unfold sealS
    go_enter Tryz.func24, Tryz.ntmps24
    go_wp2_with fail
    refine (isTime_any n true _ HN.out).mono ?_
    rintro e w1 ⟨rfl, rfl⟩
    obtain ⟨c0, c1, c2, c3, -⟩ := keepQ HX.out (Below.refl _ _)
    go_wp2_with fail
    refine (implRight k t f 8 d _).mono ?_
    rintro e w1 ⟨rfl, hb⟩
    have hx := HX.out.next hb
    replace c0 := hx.q0
    replace c1 := hx.q1
    replace c2 := hx.q2
    replace c3 := hx.q3
    replace HB := Lib.hid (below_more HB.out hb)
    replace HX := Lib.hid hx
    clear hb hx
    rw [HS.out]
    have HSS := Lib.hid (fun w => implStepBs k t f d w)
    rw [HSB.out] at HSS
    go_wp2_with fail
    go_region_held3 (fun w' => w'.cell? ⟨w.heap.size, 0, none⟩ = some (.int .i64 k) ∧ w'.cell? ⟨w.heap.size, 1, none⟩ = some (.int .i64 t) ∧ w'.cell? ⟨w.heap.size, 2, none⟩ = some (.int .i64 f) ∧ w'.cell? ⟨w.heap.size, 3, none⟩ = some (.string d) ∧ Below w1.heap.size w1 w')
      (first | (exact keepQ HX.out (Below.refl _ _).drew) | (go_split_ands; exact keepQ HX.out (below_more (by assumption) hbn)) | (go_split_ands; exact keepQ HX.out (below_more (by assumption) (below_alloc1 _ _))))
      ((first | (go_at_call 40; go_split_ands; refine (implPut _ _ ?_ ?_).mono ?_; omega; omega; rintro e wn ⟨rfl, hbn⟩) | (go_at_call 42; go_split_ands; refine (HSS.out _).mono ?_; rintro e wn ⟨rfl, hbn⟩) | (go_at_call 44; refine (joined_twoA (putS n) (stepS k t f d) _ HZ2.out).mono ?_; rintro e wn ⟨rfl, hbn⟩) | (go_at_call 43; go_split_ands; refine (implSeal_any _ _ HZ.out).mono ?_; rintro e wn ⟨rfl, hbn⟩)))
    all_goals go_split_ands
    all_goals have HB2 := Lib.hid (HB.out.trans (Below.mono (B := w1.heap.size) (by assumption) HB.out.size))
    all_goals (go_wp2_with fail; go_ret; exact ⟨rfl, HB2.out⟩)
end Go.Proofs.YthkbllkhomjmbaaGreatDoor

namespace Go.Proofs.YthkbllkhomjmbaaGreatDoor
open Go.RowKit

attribute [local go_sem ↓] Go.wp_at_zero Go.wp_at_succ

set_option maxHeartbeats 400000 in
theorem specUnseal_bad (s : ByteArray) (n : Nat) (w : World) (hs : s.size ≤ 8000) (h4 : 4 ≤ s.size) (hn : (s.size : Int) - 4 = n)
    (hcmp : ((fourS (crcF 0 (s.extract 0 n))).toList == (s.extract n s.size).toList) = false) :
    Calls Tryz.prog 50 #[.string s] w fun e w' => e = .returned (.agg #[.string ⟨#[]⟩, .int .i64 0, .int .i64 5]) ∧ Below w.heap.size w w' := by
  have b0 : (0 : Int) ≤ (n : Int) := by omega
  have b1 : (n : Int) ≤ (s.size : Int) := by omega
  have b2 : n ≤ s.size := by omega
  have HZ := Lib.hid (show (s.extract 0 n).size ≤ maxLen by unfold maxLen; simp; omega)
  have HC := Lib.hid (crcF_bound 0 (s.extract 0 n))
  have hw : IntKind.i64.wrap (n : Int) = n := IntWalk.i64_in _ (by omega)
  go_enter Tryz.func50, Tryz.ntmps50
  go_wp2_with fail
  go_region_held3 (fun _ => True) (trivial) (first | (go_at_call 98; refine (specCrc_any _ _ _ HZ.out (by omega) (by omega)).mono ?_; rintro e w' ⟨rfl, rfl⟩) | (go_at_call 97; refine (four_any _ _ HC.out.1 HC.out.2).mono ?_; rintro e w' ⟨rfl, hb⟩))
  obtain ⟨q0, q1, q2, f0, f1, f2⟩ := res_cells hb (res_size _ _)
  go_wp2
  exact bodyPost_ret (v := .agg #[.string ⟨#[]⟩, .int .i64 0, .int .i64 5]) (by simp [results, Tryz.results50, go_sem, q0, q1, q2]) rfl ⟨rfl, res_below hb (res_size _ _) _ _ _⟩

set_option maxHeartbeats 400000 in
theorem specUnseal_good (s : ByteArray) (n : Nat) (w : World) (hs : s.size ≤ 8000) (h4 : 4 ≤ s.size) (hn : (s.size : Int) - 4 = n)
    (hcmp : ((fourS (crcF 0 (s.extract 0 n))).toList == (s.extract n s.size).toList) = true) :
    Calls Tryz.prog 50 #[.string s] w fun e w' => e = .returned (.agg #[.string (s.extract 0 n), .int .i64 0, .int .i64 0]) ∧ Below w.heap.size w w' := by
  have b0 : (0 : Int) ≤ (n : Int) := by omega
  have b1 : (n : Int) ≤ (s.size : Int) := by omega
  have b2 : n ≤ s.size := by omega
  have HZ := Lib.hid (show (s.extract 0 n).size ≤ maxLen by unfold maxLen; simp; omega)
  have HC := Lib.hid (crcF_bound 0 (s.extract 0 n))
  have hw : IntKind.i64.wrap (n : Int) = n := IntWalk.i64_in _ (by omega)
  go_enter Tryz.func50, Tryz.ntmps50
  go_wp2_with fail
  go_region_held3 (fun _ => True) (trivial) (first | (go_at_call 98; refine (specCrc_any _ _ _ HZ.out (by omega) (by omega)).mono ?_; rintro e w' ⟨rfl, rfl⟩) | (go_at_call 97; refine (four_any _ _ HC.out.1 HC.out.2).mono ?_; rintro e w' ⟨rfl, hb⟩))
  obtain ⟨q0, q1, q2, f0, f1, f2⟩ := res_cells hb (res_size _ _)
  go_wp2
  exact bodyPost_ret (v := .agg #[.string (s.extract 0 n), .int .i64 0, .int .i64 0]) (by simp [results, Tryz.results50, go_sem, q0, q1, q2]) rfl ⟨rfl, res_below hb (res_size _ _) _ _ _⟩

set_option maxHeartbeats 400000 in
theorem specUnseal_long (s : ByteArray) (w : World) (hs : s.size ≤ maxLen) (h8 : 8000 < s.size) :
    Calls Tryz.prog 50 #[.string s] w fun e w' => e = .returned (.agg #[.string ⟨#[]⟩, .int .i64 0, .int .i64 2]) ∧ Below w.heap.size w w' := by
  unfold maxLen at hs
  go_enter Tryz.func50, Tryz.ntmps50
  go_wp2_with fail
  exact bodyPost_ret (v := .agg #[.string ⟨#[]⟩, .int .i64 0, .int .i64 2]) (by simp [results, Tryz.results50, go_sem]) rfl ⟨rfl, (Below.refl _ _).alloc (Nat.le_refl _) _⟩

set_option maxHeartbeats 400000 in
theorem specUnseal_short (s : ByteArray) (w : World) (hs : s.size ≤ maxLen) (h8 : s.size < 4) :
    Calls Tryz.prog 50 #[.string s] w fun e w' => e = .returned (.agg #[.string ⟨#[]⟩, .int .i64 0, .int .i64 4]) ∧ Below w.heap.size w w' := by
  unfold maxLen at hs
  go_enter Tryz.func50, Tryz.ntmps50
  go_wp2_with fail
  exact bodyPost_ret (v := .agg #[.string ⟨#[]⟩, .int .i64 0, .int .i64 4]) (by simp [results, Tryz.results50, go_sem]) rfl ⟨rfl, (Below.refl _ _).alloc (Nat.le_refl _) _⟩

/-- What a seal holds, and the code. -/
def unsealT (s : ByteArray) : ByteArray × Int :=
  if 8000 < s.size then (⟨#[]⟩, 2) else if s.size < 4 then (⟨#[]⟩, 4) else
  if ((fourS (crcF 0 (s.extract 0 (s.size - 4)))).toList == (s.extract (s.size - 4) s.size).toList) = true then (s.extract 0 (s.size - 4), 0) else (⟨#[]⟩, 5)
theorem specUnsealT (s : ByteArray) (w : World) (hs : s.size ≤ maxLen) :
    Calls Tryz.prog 50 #[.string s] w fun e w' => e = .returned (.agg #[.string (unsealT s).1, .int .i64 0, .int .i64 (unsealT s).2]) ∧ Below w.heap.size w w' := by
  unfold unsealT
  by_cases h8 : 8000 < s.size
  · rw [if_pos h8]; exact specUnseal_long s w hs h8
  rw [if_neg h8]
  by_cases h4 : s.size < 4
  · rw [if_pos h4]; exact specUnseal_short s w hs h4
  rw [if_neg h4]
  have hn : (s.size : Int) - 4 = ((s.size - 4 : Nat) : Int) := by omega
  generalize s.size - 4 = n at *
  by_cases hc : ((fourS (crcF 0 (s.extract 0 n))).toList == (s.extract n s.size).toList) = true
  · rw [if_pos hc]; exact specUnseal_good s n w (by omega) (by omega) hn hc
  · rw [if_neg hc]; exact specUnseal_bad s n w (by omega) (by omega) hn (by simpa using hc)
theorem unsealT_size (s : ByteArray) : (unsealT s).1.size ≤ 8000 := by
  unfold unsealT
  split
  · exact Nat.zero_le _
  · split
    · exact Nat.zero_le _
    · split
      · simp; omega
      · exact Nat.zero_le _
end Go.Proofs.YthkbllkhomjmbaaGreatDoor

namespace Go.Proofs.YthkbllkhomjmbaaGreatDoor
open Go.RowKit

/-- A drawn list of texts: of the call's own since w; the source lies in block b. -/
structure YSt (m : Nat) (b : Nat) (a : Option Addr) (len cap : Nat) (w : World) (l : List ByteArray) (v : Value) (wr : World) : Prop where
  gr : Gr wr w.heap.size 9 1 v l.length (strs l)
  src : Src wr b a len cap
  kept : Kept b w wr
  small : ∀ s ∈ l, s.size ≤ m
section
variable {m b : Nat} {a : Option Addr} {len cap : Nat} {w : World} {l : List ByteArray} {v : Value} {w1 w2 : World}
theorem YSt.keep (h : YSt m b a len cap w l v w1) (hk : Kept b w1 w2) (hs : Src w2 b a len cap) (hb : b < w.heap.size) : YSt m b a len cap w l v w2 :=
  ⟨h.gr.kept hk hb, hs, h.kept.trans hk, h.small⟩
theorem YSt.next (h : YSt m b a len cap w l v w1) (hb2 : Below w1.heap.size w1 w2) (hb : b < w.heap.size) : YSt m b a len cap w l v w2 :=
  h.keep (below_kept hb2) (h.src.below hb2) hb
theorem YSt.grow (h : YSt m b a len cap w l v w1) (hb : b < w.heap.size) (x : ByteArray) (hx : x.size ≤ m) (g c : Nat)
    (hg : Gr w2 w.heap.size 9 1 (.slice (some ⟨g, 0, none⟩) (l.length + 1) c) (l.length + 1) (strs l ++ [.string x])) (hgr : w1.grownBy w2 (blk v l.length)) : YSt m b a len cap w (l ++ [x]) (.slice (some ⟨g, 0, none⟩) (l ++ [x]).length c) w2 := by
  have hlo : ∀ k, blk v l.length = some k → w.heap.size ≤ k := fun k hk => (h.gr.own.blk k hk).1
  refine ⟨?_, h.src.grown hgr (fun e => by have := hlo b e; omega), ⟨hgr.os.trans h.kept.os, hgr.tape.trans h.kept.tape, hgr.output.trans h.kept.output, Nat.le_trans h.kept.size hgr.size, fun k hk hne => ?_⟩, ?_⟩
  · rw [List.length_append, strs_snoc]; exact hg
  · rw [hgr.block k (Nat.lt_of_lt_of_le hk h.kept.size) (fun e => by have := hlo k e.symm; omega)]
    exact h.kept.block k hk hne
  · intro d hd
    rcases List.mem_append.1 hd with h' | h'
    · exact h.small d h'
    · rw [List.mem_singleton.1 h']; exact hx
theorem YSt.from (h : YSt m b a len cap w1 l v w2) (hk : Kept b w w1) : YSt m b a len cap w l v w2 := ⟨h.gr.lower hk.size, h.src, hk.trans h.kept, h.small⟩
/-- One block written. -/
theorem YSt.put {g c : Nat} (h : YSt m b a len cap w l (.slice (some ⟨g, 0, none⟩) l.length c) w1) (hb : b < w.heap.size) (j : Nat) (hj : j < l.length) (x : ByteArray) (hx : x.size ≤ m) :
    YSt m b a len cap w (l.set j x) (.slice (some ⟨g, 0, none⟩) l.length c) (w1.setCell ⟨g, j, none⟩ (.string x)) := by
  have hg : w.heap.size ≤ g := (h.gr.own.blk g (blk_pos (by omega))).1
  refine ⟨?_, h.src.grown (row := some g) (grown_set (World.grownBy.refl w1 (some g))) (fun e => by have := Option.some.inj e; omega), h.kept.box j (.string x) hg, ?_⟩
  · rw [List.length_set, strs_set]; exact h.gr.set (by omega) j _
  · intro d hd
    rcases List.mem_or_eq_of_mem_set hd with h' | h'
    · exact h.small d h'
    · rw [h']; exact hx
end
theorem YSt.more {m m' b : Nat} {a : Option Addr} {len cap : Nat} {w : World} {l : List ByteArray} {v : Value} {w1 : World} (h : YSt m b a len cap w l v w1) (hm : m ≤ m') : YSt m' b a len cap w l v w1 := ⟨h.gr, h.src, h.kept, fun s hs => Nat.le_trans (h.small s hs) hm⟩
theorem recBs_size (n : Int) (s : stpT) : (recBs n s).size ≤ 104 := by
  cases h : recB n s with
  | false => rw [recBs_no h]; exact Nat.zero_le _
  | true =>
    have := recE_size h
    rw [recBs_yes h]
    unfold sealS
    rw [ByteArray.size_append, fourS_size]; omega
theorem kept_of (b : Nat) {w w' : World} (h : Below w.heap.size w w') : Kept b w w' := ⟨h.os, h.tape, h.output, h.size, fun k hk _ => h.block k hk⟩
theorem unsealT_szr (s : ByteArray) : (unsealT s).1.size ≤ s.size := by
  unfold unsealT
  split
  · exact Nat.zero_le _
  · split
    · exact Nat.zero_le _
    · split
      · simp
      · exact Nat.zero_le _
/-- A text and a number drawn from bytes. -/
def DrawnSI (m : Nat) (w : World) (e : Ending) (w' : World) : Prop := ∃ (s : ByteArray) (n : Int), s.size ≤ m ∧ e = .returned (.tuple #[.string s, .int .i64 n]) ∧ Below w.heap.size w w'

set_option maxRecDepth 100000 in
set_option maxHeartbeats 4000000 in
theorem drawRecRead_any (a : Option Addr) (len cap : Nat) (w : World) (hB : Bytes w a len) (hl : len ≤ 1048576) :
    Calls Tryz.prog 25 #[.slice a len cap] w (DrawnSI 1005 w) := by
  have HB := Lib.hid hB
  clear hB
  go_enter Tryz.func25, Tryz.ntmps25
  go_wp2_with fail
  refine (source_any a len cap w HB.out hl).mono ?_
  rintro e w1 ⟨rfl, hs1, hb1⟩
  have hbl := hs1.lt
  have HS1 := Lib.hid hs1
  have HR := Lib.hid (HB.out.row hb1 (Nat.le_refl _))
  have HB1 := Lib.hid hb1
  have hz1 := hb1.size
  clear hs1 hb1
  go_wp2_with fail
  refine (n_any w.heap.size a len cap 20 w1 HS1.out HR.out (by omega) (by omega)).mono ?_
  rintro e w2 ⟨n, -, rfl, hs2, hk2⟩
  have HS2 := Lib.hid hs2
  have HK2 := Lib.hid hk2
  clear hs2 hk2 HS1
  go_wp2_with fail
  refine (any_any w.heap.size a len cap w2 HS2.out (HR.out.kept HK2.out)).mono ?_
  rintro e w3 ⟨x, hx, rfl, hs3, hk3⟩
  unfold stpV
  have HS3 := Lib.hid hs3
  have HK3 := Lib.hid (HK2.out.trans hk3)
  clear hs3 hk3 HS2 HK2
  go_wp2_with fail
  refine (specRecBs n _ _ _ _ _).mono ?_
  rintro e w4 ⟨rfl, hb4⟩
  have HS4 := Lib.hid (HS3.out.grown (below_grown hb4) (by simp))
  have HK4 := Lib.hid (HK3.out.trans (kept_of _ hb4))
  have hts := recBs_size n x
  generalize recBs n x = t at *
  clear hb4 HS3 HK3
  go_wp2_with fail
  refine (n_any w.heap.size a len cap 6 w4 HS4.out (HR.out.kept HK4.out) (by omega) (by omega)).mono ?_
  rintro e w5 ⟨v, ⟨hv0, hv1⟩, rfl, hs5, hk5⟩
  have HS5 := Lib.hid hs5
  have HK5 := Lib.hid (HK4.out.trans hk5)
  clear hs5 hk5 HS4 HK4
  have hv : v = 0 ∨ v = 1 ∨ v = 2 ∨ v = 3 ∨ v = 4 ∨ v = 5 := by omega
  clear hv0 hv1
  rcases hv with rfl | rfl | rfl | rfl | rfl | rfl
  · go_wp2_with fail
    refine (spoil_any w.heap.size a len cap t w5 HS5.out (HR.out.kept HK5.out) (by omega)).mono ?_
    rintro e w6 ⟨s, hs, rfl, hs6, hk6⟩
    have HK6 := Lib.hid (HK5.out.trans hk6)
    clear hs6 hk6 HS5 HK5
    go_wp2_with fail
    exact bodyPost_ret (v := .tuple #[.string s, .int .i64 n]) (by simp [results, Tryz.results25, go_sem]) rfl ⟨s, n, by omega, rfl, HB1.out.trans (HK6.out.below (Nat.le_refl _) hz1)⟩
  · have m0 : wrap64 ((t.size : Int) + 1) = ((t.size + 1 : Nat) : Int) := by rw [IntWalk.wrap64_in _ (by omega)]; omega
    go_wp2_with fail
    refine (n_any1 w.heap.size a len cap (t.size + 1) w5 HS5.out (HR.out.kept HK5.out) (by omega) (by omega)).mono ?_
    rintro e w6 ⟨j, hj, rfl, hs6, hk6⟩
    have HK6 := Lib.hid (HK5.out.trans hk6)
    have e0 : (0 : Int) ≤ (j : Int) := by omega
    have e1 : (j : Int) ≤ (t.size : Int) := by omega
    have hz : (t.extract 0 j).size ≤ 1005 := by simp [ByteArray.size_extract]; omega
    clear hs6 hk6 HS5 HK5 m0
    go_wp2_with fail
    exact bodyPost_ret (v := .tuple #[.string (t.extract 0 j), .int .i64 n]) (by simp [results, Tryz.results25, go_sem]) rfl ⟨_, n, hz, rfl, HB1.out.trans (HK6.out.below (Nat.le_refl _) hz1)⟩
  · have hut := unsealT_szr t
    go_wp2_with fail
    refine (specUnsealT t _ (by unfold maxLen; omega)).mono ?_
    rintro e w6 ⟨rfl, hb6⟩
    have HS6 := Lib.hid (HS5.out.grown (below_grown hb6) (by simp))
    have HK6 := Lib.hid (HK5.out.trans (kept_of _ hb6))
    clear hb6 HS5 HK5
    generalize (unsealT t).1 = u at *
    generalize (unsealT t).2 = uc at *
    have hf : (Instr.field 74 (.agg #[.string u, .int .i64 0, .int .i64 uc]) 0).run Tryz.prog w6 = .ok (.string u) w6 := by simp [Instr.field, go_sem, asAgg]
    go_wp2_with fail
    refine (spoil_any w.heap.size a len cap u w6 HS6.out (HR.out.kept HK6.out) (by omega)).mono ?_
    rintro e w7 ⟨s, hs, rfl, hs7, hk7⟩
    have HK7 := Lib.hid (HK6.out.trans hk7)
    clear hs7 hk7 HS6 HK6 hf
    go_wp2_with fail
    refine (specSeal_any s _ (by omega)).mono ?_
    rintro e w8 ⟨rfl, hb8⟩
    have HK8 := Lib.hid (HK7.out.trans (kept_of _ hb8))
    have hz : (s ++ fourS (crcF 0 s)).size ≤ 1005 := by rw [ByteArray.size_append, fourS_size]; omega
    clear hb8 HK7
    generalize s ++ fourS (crcF 0 s) = S at *
    go_wp2_with fail
    exact bodyPost_ret (v := .tuple #[.string S, .int .i64 n]) (by simp [results, Tryz.results25, go_sem]) rfl ⟨S, n, hz, rfl, HB1.out.trans (HK8.out.below (Nat.le_refl _) hz1)⟩
  · go_wp2_with fail
    refine (n_any w.heap.size a len cap 20 w5 HS5.out (HR.out.kept HK5.out) (by omega) (by omega)).mono ?_
    rintro e w6 ⟨n2, -, rfl, hs6, hk6⟩
    have HK6 := Lib.hid (HK5.out.trans hk6)
    clear hs6 hk6 HS5 HK5
    go_wp2_with fail
    exact bodyPost_ret (v := .tuple #[.string t, .int .i64 n2]) (by simp [results, Tryz.results25, go_sem]) rfl ⟨t, n2, by omega, rfl, HB1.out.trans (HK6.out.below (Nat.le_refl _) hz1)⟩
  · go_wp2_with fail
    exact bodyPost_ret (v := .tuple #[.string t, .int .i64 n]) (by simp [results, Tryz.results25, go_sem]) rfl ⟨t, n, by omega, rfl, HB1.out.trans (HK5.out.below (Nat.le_refl _) hz1)⟩
  · go_wp2_with fail
    exact bodyPost_ret (v := .tuple #[.string t, .int .i64 n]) (by simp [results, Tryz.results25, go_sem]) rfl ⟨t, n, by omega, rfl, HB1.out.trans (HK5.out.below (Nat.le_refl _) hz1)⟩
end Go.Proofs.YthkbllkhomjmbaaGreatDoor

namespace Go.Proofs.YthkbllkhomjmbaaGreatDoor
open Go.RowKit

def S1Rel (b : Nat) (a : Option Addr) (len cap : Nat) (w : World) (n : Nat) (v i : Value) (wr : World) : Prop :=
  ∃ (k : Nat) (ls : List ByteArray), k ≤ n ∧ i = .int .i64 (k : Int) ∧ ls.length = k ∧ YSt 104 b a len cap w ls v wr
def S2Rel (b : Nat) (a : Option Addr) (len cap : Nat) (w : World) (v i : Value) (wr : World) : Prop :=
  ∃ (j : Nat) (ls : List ByteArray), i = .int .i64 (j : Int) ∧ ls.length + j ≤ 9 ∧ YSt 104 b a len cap w ls v wr
def lenV : Value → Nat
  | .slice _ n _ => n
  | _ => 0
def S3Rel (b : Nat) (a : Option Addr) (len cap : Nat) (w : World) (v : Value) (wr : World) : Prop :=
  ∃ (ls : List ByteArray), ls.length ≤ 25 ∧ YSt 1001 b a len cap w ls v wr
/-- What a draw of sectors gives. -/
def DrawnY (b : Nat) (a : Option Addr) (len cap : Nat) (w : World) (e : Ending) (w' : World) : Prop :=
  ∃ ls v, ls.length ≤ 25 ∧ e = .returned v ∧ YSt 1001 b a len cap w ls v w'
set_option maxRecDepth 100000 in
set_option maxHeartbeats 4000000 in
/-- The last part: perhaps filled up with empty sectors. -/
theorem sectors_any (b : Nat) (a : Option Addr) (len cap : Nat) (w : World) (hS : Src w b a len cap) (hR : Row w a len b) :
    Calls Tryz.prog 80 #[.pointer (some ⟨b, 0, none⟩)] w (DrawnY b a len cap w) := by
  obtain ⟨i0, hi, hz0, hz1, hz2'⟩ := info_parts Tryz.info9
  have hbl := hS.lt
  have HR := Lib.hid hR
  have HS := Lib.hid (hS.below (below_alloc1 w (.cells #[] 9)))
  have K0 := Lib.hid (below_kept (b := b) (below_alloc1 w (.cells #[] 9)))
  clear hS hR
  go_enter Tryz.func80, Tryz.ntmps80
  go_wp2_with fail
  refine (steps_any b a len cap _ HS.out (HR.out.kept K0.out)).mono ?_
  rintro e w1 ⟨sl, sv, hsl, rfl, hst⟩
  obtain ⟨xs, cs, rfl⟩ := gr_form hst.gr
  have K1 := Lib.hid (K0.out.trans hst.kept)
  have hz1w : w.heap.size ≤ w1.heap.size := K1.out.size
  have hbl1 : b < w1.heap.size := by omega
  have SL := Lib.hid (fun wr (h : Kept b w1 wr) => (hst.gr.kept h (by simp; omega)).own.rd)
  have ST0 := Lib.hid (show YSt 104 b a len cap w1 [] (.slice (some ⟨w.heap.size, 0, none⟩) 0 0) w1 from ⟨.inr ⟨rfl, rfl, .inr ⟨_, rfl⟩⟩, hst.src, Kept.refl b w1, by simp⟩)
  clear hst HS K0
  go_wp2_with fail
  go_loopw [3, 5] (fun v i wr => S1Rel b a len cap w1 sl.length v i wr) (fun _ i _ => sl.length - (intOf i).toNat)
  case atStart => exact ⟨0, [], Nat.zero_le _, rfl, rfl, ST0.out⟩
  case round =>
    clear ST0
    obtain ⟨k, ls, hk, rfl, hlen, hst⟩ := hrel
    obtain ⟨x3, c3, rfl⟩ := gr_form hst.gr
    have ST := Lib.hid hst
    have HLEN := Lib.hid hlen
    have hll : ls.length ≤ 6 := by omega
    clear hst hlen
    by_cases hlt : k < sl.length
    · have hrd := SL.out wr ST.out.kept
      obtain ⟨bb, off, rfl, hbb, hcell⟩ := hrd.get (by omega)
      have r0 : wr.cell? ⟨bb, off + k * 4, none⟩ = some (.int .i64 sl[k].1) := by rw [hcell (k * 4) (by omega), stpCs_0 sl k hlt]
      have r1 : wr.cell? ⟨bb, off + k * 4 + 1, none⟩ = some (.int .i64 sl[k].2.1) := by rw [Nat.add_assoc, hcell (k * 4 + 1) (by omega), stpCs_1 sl k hlt]
      have r2 : wr.cell? ⟨bb, off + k * 4 + 2, none⟩ = some (.int .i64 sl[k].2.2.1) := by rw [Nat.add_assoc, hcell (k * 4 + 2) (by omega), stpCs_2 sl k hlt]
      have r3 : wr.cell? ⟨bb, off + k * 4 + 3, none⟩ = some (.string sl[k].2.2.2) := by rw [Nat.add_assoc, hcell (k * 4 + 3) (by omega), stpCs_3 sl k hlt]
      have e0 : (k : Int) < (sl.length : Int) := by omega
      have e1 : (0 : Int) ≤ (k : Int) := by omega
      have hz := recBs_size (k : Int) (sl[k].1, sl[k].2.1, sl[k].2.2.1, sl[k].2.2.2)
      have RB := Lib.hid (fun w => specRecBs (k : Int) sl[k].1 sl[k].2.1 sl[k].2.2.1 sl[k].2.2.2 w)
      generalize sl[k] = y at *
      obtain ⟨M, hM⟩ : ∃ M, M = recBs (k : Int) (y.1, y.2.1, y.2.2.1, y.2.2.2) := ⟨_, rfl⟩
      rw [← hM] at hz RB
      clear hM hcell hrd
      go_wp2_with fail
      refine (RB.out _).mono ?_
      rintro e w2 ⟨rfl, hb2⟩
      have S2 := Lib.hid (ST.out.next hb2 hbl1)
      have hz2 : w1.heap.size ≤ w2.heap.size := S2.out.kept.size
      clear hb2 ST r0 r1 r2 r3 RB
      go_wp2_with ((with_reducible show wpList _ _ _ (⟨some 25, _, _, _, _, _⟩ :: _) _ _); refine wpList_append_gr (lo := w1.heap.size) (e := 9) (sz := 1) (v := .slice x3 ls.length c3) (n := ls.length) (xs := strs ls) rfl (.tmp 17) (.tmp 24) 23 rfl i0 _ 16 Tryz.underlying23 hi hz0 hz1 hz2' rfl (by decide) rfl (by rw [strs_length]; omega) ?_ ⟨w2.heap.size, 0, none⟩ 1 1 rfl [.string M] (by decide) rfl ?_ ?_ (by unfold maxLen; omega) (by omega) (by simp; omega) ?_)
      · exact (S2.out.next (below_alloc1 w2 _) hbl1).gr
      · exact one_new w2 _ 9
      · intro u hu; simp at hu; rcases hu with rfl; rfl
      · intro gg cc w8 hgn hgr hloc
        have S10 := Lib.hid ((S2.out.next (below_alloc1 w2 _) hbl1).grow hbl1 M hz gg cc hgn hgr)
        clear hgn hgr hloc
        go_wp2_with fail
        go_roundw
        case rel => exact ⟨k + 1, ls ++ [M], by omega, by go_num, by rw [List.length_append, HLEN.out]; rfl, by have := S10.out; simpa using this⟩
        case measure => simp [intOf]; omega
    · have hkk : k = sl.length := by omega
      clear SL hkk HLEN
      go_wp2_with fail
      refine (n_any b a len cap 4 wr ST.out.src (HR.out.kept (K1.out.trans ST.out.kept)) (by omega) (by omega)).mono ?_
      rintro e w2 ⟨y, ⟨hy0, hy1⟩, rfl, hs2, hk2⟩
      obtain ⟨j0, rfl⟩ := Int.eq_ofNat_of_zero_le hy0
      have S2 := Lib.hid (ST.out.keep hk2 hs2 hbl1)
      have hj0 : ls.length + j0 ≤ 9 := by omega
      clear hs2 hk2 ST hy0 hy1
      go_wp2_with fail
      go_loopw [3, 6] (fun v i wr => S2Rel b a len cap w1 v i wr) (fun _ i _ => (intOf i).toNat)
      case atStart => exact ⟨j0, ls, rfl, hj0, S2.out⟩
      case round =>
        clear S2 hj0 hll
        obtain ⟨j, l2, rfl, hlj, hst⟩ := hrel
        obtain ⟨x4, c4, rfl⟩ := gr_form hst.gr
        have ST := Lib.hid hst
        clear hst
        have hzr : w1.heap.size ≤ wr.heap.size := ST.out.kept.size
        by_cases hlt2 : 0 < j
        · have e0 : (0 : Int) < (j : Int) := by omega
          have m1 : IntKind.i64.wrap ((j : Int) - 1) = (j : Int) - 1 := IntWalk.i64_in _ (by omega)
          have m2 : wrap64 ((j : Int) - 1) = (j : Int) - 1 := IntWalk.wrap64_in _ (by omega)
          go_wp2_with ((with_reducible show wpList _ _ _ (⟨some 34, _, _, _, _, _⟩ :: _) _ _); refine wpList_append_gr (lo := w1.heap.size) (e := 9) (sz := 1) (v := .slice x4 l2.length c4) (n := l2.length) (xs := strs l2) rfl (.tmp 32) (.tmp 33) 23 rfl i0 _ 16 Tryz.underlying23 hi hz0 hz1 hz2' rfl (by decide) rfl (by rw [strs_length]; omega) ?_ ⟨wr.heap.size, 0, none⟩ 1 1 rfl [.string { data := #[] }] (by decide) rfl ?_ ?_ (by unfold maxLen; omega) (by omega) (by simp; omega) ?_)
          · exact (ST.out.next (below_alloc1 wr _) hbl1).gr
          · exact one_new wr _ 9
          · intro u hu; simp at hu; rcases hu with rfl; rfl
          · intro gg cc w8 hgn hgr hloc
            have S10 := Lib.hid ((ST.out.next (below_alloc1 wr _) hbl1).grow hbl1 { data := #[] } (Nat.zero_le _) gg cc hgn hgr)
            clear hgn hgr hloc
            go_wp2_with fail
            go_roundw
            case rel => exact ⟨j - 1, l2 ++ [{ data := #[] }], by first | rfl | (congr 1; omega) | (rw [show ((j - 1 : Nat) : Int) = (j : Int) - 1 by omega]), by simp; omega, by have := S10.out; simpa using this⟩
            case measure => simp [intOf]; omega
        · obtain rfl : j = 0 := by omega
          have hl9 : l2.length ≤ 9 := by omega
          have m9 : IntKind.i64.wrap ((l2.length : Nat) : Int) = (l2.length : Int) := IntWalk.i64_in _ (by omega)
          clear hlj hlt2
          by_cases hp0 : 0 < l2.length
          rotate_left
          · have dz : ((0 : Int) < (l2.length : Int)) = False := eq_false (by omega)
            have ST9 := Lib.hid (ST.out.more (m' := 1001) (by decide))
            clear ST
            go_wp2_with fail
            refine (one_any b a len cap 25 _ ST9.out.src (HR.out.kept (K1.out.trans ST9.out.kept)) (by omega) (by omega)).mono ?_
            rintro e w9 ⟨bb9, rfl, hs9, hk9⟩
            have ST10 := Lib.hid (ST9.out.keep hk9 hs9 hbl1)
            clear hs9 hk9 ST9
            cases bb9 with
            | false =>
              go_wp2_with fail
              go_ret
              exact ⟨l2, _, by first | omega | (rw [List.length_set]; omega), by first | rfl | (rw [List.length_set]), ST10.out.from K1.out⟩
            | true =>
              go_wp2_with fail
              go_loopw [3] (fun v wr => S3Rel b a len cap w1 v wr) (fun v _ => 25 - lenV v)
              case atStart => exact ⟨l2, by first | omega | (rw [List.length_set]; omega), ST10.out⟩
              case round =>
                clear ST10
                obtain ⟨l3, hl3, hst⟩ := hrel
                obtain ⟨x5, c5, rfl⟩ := gr_form hst.gr
                have ST := Lib.hid hst
                clear hst
                go_wp2_with fail
                refine (n_any b a len cap 2 _ ST.out.src (HR.out.kept (K1.out.trans ST.out.kept)) (by omega) (by omega)).mono ?_
                rintro e w11 ⟨y, ⟨hy0, hy1⟩, rfl, hs11, hk11⟩
                obtain ⟨r, rfl⟩ := Int.eq_ofNat_of_zero_le hy0
                have S11 := Lib.hid (ST.out.keep hk11 hs11 hbl1)
                have hzr : w1.heap.size ≤ w11.heap.size := S11.out.kept.size
                have m1 : IntKind.i64.wrap (24 + (r : Int)) = 24 + (r : Int) := IntWalk.i64_in _ (by omega)
                have m2 : wrap64 (24 + (r : Int)) = 24 + (r : Int) := IntWalk.wrap64_in _ (by omega)
                clear hs11 hk11 ST
                by_cases hlt3 : (l3.length : Int) < 24 + (r : Int)
                · have dl : decide ((l3.length : Int) < 24 + (r : Int)) = true := decide_eq_true hlt3
                  go_wp2_with ((with_reducible show wpList _ _ _ (⟨some 82, _, _, _, _, _⟩ :: _) _ _); refine wpList_append_gr (lo := w1.heap.size) (e := 9) (sz := 1) (v := .slice x5 l3.length c5) (n := l3.length) (xs := strs l3) rfl (.tmp 80) (.tmp 81) 23 rfl i0 _ 16 Tryz.underlying23 hi hz0 hz1 hz2' rfl (by decide) rfl (by rw [strs_length]; omega) ?_ ⟨w11.heap.size, 0, none⟩ 1 1 rfl [.string { data := #[] }] (by decide) rfl ?_ ?_ (by unfold maxLen; omega) (by omega) (by simp; omega) ?_)
                  · exact (S11.out.next (below_alloc1 w11 _) hbl1).gr
                  · exact one_new w11 _ 9
                  · intro u hu; simp at hu; rcases hu with rfl; rfl
                  · intro gg cc w8 hgn hgr hloc
                    have S10 := Lib.hid ((S11.out.next (below_alloc1 w11 _) hbl1).grow hbl1 { data := #[] } (Nat.zero_le _) gg cc hgn hgr)
                    clear hgn hgr hloc m1 m2
                    go_wp2_with fail
                    go_roundw
                    case rel => exact ⟨l3 ++ [{ data := #[] }], by simp; omega, by have := S10.out; simpa using this⟩
                    case measure => simp [lenV]; omega
                · have dl : decide ((l3.length : Int) < 24 + (r : Int)) = false := decide_eq_false hlt3
                  go_wp2_with fail
                  go_ret
                  exact ⟨l3, _, by omega, rfl, S11.out.from K1.out⟩
          have dp : (0 : Int) < (l2.length : Int) := by omega
          go_wp2_with fail
          refine (one_any b a len cap 4 _ ST.out.src (HR.out.kept (K1.out.trans ST.out.kept)) (by omega) (by omega)).mono ?_
          rintro e w5 ⟨bb, rfl, hs5, hk5⟩
          have ST5 := Lib.hid (ST.out.keep hk5 hs5 hbl1)
          clear hs5 hk5 ST
          cases bb with
          | false =>
            have ST9 := Lib.hid (ST5.out.more (m' := 1001) (by decide))
            clear ST5
            go_wp2_with fail
            refine (one_any b a len cap 25 _ ST9.out.src (HR.out.kept (K1.out.trans ST9.out.kept)) (by omega) (by omega)).mono ?_
            rintro e w9 ⟨bb9, rfl, hs9, hk9⟩
            have ST10 := Lib.hid (ST9.out.keep hk9 hs9 hbl1)
            clear hs9 hk9 ST9
            cases bb9 with
            | false =>
              go_wp2_with fail
              go_ret
              exact ⟨l2, _, by first | omega | (rw [List.length_set]; omega), by first | rfl | (rw [List.length_set]), ST10.out.from K1.out⟩
            | true =>
              go_wp2_with fail
              go_loopw [3] (fun v wr => S3Rel b a len cap w1 v wr) (fun v _ => 25 - lenV v)
              case atStart => exact ⟨l2, by first | omega | (rw [List.length_set]; omega), ST10.out⟩
              case round =>
                clear ST10
                obtain ⟨l3, hl3, hst⟩ := hrel
                obtain ⟨x5, c5, rfl⟩ := gr_form hst.gr
                have ST := Lib.hid hst
                clear hst
                go_wp2_with fail
                refine (n_any b a len cap 2 _ ST.out.src (HR.out.kept (K1.out.trans ST.out.kept)) (by omega) (by omega)).mono ?_
                rintro e w11 ⟨y, ⟨hy0, hy1⟩, rfl, hs11, hk11⟩
                obtain ⟨r, rfl⟩ := Int.eq_ofNat_of_zero_le hy0
                have S11 := Lib.hid (ST.out.keep hk11 hs11 hbl1)
                have hzr : w1.heap.size ≤ w11.heap.size := S11.out.kept.size
                have m1 : IntKind.i64.wrap (24 + (r : Int)) = 24 + (r : Int) := IntWalk.i64_in _ (by omega)
                have m2 : wrap64 (24 + (r : Int)) = 24 + (r : Int) := IntWalk.wrap64_in _ (by omega)
                clear hs11 hk11 ST
                by_cases hlt3 : (l3.length : Int) < 24 + (r : Int)
                · have dl : decide ((l3.length : Int) < 24 + (r : Int)) = true := decide_eq_true hlt3
                  go_wp2_with ((with_reducible show wpList _ _ _ (⟨some 82, _, _, _, _, _⟩ :: _) _ _); refine wpList_append_gr (lo := w1.heap.size) (e := 9) (sz := 1) (v := .slice x5 l3.length c5) (n := l3.length) (xs := strs l3) rfl (.tmp 80) (.tmp 81) 23 rfl i0 _ 16 Tryz.underlying23 hi hz0 hz1 hz2' rfl (by decide) rfl (by rw [strs_length]; omega) ?_ ⟨w11.heap.size, 0, none⟩ 1 1 rfl [.string { data := #[] }] (by decide) rfl ?_ ?_ (by unfold maxLen; omega) (by omega) (by simp; omega) ?_)
                  · exact (S11.out.next (below_alloc1 w11 _) hbl1).gr
                  · exact one_new w11 _ 9
                  · intro u hu; simp at hu; rcases hu with rfl; rfl
                  · intro gg cc w8 hgn hgr hloc
                    have S10 := Lib.hid ((S11.out.next (below_alloc1 w11 _) hbl1).grow hbl1 { data := #[] } (Nat.zero_le _) gg cc hgn hgr)
                    clear hgn hgr hloc m1 m2
                    go_wp2_with fail
                    go_roundw
                    case rel => exact ⟨l3 ++ [{ data := #[] }], by simp; omega, by have := S10.out; simpa using this⟩
                    case measure => simp [lenV]; omega
                · have dl : decide ((l3.length : Int) < 24 + (r : Int)) = false := decide_eq_false hlt3
                  go_wp2_with fail
                  go_ret
                  exact ⟨l3, _, by omega, rfl, S11.out.from K1.out⟩
          | true =>
          go_wp2_with fail
          refine (n_any1 b a len cap l2.length _ ST5.out.src (HR.out.kept (K1.out.trans ST5.out.kept)) (by omega) (by omega)).mono ?_
          rintro e w6 ⟨j, hj, rfl, hs6, hk6⟩
          have ST6 := Lib.hid (ST5.out.keep hk6 hs6 hbl1)
          have j0 : (0 : Int) ≤ (j : Int) := by omega
          have j1 : (j : Int) < (l2.length : Int) := by omega
          clear hs6 hk6 ST5
          go_wp2_with fail
          refine (n_any b a len cap 3 _ ST6.out.src (HR.out.kept (K1.out.trans ST6.out.kept)) (by omega) (by omega)).mono ?_
          rintro e w7 ⟨y, ⟨hy0, hy1⟩, rfl, hs7, hk7⟩
          have ST7 := Lib.hid (ST6.out.keep hk7 hs7 hbl1)
          clear hs7 hk7 ST6
          have hy : y = 0 ∨ y = 1 ∨ y = 2 := by omega
          clear hy0 hy1
          obtain ⟨g, off, hp, hlo, hgl, hc, hf⟩ := ST7.out.gr.own.get (by omega)
          subst hp
          obtain rfl := ST7.out.gr.at0 (by omega)
          have v0 : w7.cell? ⟨g, j, none⟩ = some (.string l2[j]) := by
            have := hc j (by omega)
            rw [strs_at l2 j hj] at this
            simpa using this
          have v1 : w7.cell? ⟨g, 0 + j, none⟩ = some (.string l2[j]) := by rw [Nat.zero_add]; exact v0
          have hf0 : w7.frozen? ⟨g, j, none⟩ = false := by have := hf j (by omega); simpa using this
          have hf1 : w7.frozen? ⟨g, 0 + j, none⟩ = false := by rw [Nat.zero_add]; exact hf0
          clear hc hf
          rcases hy with rfl | rfl | rfl
          · have hz := ST7.out.small _ (List.getElem_mem hj)
            have SP := Lib.hid (fun w hS hR => spoil_any b a len cap l2[j] w hS hR (by omega))
            go_wp2_with fail
            refine (SP.out _ ST7.out.src (HR.out.kept (K1.out.trans ST7.out.kept))).mono ?_
            rintro e w8 ⟨s, hs, rfl, hs8, hk8⟩
            have ST8 := Lib.hid ((ST7.out.keep hk8 hs8 hbl1).more (show 104 ≤ 1001 by omega))
            clear hs8 hk8 ST7 SP hz
            obtain ⟨g2, off2, hp2, hlo2, hgl2, hc2, hf2⟩ := ST8.out.gr.own.get (by omega)
            obtain ⟨rfl, rfl⟩ : g2 = g ∧ off2 = 0 := by cases hp2; exact ⟨rfl, rfl⟩
            clear v0 v1 hf0 hf1 hp2
            have v0 : w8.cell? ⟨g2, j, none⟩ = some (.string l2[j]) := by
              have := hc2 j (by omega)
              rw [strs_at l2 j hj] at this
              simpa using this
            have v1 : w8.cell? ⟨g2, 0 + j, none⟩ = some (.string l2[j]) := by rw [Nat.zero_add]; exact v0
            have hf0 : w8.frozen? ⟨g2, j, none⟩ = false := by have := hf2 j (by omega); simpa using this
            have hf1 : w8.frozen? ⟨g2, 0 + j, none⟩ = false := by rw [Nat.zero_add]; exact hf0
            clear hc2 hf2
            have STP := Lib.hid (ST8.out.put hbl1 j hj s (by omega))
            clear ST8
            go_wp2_with fail
            have ST9 := Lib.hid (STP.out.more (m' := 1001) (by decide))
            clear STP
            go_wp2_with fail
            refine (one_any b a len cap 25 _ ST9.out.src (HR.out.kept (K1.out.trans ST9.out.kept)) (by omega) (by omega)).mono ?_
            rintro e w9 ⟨bb9, rfl, hs9, hk9⟩
            have ST10 := Lib.hid (ST9.out.keep hk9 hs9 hbl1)
            clear hs9 hk9 ST9
            cases bb9 with
            | false =>
              go_wp2_with fail
              go_ret
              exact ⟨l2.set j s, _, by first | omega | (rw [List.length_set]; omega), by first | rfl | (rw [List.length_set]), ST10.out.from K1.out⟩
            | true =>
              go_wp2_with fail
              go_loopw [3] (fun v wr => S3Rel b a len cap w1 v wr) (fun v _ => 25 - lenV v)
              case atStart => exact ⟨l2.set j s, by first | omega | (rw [List.length_set]; omega), ST10.out⟩
              case round =>
                clear ST10
                obtain ⟨l3, hl3, hst⟩ := hrel
                obtain ⟨x5, c5, rfl⟩ := gr_form hst.gr
                have ST := Lib.hid hst
                clear hst
                go_wp2_with fail
                refine (n_any b a len cap 2 _ ST.out.src (HR.out.kept (K1.out.trans ST.out.kept)) (by omega) (by omega)).mono ?_
                rintro e w11 ⟨y, ⟨hy0, hy1⟩, rfl, hs11, hk11⟩
                obtain ⟨r, rfl⟩ := Int.eq_ofNat_of_zero_le hy0
                have S11 := Lib.hid (ST.out.keep hk11 hs11 hbl1)
                have hzr : w1.heap.size ≤ w11.heap.size := S11.out.kept.size
                have m1 : IntKind.i64.wrap (24 + (r : Int)) = 24 + (r : Int) := IntWalk.i64_in _ (by omega)
                have m2 : wrap64 (24 + (r : Int)) = 24 + (r : Int) := IntWalk.wrap64_in _ (by omega)
                clear hs11 hk11 ST
                by_cases hlt3 : (l3.length : Int) < 24 + (r : Int)
                · have dl : decide ((l3.length : Int) < 24 + (r : Int)) = true := decide_eq_true hlt3
                  go_wp2_with ((with_reducible show wpList _ _ _ (⟨some 82, _, _, _, _, _⟩ :: _) _ _); refine wpList_append_gr (lo := w1.heap.size) (e := 9) (sz := 1) (v := .slice x5 l3.length c5) (n := l3.length) (xs := strs l3) rfl (.tmp 80) (.tmp 81) 23 rfl i0 _ 16 Tryz.underlying23 hi hz0 hz1 hz2' rfl (by decide) rfl (by rw [strs_length]; omega) ?_ ⟨w11.heap.size, 0, none⟩ 1 1 rfl [.string { data := #[] }] (by decide) rfl ?_ ?_ (by unfold maxLen; omega) (by omega) (by simp; omega) ?_)
                  · exact (S11.out.next (below_alloc1 w11 _) hbl1).gr
                  · exact one_new w11 _ 9
                  · intro u hu; simp at hu; rcases hu with rfl; rfl
                  · intro gg cc w8 hgn hgr hloc
                    have S10 := Lib.hid ((S11.out.next (below_alloc1 w11 _) hbl1).grow hbl1 { data := #[] } (Nat.zero_le _) gg cc hgn hgr)
                    clear hgn hgr hloc m1 m2
                    go_wp2_with fail
                    go_roundw
                    case rel => exact ⟨l3 ++ [{ data := #[] }], by simp; omega, by have := S10.out; simpa using this⟩
                    case measure => simp [lenV]; omega
                · have dl : decide ((l3.length : Int) < 24 + (r : Int)) = false := decide_eq_false hlt3
                  go_wp2_with fail
                  go_ret
                  exact ⟨l3, _, by omega, rfl, S11.out.from K1.out⟩
          · have STP := Lib.hid (ST7.out.put hbl1 j hj { data := #[] } (Nat.zero_le _))
            clear ST7
            go_wp2_with fail
            have ST9 := Lib.hid (STP.out.more (m' := 1001) (by decide))
            clear STP
            go_wp2_with fail
            refine (one_any b a len cap 25 _ ST9.out.src (HR.out.kept (K1.out.trans ST9.out.kept)) (by omega) (by omega)).mono ?_
            rintro e w9 ⟨bb9, rfl, hs9, hk9⟩
            have ST10 := Lib.hid (ST9.out.keep hk9 hs9 hbl1)
            clear hs9 hk9 ST9
            cases bb9 with
            | false =>
              go_wp2_with fail
              go_ret
              exact ⟨l2.set j { data := #[] }, _, by first | omega | (rw [List.length_set]; omega), by first | rfl | (rw [List.length_set]), ST10.out.from K1.out⟩
            | true =>
              go_wp2_with fail
              go_loopw [3] (fun v wr => S3Rel b a len cap w1 v wr) (fun v _ => 25 - lenV v)
              case atStart => exact ⟨l2.set j { data := #[] }, by first | omega | (rw [List.length_set]; omega), ST10.out⟩
              case round =>
                clear ST10
                obtain ⟨l3, hl3, hst⟩ := hrel
                obtain ⟨x5, c5, rfl⟩ := gr_form hst.gr
                have ST := Lib.hid hst
                clear hst
                go_wp2_with fail
                refine (n_any b a len cap 2 _ ST.out.src (HR.out.kept (K1.out.trans ST.out.kept)) (by omega) (by omega)).mono ?_
                rintro e w11 ⟨y, ⟨hy0, hy1⟩, rfl, hs11, hk11⟩
                obtain ⟨r, rfl⟩ := Int.eq_ofNat_of_zero_le hy0
                have S11 := Lib.hid (ST.out.keep hk11 hs11 hbl1)
                have hzr : w1.heap.size ≤ w11.heap.size := S11.out.kept.size
                have m1 : IntKind.i64.wrap (24 + (r : Int)) = 24 + (r : Int) := IntWalk.i64_in _ (by omega)
                have m2 : wrap64 (24 + (r : Int)) = 24 + (r : Int) := IntWalk.wrap64_in _ (by omega)
                clear hs11 hk11 ST
                by_cases hlt3 : (l3.length : Int) < 24 + (r : Int)
                · have dl : decide ((l3.length : Int) < 24 + (r : Int)) = true := decide_eq_true hlt3
                  go_wp2_with ((with_reducible show wpList _ _ _ (⟨some 82, _, _, _, _, _⟩ :: _) _ _); refine wpList_append_gr (lo := w1.heap.size) (e := 9) (sz := 1) (v := .slice x5 l3.length c5) (n := l3.length) (xs := strs l3) rfl (.tmp 80) (.tmp 81) 23 rfl i0 _ 16 Tryz.underlying23 hi hz0 hz1 hz2' rfl (by decide) rfl (by rw [strs_length]; omega) ?_ ⟨w11.heap.size, 0, none⟩ 1 1 rfl [.string { data := #[] }] (by decide) rfl ?_ ?_ (by unfold maxLen; omega) (by omega) (by simp; omega) ?_)
                  · exact (S11.out.next (below_alloc1 w11 _) hbl1).gr
                  · exact one_new w11 _ 9
                  · intro u hu; simp at hu; rcases hu with rfl; rfl
                  · intro gg cc w8 hgn hgr hloc
                    have S10 := Lib.hid ((S11.out.next (below_alloc1 w11 _) hbl1).grow hbl1 { data := #[] } (Nat.zero_le _) gg cc hgn hgr)
                    clear hgn hgr hloc m1 m2
                    go_wp2_with fail
                    go_roundw
                    case rel => exact ⟨l3 ++ [{ data := #[] }], by simp; omega, by have := S10.out; simpa using this⟩
                    case measure => simp [lenV]; omega
                · have dl : decide ((l3.length : Int) < 24 + (r : Int)) = false := decide_eq_false hlt3
                  go_wp2_with fail
                  go_ret
                  exact ⟨l3, _, by omega, rfl, S11.out.from K1.out⟩
          · go_wp2_with fail
            refine (n_any b a len cap 9 _ ST7.out.src (HR.out.kept (K1.out.trans ST7.out.kept)) (by omega) (by omega)).mono ?_
            rintro e w8 ⟨n9, -, rfl, hs8, hk8⟩
            have ST8 := Lib.hid (ST7.out.keep hk8 hs8 hbl1)
            clear hs8 hk8 ST7
            go_wp2_with fail
            refine (any_any b a len cap _ ST8.out.src (HR.out.kept (K1.out.trans ST8.out.kept))).mono ?_
            rintro e w10 ⟨x, hx, rfl, hs10, hk10⟩
            unfold stpV
            have STA := Lib.hid (ST8.out.keep hk10 hs10 hbl1)
            clear hs10 hk10 ST8
            go_wp2_with fail
            refine (specRecBs n9 _ _ _ _ _).mono ?_
            rintro e w12 ⟨rfl, hb12⟩
            have STB := Lib.hid (STA.out.next hb12 hbl1)
            have hts := recBs_size n9 x
            generalize recBs n9 x = t at *
            clear hb12 STA
            obtain ⟨g2, off2, hp2, hlo2, hgl2, hc2, hf2⟩ := STB.out.gr.own.get (by omega)
            obtain ⟨rfl, rfl⟩ : g2 = g ∧ off2 = 0 := by cases hp2; exact ⟨rfl, rfl⟩
            clear v0 v1 hf0 hf1 hp2
            have v0 : w12.cell? ⟨g2, j, none⟩ = some (.string l2[j]) := by
              have := hc2 j (by omega)
              rw [strs_at l2 j hj] at this
              simpa using this
            have v1 : w12.cell? ⟨g2, 0 + j, none⟩ = some (.string l2[j]) := by rw [Nat.zero_add]; exact v0
            have hf0 : w12.frozen? ⟨g2, j, none⟩ = false := by have := hf2 j (by omega); simpa using this
            have hf1 : w12.frozen? ⟨g2, 0 + j, none⟩ = false := by rw [Nat.zero_add]; exact hf0
            clear hc2 hf2
            have STP := Lib.hid (STB.out.put hbl1 j hj t hts)
            clear STB
            go_wp2_with fail
            have ST9 := Lib.hid (STP.out.more (m' := 1001) (by decide))
            clear STP
            go_wp2_with fail
            refine (one_any b a len cap 25 _ ST9.out.src (HR.out.kept (K1.out.trans ST9.out.kept)) (by omega) (by omega)).mono ?_
            rintro e w9 ⟨bb9, rfl, hs9, hk9⟩
            have ST10 := Lib.hid (ST9.out.keep hk9 hs9 hbl1)
            clear hs9 hk9 ST9
            cases bb9 with
            | false =>
              go_wp2_with fail
              go_ret
              exact ⟨l2.set j t, _, by first | omega | (rw [List.length_set]; omega), by first | rfl | (rw [List.length_set]), ST10.out.from K1.out⟩
            | true =>
              go_wp2_with fail
              go_loopw [3] (fun v wr => S3Rel b a len cap w1 v wr) (fun v _ => 25 - lenV v)
              case atStart => exact ⟨l2.set j t, by first | omega | (rw [List.length_set]; omega), ST10.out⟩
              case round =>
                clear ST10
                obtain ⟨l3, hl3, hst⟩ := hrel
                obtain ⟨x5, c5, rfl⟩ := gr_form hst.gr
                have ST := Lib.hid hst
                clear hst
                go_wp2_with fail
                refine (n_any b a len cap 2 _ ST.out.src (HR.out.kept (K1.out.trans ST.out.kept)) (by omega) (by omega)).mono ?_
                rintro e w11 ⟨y, ⟨hy0, hy1⟩, rfl, hs11, hk11⟩
                obtain ⟨r, rfl⟩ := Int.eq_ofNat_of_zero_le hy0
                have S11 := Lib.hid (ST.out.keep hk11 hs11 hbl1)
                have hzr : w1.heap.size ≤ w11.heap.size := S11.out.kept.size
                have m1 : IntKind.i64.wrap (24 + (r : Int)) = 24 + (r : Int) := IntWalk.i64_in _ (by omega)
                have m2 : wrap64 (24 + (r : Int)) = 24 + (r : Int) := IntWalk.wrap64_in _ (by omega)
                clear hs11 hk11 ST
                by_cases hlt3 : (l3.length : Int) < 24 + (r : Int)
                · have dl : decide ((l3.length : Int) < 24 + (r : Int)) = true := decide_eq_true hlt3
                  go_wp2_with ((with_reducible show wpList _ _ _ (⟨some 82, _, _, _, _, _⟩ :: _) _ _); refine wpList_append_gr (lo := w1.heap.size) (e := 9) (sz := 1) (v := .slice x5 l3.length c5) (n := l3.length) (xs := strs l3) rfl (.tmp 80) (.tmp 81) 23 rfl i0 _ 16 Tryz.underlying23 hi hz0 hz1 hz2' rfl (by decide) rfl (by rw [strs_length]; omega) ?_ ⟨w11.heap.size, 0, none⟩ 1 1 rfl [.string { data := #[] }] (by decide) rfl ?_ ?_ (by unfold maxLen; omega) (by omega) (by simp; omega) ?_)
                  · exact (S11.out.next (below_alloc1 w11 _) hbl1).gr
                  · exact one_new w11 _ 9
                  · intro u hu; simp at hu; rcases hu with rfl; rfl
                  · intro gg cc w8 hgn hgr hloc
                    have S10 := Lib.hid ((S11.out.next (below_alloc1 w11 _) hbl1).grow hbl1 { data := #[] } (Nat.zero_le _) gg cc hgn hgr)
                    clear hgn hgr hloc m1 m2
                    go_wp2_with fail
                    go_roundw
                    case rel => exact ⟨l3 ++ [{ data := #[] }], by simp; omega, by have := S10.out; simpa using this⟩
                    case measure => simp [lenV]; omega
                · have dl : decide ((l3.length : Int) < 24 + (r : Int)) = false := decide_eq_false hlt3
                  go_wp2_with fail
                  go_ret
                  exact ⟨l3, _, by omega, rfl, S11.out.from K1.out⟩

set_option maxHeartbeats 1000000 in
theorem drawScan_any (a : Option Addr) (len cap : Nat) (w : World) (hB : Bytes w a len) (hl : len ≤ 1048576) :
    Calls Tryz.prog 27 #[.slice a len cap] w fun e w' => ∃ ls v, ls.length ≤ 25 ∧ (∀ s ∈ ls, s.size ≤ 1001) ∧ e = .returned v ∧ Gr w' w.heap.size 9 1 v ls.length (strs ls) ∧ Below w.heap.size w w' := by
  have HB := Lib.hid hB
  clear hB
  go_enter Tryz.func27, Tryz.ntmps27
  go_wp2_with fail
  refine (source_any a len cap w HB.out hl).mono ?_
  rintro e w1 ⟨rfl, hs1, hb1⟩
  have HR := Lib.hid (HB.out.row hb1 (Nat.le_refl _))
  have HS := Lib.hid hs1
  have HB1 := Lib.hid hb1
  have hz1 := hb1.size
  clear hs1 hb1
  go_wp2_with fail
  refine (sectors_any w.heap.size a len cap w1 HS.out HR.out).mono ?_
  rintro e w2 ⟨ls, v, hls, rfl, hst⟩
  obtain ⟨x3, c3, rfl⟩ := gr_form hst.gr
  have ST := Lib.hid hst
  clear hst HS
  go_wp2_with fail
  go_ret
  exact ⟨ls, _, hls, ST.out.small, rfl, ST.out.gr.lower hz1, HB1.out.trans (ST.out.kept.below (Nat.le_refl _) hz1)⟩
end Go.Proofs.YthkbllkhomjmbaaGreatDoor

namespace Go.Proofs.YthkbllkhomjmbaaGreatDoor
open Go.RowKit

/-- A number and a step drawn from bytes. -/
def DrawnIS (w : World) (e : Ending) (w' : World) : Prop := ∃ (n : Int) (x : stpT), x.2.2.2.size ≤ 10 ∧ e = .returned (.tuple #[.int .i64 n, stpV x]) ∧ Below w.heap.size w w'
theorem four_setQ {w w' : World} {g n : Nat} (h : Below g w w') (hn : g ≤ n) (a b c d : Value) : Below g w ((((w'.setCell ⟨n, 0, none⟩ a).setCell ⟨n, 1, none⟩ b).setCell ⟨n, 2, none⟩ c).setCell ⟨n, 3, none⟩ d) :=
  (((h.setCell (p := ⟨n, 0, none⟩) hn a).setCell (p := ⟨n, 1, none⟩) hn b).setCell (p := ⟨n, 2, none⟩) hn c).setCell (p := ⟨n, 3, none⟩) hn d
theorem Bx.f4 {w : World} {n : Nat} {T : TypeId} {vs : Array Value} (h : Bx w n T vs) : w.frozen? ⟨n, 0, none⟩ = false ∧ w.frozen? ⟨n, 1, none⟩ = false ∧ w.frozen? ⟨n, 2, none⟩ = false ∧ w.frozen? ⟨n, 3, none⟩ = false := ⟨h.frozen 0, h.frozen 1, h.frozen 2, h.frozen 3⟩
theorem Bx.keptQ {w w' : World} {b n : Nat} {T : TypeId} {vs : Array Value} (h : Bx w n T vs) (k : Kept b w w') (hn : n ≠ b) : Bx w' n T vs := h.grown k (fun e => hn (Option.some.inj e))
set_option maxRecDepth 100000 in
set_option maxHeartbeats 4000000 in
theorem drawRecBs_any (a : Option Addr) (len cap : Nat) (w : World) (hB : Bytes w a len) (hl : len ≤ 1048576) :
    Calls Tryz.prog 23 #[.slice a len cap] w (DrawnIS w) := by
  have HB := Lib.hid hB
  clear hB
  have Y := Lib.hid (bx_new w 48 #[.int .i64 0, .int .i64 0, .int .i64 0, .string { data := #[] }])
  have B := Lib.hid (below_alloc1 w (.cells #[.int .i64 0, .int .i64 0, .int .i64 0, .string { data := #[] }] 48))
  have z0 := size_alloc1 w (.cells #[.int .i64 0, .int .i64 0, .int .i64 0, .string { data := #[] }] 48)
  go_enter Tryz.func23, Tryz.ntmps23
  go_wp2_with fail
  generalize w.alloc (.cells #[.int .i64 0, .int .i64 0, .int .i64 0, .string { data := #[] }] 48) = W0 at *
  refine (source_any a len cap W0 (HB.out.below B.out) hl).mono ?_
  rintro e w1 ⟨rfl, hs1, hb1⟩
  have HS1 := Lib.hid hs1
  have HR := Lib.hid ((HB.out.below B.out).row hb1 (Nat.le_refl _))
  have hz1 := hb1.size
  replace Y := Lib.hid (Y.out.next hb1)
  replace B := Lib.hid (below_more B.out hb1)
  have hbl := hs1.lt
  have hsW : w.heap.size < W0.heap.size := by omega
  clear hs1 hb1
  clear z0
  generalize W0.heap.size = b at *
  go_wp2_with fail
  refine (any_any b a len cap w1 HS1.out HR.out).mono ?_
  rintro e w2 ⟨x, hx, rfl, hs2, hk2⟩
  unfold stpV
  have bz := below_alloc1 w2 (.cells #[.int .i64 x.1, .int .i64 x.2.1, .int .i64 x.2.2.1, .string x.2.2.2] 48)
  have HS2 := Lib.hid (hs2.grown (below_grown bz) (by simp))
  have HK2 := Lib.hid (hk2.trans (kept_of _ bz))
  have XX := Lib.hid (bx_new w2 48 #[.int .i64 x.1, .int .i64 x.2.1, .int .i64 x.2.2.1, .string x.2.2.2])
  have hz2 := hk2.size
  replace Y := Lib.hid ((Y.out.keptQ hk2 (by omega)).next bz)
  replace B := Lib.hid (B.out.trans (HK2.out.below (by omega) (by omega)))
  clear hs2 hk2 bz HS1
  go_wp2_with fail
  generalize w2.alloc (.cells #[.int .i64 x.1, .int .i64 x.2.1, .int .i64 x.2.2.1, .string x.2.2.2] 48) = W2 at *
  have hnX : b < w2.heap.size := by omega
  generalize w2.heap.size = nX at *
  refine (one_any b a len cap 8 _ HS2.out (HR.out.kept HK2.out) (by omega) (by omega)).mono ?_
  rintro e w3 ⟨bb, rfl, hs3, hk3⟩
  have HS3 := Lib.hid hs3
  have HK3 := Lib.hid (HK2.out.trans hk3)
  replace Y := Lib.hid (Y.out.keptQ hk3 (by omega))
  replace XX := Lib.hid (XX.out.keptQ hk3 (by omega))
  replace B := Lib.hid (B.out.trans (hk3.below (by omega) B.out.size))
  have hlX := XX.out.lt
  clear hs3 hk3 HS2 HK2
  have KP := Lib.hid (show ∀ w', Kept b w3 w' → w'.cell? ⟨nX, 0, none⟩ = some (.int .i64 x.1) ∧ w'.cell? ⟨nX, 1, none⟩ = some (.int .i64 x.2.1) ∧ w'.cell? ⟨nX, 2, none⟩ = some (.int .i64 x.2.2.1) ∧ w'.cell? ⟨nX, 3, none⟩ = some (.string x.2.2.2) from fun w' k => have h := XX.out.keptQ k (by omega); ⟨h.q0, h.q1, h.q2, h.q3⟩)
  cases bb with
  | true =>
    go_wp2_with fail
    refine wp_region_held_drew (S := (fun w' => w'.cell? ⟨nX, 0, none⟩ = some (.int .i64 x.1) ∧ w'.cell? ⟨nX, 1, none⟩ = some (.int .i64 x.2.1) ∧ w'.cell? ⟨nX, 2, none⟩ = some (.int .i64 x.2.2.1) ∧ w'.cell? ⟨nX, 3, none⟩ = some (.string x.2.2.2))) (by kernel_rfl) (KP.out _ (Kept.refl b w3).drew) (fun hHeld => ?_)
    refine wpAnyH_take (i := 0) (oi := ⟨some 12, _, _, _, _, _⟩) (v := ?_) rfl (by kernel_rfl) (by kernel_rfl) (by kernel_rfl) (fun _ _ _ h => h) (Or.inl ⟨by rfl, ?_⟩) (by assumption) ?_
    rotate_left
    · intro w' hSw
      (try dsimp only at hSw)
      go_simp
      try with_reducible rfl
    (try simp only [Act.put, List.setIfInBounds_toArray, List.set_cons_zero, List.set_cons_succ])
    refine wpAnyH_take (i := 2) (oi := ⟨some 14, _, _, _, _, _⟩) (v := ?_) rfl (by kernel_rfl) (by kernel_rfl) (by kernel_rfl) (fun _ _ _ h => h) (Or.inl ⟨by rfl, ?_⟩) (by assumption) ?_
    rotate_left
    · intro w' hSw
      (try dsimp only at hSw)
      go_simp
      try with_reducible rfl
    (try simp only [Act.put, List.setIfInBounds_toArray, List.set_cons_zero, List.set_cons_succ])
    refine wpAnyH_ready (rs := [1]) (by kernel_rfl) (by simp) ?_
    refine AllReadyH.cons (o := ⟨some 13, _, _, _, _, _⟩) rfl (fun K hK => ?_) AllReadyH.nil
    clear hHeld
    go_simp
    go_at_call 74
    refine (edge_any b a len cap _ (HS3.out.grown (below_grown (Below.refl _ _).drew) (by simp)) (HR.out.kept HK3.out.drew)).mono ?_
    rintro e w4 ⟨n, -, rfl, hs4, hk4⟩
    have hk5 := (Kept.refl b w3).drew.trans hk4
    have y4 := Y.out.keptQ hk5 (by omega)
    obtain ⟨y0, y1, y2, y3⟩ := y4.cf4.1
    obtain ⟨f0, f1, f2, f3⟩ := y4.f4
    have B4 := Lib.hid (B.out.trans (hk5.below (by omega) B.out.size))
    have K4 := Lib.hid hk5
    clear hs4 hk4 hk5 y4
    refine hK.out _ _ (KP.out _ K4.out) (fun hHeld => ?_)
    clear hK K
    (try simp only [Act.put, List.setIfInBounds_toArray, List.set_cons_zero, List.set_cons_succ])
    refine wpAnyH_take (i := 3) (oi := ⟨some 2, _, _, _, _, _⟩) (v := ?_) rfl (by kernel_rfl) (by kernel_rfl) (by kernel_rfl) (fun _ _ _ h => h) (Or.inl ⟨by rfl, ?_⟩) (by assumption) ?_
    rotate_left
    · intro w' hSw
      (try dsimp only at hSw)
      go_simp
      try with_reducible rfl
    (try simp only [Act.put, List.setIfInBounds_toArray, List.set_cons_zero, List.set_cons_succ])
    refine wpAnyH_ready (rs := [4]) (by kernel_rfl) (by simp) ?_
    refine AllReadyH.cons (o := ⟨none, _, _, _, _, _⟩) rfl (fun K hK => ?_) AllReadyH.nil
    clear hHeld
    go_simp
    refine hK.out _ _ (by have hx4 := ((XX.out.keptQ K4.out (by omega)).four (show nX ≠ w.heap.size by omega) (.int .i64 x.1) (.int .i64 x.2.1) (.int .i64 x.2.2.1) (.string x.2.2.2)).cf4.1; exact hx4) (fun hHeld => ?_)
    clear hK K
    (try simp only [Act.put, List.setIfInBounds_toArray, List.set_cons_zero, List.set_cons_succ])
    refine wpAnyH_done (by kernel_rfl) ?_ _
    clear hHeld
    
    go_wp2_with fail
    refine bodyPost_ret (v := .tuple #[.int .i64 n, .agg #[.int .i64 x.1, .int .i64 x.2.1, .int .i64 x.2.2.1, .string x.2.2.2]]) (by simp [results, Tryz.results23, go_sem, y0, y1, y2, y3]) rfl ⟨n, x, hx, rfl, ?_⟩
    exact four_setQ B4.out (Nat.le_refl _) _ _ _ _
  | false =>
    go_wp2_with fail
    refine wp_region_held_drew (S := (fun w' => w'.cell? ⟨nX, 0, none⟩ = some (.int .i64 x.1) ∧ w'.cell? ⟨nX, 1, none⟩ = some (.int .i64 x.2.1) ∧ w'.cell? ⟨nX, 2, none⟩ = some (.int .i64 x.2.2.1) ∧ w'.cell? ⟨nX, 3, none⟩ = some (.string x.2.2.2))) (by kernel_rfl) (KP.out _ (Kept.refl b w3).drew) (fun hHeld => ?_)
    refine wpAnyH_take (i := 0) (oi := ⟨some 15, _, _, _, _, _⟩) (v := ?_) rfl (by kernel_rfl) (by kernel_rfl) (by kernel_rfl) (fun _ _ _ h => h) (Or.inl ⟨by rfl, ?_⟩) (by assumption) ?_
    rotate_left
    · intro w' hSw
      (try dsimp only at hSw)
      go_simp
      try with_reducible rfl
    (try simp only [Act.put, List.setIfInBounds_toArray, List.set_cons_zero, List.set_cons_succ])
    refine wpAnyH_take (i := 2) (oi := ⟨some 17, _, _, _, _, _⟩) (v := ?_) rfl (by kernel_rfl) (by kernel_rfl) (by kernel_rfl) (fun _ _ _ h => h) (Or.inl ⟨by rfl, ?_⟩) (by assumption) ?_
    rotate_left
    · intro w' hSw
      (try dsimp only at hSw)
      go_simp
      try with_reducible rfl
    (try simp only [Act.put, List.setIfInBounds_toArray, List.set_cons_zero, List.set_cons_succ])
    refine wpAnyH_ready (rs := [1]) (by kernel_rfl) (by simp) ?_
    refine AllReadyH.cons (o := ⟨some 16, _, _, _, _, _⟩) rfl (fun K hK => ?_) AllReadyH.nil
    clear hHeld
    go_simp
    go_at_call 47
    refine (n_any b a len cap 20 _ (HS3.out.grown (below_grown (Below.refl _ _).drew) (by simp)) (HR.out.kept HK3.out.drew) (by omega) (by omega)).mono ?_
    rintro e w4 ⟨n, -, rfl, hs4, hk4⟩
    have hk5 := (Kept.refl b w3).drew.trans hk4
    have y4 := Y.out.keptQ hk5 (by omega)
    obtain ⟨y0, y1, y2, y3⟩ := y4.cf4.1
    obtain ⟨f0, f1, f2, f3⟩ := y4.f4
    have B4 := Lib.hid (B.out.trans (hk5.below (by omega) B.out.size))
    have K4 := Lib.hid hk5
    clear hs4 hk4 hk5 y4
    refine hK.out _ _ (KP.out _ K4.out) (fun hHeld => ?_)
    clear hK K
    (try simp only [Act.put, List.setIfInBounds_toArray, List.set_cons_zero, List.set_cons_succ])
    refine wpAnyH_take (i := 3) (oi := ⟨some 2, _, _, _, _, _⟩) (v := ?_) rfl (by kernel_rfl) (by kernel_rfl) (by kernel_rfl) (fun _ _ _ h => h) (Or.inl ⟨by rfl, ?_⟩) (by assumption) ?_
    rotate_left
    · intro w' hSw
      (try dsimp only at hSw)
      go_simp
      try with_reducible rfl
    (try simp only [Act.put, List.setIfInBounds_toArray, List.set_cons_zero, List.set_cons_succ])
    refine wpAnyH_ready (rs := [4]) (by kernel_rfl) (by simp) ?_
    refine AllReadyH.cons (o := ⟨none, _, _, _, _, _⟩) rfl (fun K hK => ?_) AllReadyH.nil
    clear hHeld
    go_simp
    refine hK.out _ _ (by have hx4 := ((XX.out.keptQ K4.out (by omega)).four (show nX ≠ w.heap.size by omega) (.int .i64 x.1) (.int .i64 x.2.1) (.int .i64 x.2.2.1) (.string x.2.2.2)).cf4.1; exact hx4) (fun hHeld => ?_)
    clear hK K
    (try simp only [Act.put, List.setIfInBounds_toArray, List.set_cons_zero, List.set_cons_succ])
    refine wpAnyH_done (by kernel_rfl) ?_ _
    clear hHeld
    
    go_wp2_with fail
    refine bodyPost_ret (v := .tuple #[.int .i64 n, .agg #[.int .i64 x.1, .int .i64 x.2.1, .int .i64 x.2.2.1, .string x.2.2.2]]) (by simp [results, Tryz.results23, go_sem, y0, y1, y2, y3]) rfl ⟨n, x, hx, rfl, ?_⟩
    exact four_setQ B4.out (Nat.le_refl _) _ _ _ _
end Go.Proofs.YthkbllkhomjmbaaGreatDoor

namespace Go.Proofs.YthkbllkhomjmbaaGreatDoor
open Go.RowKit

/-- A string of which P holds; what was there is as it was. -/
def SomeS (P : ByteArray → Prop) (w : World) (e : Ending) (w' : World) : Prop := ∃ s, P s ∧ e = .returned (.string s) ∧ Below w.heap.size w w'
/-- A number of which P holds; the world is as it was. -/
def SomeN (P : Int → Prop) (w : World) (e : Ending) (w' : World) : Prop := ∃ v, P v ∧ e = .returned (.int .i64 v) ∧ w = w'

theorem zeros (n : Nat) : ((madeCells #[Value.int .u8 0] (n * 1)).toList).take n = (List.replicate n (0 : UInt8)).map B := by
  rw [Nat.mul_one, toList_madeCells_one]; simp [B]

theorem cell_facts {w : World} {x : Addr} {v : Value} (h : w.cell? x = some v) : x.spot = none ∧ x.block < w.heap.size := by
  unfold World.cell? at h
  split at h
  · rename_i c e f hb
    refine ⟨?_, (Array.getElem?_eq_some_iff.1 hb).1⟩
    cases hs : x.spot with
    | none => rfl
    | some _ => simp [hs] at h
  · simp at h
/-- A slice of bytes as the row's frame hands it. -/
theorem bytes_of {w : World} {x : Addr} {len : Nat} {zs : List Int} (hl : len ≤ zs.length)
    (hc : ∀ i, i < zs.length → w.cell? (x.add i) = some (.int .u8 (zs.getD i 0))) (hwf : ∀ n ∈ zs, (Lit.int .u8 n).wf = true) : Bytes w (some x) len := fun h0 => by
  have hx := hc 0 (by omega)
  rw [show x.add 0 = x by simp [Addr.add]] at hx
  obtain ⟨hs, hb⟩ := cell_facts hx
  refine ⟨x, rfl, hs, hb, fun i hi => ?_⟩
  have hm : zs.getD i 0 ∈ zs := by
    rw [List.getD_eq_getElem?_getD, List.getElem?_eq_getElem (by omega)]; exact List.getElem_mem _
  have hz := hwf _ hm
  have hz' : 0 ≤ zs.getD i 0 ∧ zs.getD i 0 < 256 := by
    simp only [Lit.wf, Bool.and_eq_true, decide_eq_true_eq] at hz
    have e0 : IntKind.u8.min = 0 := rfl
    have e1 : IntKind.u8.max = 255 := rfl
    omega
  obtain ⟨z, hz2⟩ := Int.eq_ofNat_of_zero_le hz'.1
  refine ⟨z, by omega, ?_⟩
  have := hc i (by omega)
  rw [hz2] at this
  rw [← this]
  congr 1
  simp only [Addr.add]
  split
  · subst_vars; cases x; simp at hs; simp [hs]
  · cases x; simp
end Go.Proofs.YthkbllkhomjmbaaGreatDoor

namespace Go.Proofs.YthkbllkhomjmbaaGreatDoor
open Go.RowKit

set_option maxHeartbeats 1000000 in
theorem lwAt_gen (a : Option Addr) (len cap : Nat) (k : Nat) (most : Int) (w : World) (hB : Bytes w a len) (hl : len ≤ 1048576) (hk : k ≤ 9) (h1 : 1 ≤ most) (h2 : most ≤ 9223372036854775807) :
    Calls Tryz.prog 20 #[.slice a len cap, .int .i64 (k : Int), .int .i64 most] w (SomeN (fun v => 0 ≤ v ∧ v < most) w) := by
  by_cases h3 : most ≤ 1
  · have d0 : decide (most ≤ 1) = true := decide_eq_true h3
    go_enter Tryz.func20, Tryz.ntmps20
    go_wp2_with fail
    go_ret
    exact ⟨0, ⟨by omega, by omega⟩, rfl, rfl⟩
  have d0 : decide (most ≤ 1) = false := decide_eq_false h3
  by_cases h0 : len = 0
  · subst h0
    go_enter Tryz.func20, Tryz.ntmps20
    go_wp2_with fail
    go_ret
    exact ⟨0, ⟨by omega, by omega⟩, rfl, rfl⟩
  · obtain ⟨x, rfl, hs, hxl, hc⟩ := hB (by omega)
    obtain ⟨xb, xo, xs⟩ := x
    simp only at hs hxl hc
    subst hs
    have e0 : ((len : Int) == 0) = false := by simp; omega
    obtain ⟨j, hj⟩ : ∃ j, j = k % len := ⟨_, rfl⟩
    have hjl : j < len := by rw [hj]; exact Nat.mod_lt _ (by omega)
    have m1 : Int.tmod (k : Int) (len : Int) = (j : Int) := by rw [hj, Int.tmod_eq_emod_of_nonneg (by omega)]; exact (Int.natCast_emod k len).symm
    have m2 : (k : Int) % (len : Int) = (j : Int) := by rw [hj]; exact (Int.natCast_emod k len).symm
    have m3 : k % len = j := hj.symm
    have j0 : (0 : Int) ≤ (j : Int) := by omega
    have j1 : (j : Int) < (len : Int) := by omega
    obtain ⟨z, hz, hcz⟩ := hc j hjl
    clear hc hj
    go_enter Tryz.func20, Tryz.ntmps20
    go_wp2_with fail
    go_ret
    exact ⟨_, ⟨Int.emod_nonneg _ (by omega), Int.emod_lt_of_pos _ (by omega)⟩, rfl, rfl⟩

set_option maxRecDepth 100000 in
set_option maxHeartbeats 2000000 in
theorem lwSteps_same (v u : Value) (l : List stpT) (w : World) (h : Rd w v l.length 4 (stpCs l)) (k : Rd w u l.length 4 (stpCs l)) (hn : l.length ≤ 1048576) :
    Calls Tryz.prog 32 #[v, u] w fun e w' => e = .returned (.bool true) ∧ Below w.heap.size w w' := by
  obtain ⟨_, a, c, rfl, hc⟩ := h
  obtain ⟨_, a', c', rfl, hc'⟩ := k
  have HC := Lib.hid hc
  have HC' := Lib.hid hc'
  clear hc hc'
  have d0 : ((l.length : Int) != (l.length : Int)) = false := by simp
  go_enter Tryz.func32, Tryz.ntmps32
  go_wp2_with fail
  go_loopw [5] (fun i wr => DEqRel w l.length i wr) (fun i _ => l.length - (intOf i).toNat)
  case atStart => exact ⟨0, by omega, rfl, Below.refl _ _⟩
  case round =>
    obtain ⟨k, hk, rfl, hbel⟩ := hrel
    by_cases hlt : k < l.length
    · obtain ⟨b, off, rfl, hbl, hcell⟩ := HC.out (by omega)
      obtain ⟨b', off', rfl, hbl', hcell'⟩ := HC'.out (by omega)
      have hc0 : wr.cell? ⟨b, off + k * 4, none⟩ = some (.int .i64 l[k].1) := by
        rw [hbel.cell (p := ⟨b, off + k * 4, none⟩) hbl, hcell (k * 4) (by omega), stpCs_0 l k hlt]
      have hc1 : wr.cell? ⟨b, off + k * 4 + 1, none⟩ = some (.int .i64 l[k].2.1) := by
        rw [hbel.cell (p := ⟨b, off + k * 4 + 1, none⟩) hbl, Nat.add_assoc, hcell (k * 4 + 1) (by omega), stpCs_1 l k hlt]
      have hc2 : wr.cell? ⟨b, off + k * 4 + 2, none⟩ = some (.int .i64 l[k].2.2.1) := by
        rw [hbel.cell (p := ⟨b, off + k * 4 + 2, none⟩) hbl, Nat.add_assoc, hcell (k * 4 + 2) (by omega), stpCs_2 l k hlt]
      have hc3 : wr.cell? ⟨b, off + k * 4 + 3, none⟩ = some (.string l[k].2.2.2) := by
        rw [hbel.cell (p := ⟨b, off + k * 4 + 3, none⟩) hbl, Nat.add_assoc, hcell (k * 4 + 3) (by omega), stpCs_3 l k hlt]
      have hd0 : wr.cell? ⟨b', off' + k * 4, none⟩ = some (.int .i64 l[k].1) := by
        rw [hbel.cell (p := ⟨b', off' + k * 4, none⟩) hbl', hcell' (k * 4) (by omega), stpCs_0 l k hlt]
      have hd1 : wr.cell? ⟨b', off' + k * 4 + 1, none⟩ = some (.int .i64 l[k].2.1) := by
        rw [hbel.cell (p := ⟨b', off' + k * 4 + 1, none⟩) hbl', Nat.add_assoc, hcell' (k * 4 + 1) (by omega), stpCs_1 l k hlt]
      have hd2 : wr.cell? ⟨b', off' + k * 4 + 2, none⟩ = some (.int .i64 l[k].2.2.1) := by
        rw [hbel.cell (p := ⟨b', off' + k * 4 + 2, none⟩) hbl', Nat.add_assoc, hcell' (k * 4 + 2) (by omega), stpCs_2 l k hlt]
      have hd3 : wr.cell? ⟨b', off' + k * 4 + 3, none⟩ = some (.string l[k].2.2.2) := by
        rw [hbel.cell (p := ⟨b', off' + k * 4 + 3, none⟩) hbl', Nat.add_assoc, hcell' (k * 4 + 3) (by omega), stpCs_3 l k hlt]
      have HBEL := Lib.hid hbel
      clear hcell hcell' hbel
      have e0 : (k : Int) < (l.length : Int) := by omega
      have e1 : (0 : Int) ≤ (k : Int) := by omega
      generalize l[k] = y at *
      go_wp2_with fail
      go_quiet (fail)
      go_wp2_with fail
      go_roundw
      case rel => exact ⟨k + 1, by omega, by go_num, below_drewN HBEL.out nq⟩
      case measure => simp [intOf]; omega
    · obtain rfl : k = l.length := by omega
      have HBEL := Lib.hid hbel
      clear hbel
      go_wp2_with fail
      go_ret
      exact ⟨rfl, HBEL.out⟩
end Go.Proofs.YthkbllkhomjmbaaGreatDoor

namespace Go.Proofs.YthkbllkhomjmbaaGreatDoor
open Go

def byt (s : ByteArray) (j : Nat) : Nat := (s.data.getD j 0).toNat
theorem byt_at (s : ByteArray) (k : Nat) (h : k < s.size) : s[k].toNat = byt s k := by
  unfold byt
  have : s.data.getD k 0 = s[k] := by
    simp [Array.getD, h]; rfl
  rw [this]
theorem byt_lt (s : ByteArray) (k : Nat) : byt s k < 256 := UInt8.toNat_lt _

/-- The number that a folded one stands for. -/
def unz (v : Nat) : Int := if v % 2 = 1 then -((v / 2 : Nat) : Int) - 1 else ((v / 2 : Nat) : Int)
def addU (u c k : Nat) : Nat := u + c % 128 * 2 ^ (7 * k)

/-- What decoding gives from byte i on, u being what was read: the number, the place behind it, the code. -/
def goN (s : ByteArray) (a : Nat) : Nat → Nat → Nat → Int × Int × Int
  | 0, _, _ => (0, 0, 3)
  | f + 1, i, u =>
    if s.size ≤ a + i then (0, 0, 4)
    else if i = 9 ∧ 1 < byt s (a + i) then (0, 0, 3)
    else if 128 ≤ byt s (a + i) then goN s a f (i + 1) (addU u (byt s (a + i)) i)
    else if byt s (a + i) = 0 ∧ 0 < i then (0, 0, 3)
    else (unz (addU u (byt s (a + i)) i), (a : Int) + i + 1, 0)

theorem goN_short {s : ByteArray} {a f i u : Nat} (h : s.size ≤ a + i) : goN s a (f + 1) i u = (0, 0, 4) := by rw [goN, if_pos h]
theorem goN_ten {s : ByteArray} {a f i u : Nat} (h : ¬ s.size ≤ a + i) (h9 : i = 9) (hc : 1 < byt s (a + i)) : goN s a (f + 1) i u = (0, 0, 3) := by
  rw [goN, if_neg h, if_pos ⟨h9, hc⟩]
theorem goN_more {s : ByteArray} {a f i u : Nat} (h : ¬ s.size ≤ a + i) (h9 : i < 9) (hc : 128 ≤ byt s (a + i)) : goN s a (f + 1) i u = goN s a f (i + 1) (addU u (byt s (a + i)) i) := by
  rw [goN, if_neg h, if_neg (by omega), if_pos hc]
theorem goN_long {s : ByteArray} {a f i u : Nat} (h : ¬ s.size ≤ a + i) (hc : byt s (a + i) = 0) (hi : 0 < i) : goN s a (f + 1) i u = (0, 0, 3) := by
  rw [goN, if_neg h, if_neg (by omega), if_neg (by omega), if_pos ⟨hc, hi⟩]
theorem goN_last {s : ByteArray} {a f i u : Nat} (h : ¬ s.size ≤ a + i) (h9 : ¬ (i = 9 ∧ 1 < byt s (a + i))) (hc : byt s (a + i) < 128) (h0 : ¬ (byt s (a + i) = 0 ∧ 0 < i)) :
    goN s a (f + 1) i u = (unz (addU u (byt s (a + i)) i), (a : Int) + i + 1, 0) := by
  rw [goN, if_neg h, if_neg h9, if_neg (by omega), if_neg h0]

theorem pow_small (k : Nat) (h : k ≤ 8) : 2 ^ (7 * k) ≤ 72057594037927936 := by
  calc 2 ^ (7 * k) ≤ 2 ^ 56 := Nat.pow_le_pow_right (by decide) (by omega)
    _ = 72057594037927936 := by decide
theorem addU_lt (u c k : Nat) (hu : u < 2 ^ (7 * k)) : addU u c k < 2 ^ (7 * (k + 1)) := by
  unfold addU
  have e : 2 ^ (7 * (k + 1)) = 128 * 2 ^ (7 * k) := by rw [show 7 * (k + 1) = 7 + 7 * k by omega, Nat.pow_add]
  have h1 : c % 128 * 2 ^ (7 * k) ≤ 127 * 2 ^ (7 * k) := Nat.mul_le_mul_right _ (by omega)
  omega
theorem addU_lim (u c k : Nat) (hu : u < 2 ^ (7 * k)) (hk : k < 9) : addU u c k < 9223372036854775808 := by
  have := addU_lt u c k hu
  have e : 2 ^ (7 * (k + 1)) ≤ 2 ^ 63 := Nat.pow_le_pow_right (by decide) (by omega)
  have e2 : (2 : Nat) ^ 63 = 9223372036854775808 := by decide
  omega
theorem addU_lim9 (u c : Nat) (hu : u < 2 ^ (7 * 9)) (hc : c ≤ 1) : addU u c 9 < lim64 := by
  have e2 : (2 : Nat) ^ (7 * 9) = 9223372036854775808 := by decide
  unfold addU lim64; rw [e2] at *
  have : c % 128 ≤ 1 := by omega
  omega
theorem addU_all (u c k : Nat) (hu : u < 2 ^ (7 * k)) (hk : k < 9 ∨ k = 9 ∧ c ≤ 1) : addU u c k < lim64 := by
  rcases hk with h | ⟨rfl, h⟩
  · exact Nat.lt_trans (addU_lim u c k hu h) (by unfold lim64; omega)
  · exact addU_lim9 u c hu h
theorem acc_spec (u c k : Nat) (hu : u < 2 ^ (7 * k)) (hk : k < 9 ∨ k = 9 ∧ c ≤ 1) : IntKind.u64.wrap ((u : Int) + IntKind.u64.wrap ((c : Int) % 128 * 2 ^ (7 * k))) = (addU u c k : Int) := by
  have h := addU_all u c k hu hk
  have e : (c : Int) % 128 * 2 ^ (7 * k) = ((c % 128 * 2 ^ (7 * k) : Nat) : Int) := by simp
  unfold addU lim64 at *
  rw [e]
  generalize c % 128 * 2 ^ (7 * k) = x at *
  rw [IntKind.wrap_u64, IntKind.wrap_u64]
  omega
theorem unz_odd (v : Nat) (h : v % 2 = 1) : -((v : Int) / 2) - 1 = unz v := by unfold unz; rw [if_pos h]; omega
theorem unz_even (v : Nat) (h : ¬ v % 2 = 1) : (v : Int) / 2 = unz v := by unfold unz; rw [if_neg h]; omega
theorem half_le (v : Nat) (h : v < lim64) : (v : Int) / 2 ≤ 9223372036854775807 := by unfold lim64 at h; omega
theorem or_comm64 (a b : Int) : bits BinOp.or IntKind.u64 a b = bits BinOp.or IntKind.u64 b a := by
  simp only [bits, BitVec.or_comm]
theorem xor_comm64i (a b : Int) : bits BinOp.xor IntKind.i64 a b = bits BinOp.xor IntKind.i64 b a := by
  simp only [bits, BitVec.xor_comm]
theorem and127 (c : Nat) (h : c < 256) : bits BinOp.and IntKind.u8 (c : Int) 127 = ((c % 128 : Nat) : Int) := by
  have := bits_mask .u8 8 (by decide) wraps_u8 7 (by decide) (c : Int) (by omega) (by omega)
  simpa using this
theorem acc_impl (u c k : Nat) (hc : c < 256) (hu : u < 2 ^ (7 * k)) (hk : k < 9 ∨ k = 9 ∧ c ≤ 1) :
    bits BinOp.or IntKind.u64 (u : Int) (IntKind.u64.wrap (IntKind.u64.wrap (bits BinOp.and IntKind.u8 (c : Int) 127) * 2 ^ (7 * k))) = (addU u c k : Int) := by
  have h := addU_all u c k hu hk
  have h7 : u < 2 ^ (7 * k) := hu
  have hw : IntKind.u64.wrap ((c % 128 : Nat) : Int) = ((c % 128 : Nat) : Int) := by rw [IntKind.wrap_u64]; omega
  have e : ((c % 128 : Nat) : Int) * 2 ^ (7 * k) = ((c % 128 * 2 ^ (7 * k) : Nat) : Int) := by simp
  have hm : ((c % 128 * 2 ^ (7 * k) : Nat) : Int) % 2 ^ (7 * k) = 0 := by
    have : (c % 128 * 2 ^ (7 * k)) % 2 ^ (7 * k) = 0 := Nat.mul_mod_left _ _
    have e2 : ((2 : Int) ^ (7 * k)) = ((2 ^ (7 * k) : Nat) : Int) := by simp
    rw [e2]; omega
  have hu2 : (u : Int) < 2 ^ (7 * k) := by
    have e2 : ((2 : Int) ^ (7 * k)) = ((2 ^ (7 * k) : Nat) : Int) := by simp
    rw [e2]; omega
  rw [and127 c hc, hw, e]
  unfold addU lim64 at *
  generalize c % 128 * 2 ^ (7 * k) = x at *
  have hx : IntKind.u64.wrap (x : Int) = (x : Int) := by rw [IntKind.wrap_u64]; omega
  rw [hx, or_comm64, bits_join .u64 64 (by decide) (fun n a b => by rw [IntKind.wrap_u64]; omega) (7 * k) (x : Int) (u : Int) (by omega) hm (by omega) (by omega) hu2 (by omega)]
  omega
theorem xor_zero64 (x : Nat) (h : x < 9223372036854775808) : bits BinOp.xor IntKind.i64 (x : Int) 0 = (x : Int) := by
  show IntKind.i64.wrap ((BitVec.ofInt 64 (x : Int) ^^^ BitVec.ofInt 64 0).toNat : Int) = _
  have h2 : (BitVec.ofInt 64 (x : Int)).toNat = x := by
    rw [BitVec.ofInt_natCast, BitVec.toNat_ofNat]; exact Nat.mod_eq_of_lt (by omega)
  have h0 : (BitVec.ofInt 64 0).toNat = 0 := by decide
  rw [BitVec.toNat_xor, h2, h0, Nat.xor_zero, IntKind.wrap_i64]
  omega
end Go.Proofs.YthkbllkhomjmbaaGreatDoor

namespace Go.Proofs.YthkbllkhomjmbaaGreatDoor
open Go.RowKit

/-- The block of a result of three fields. -/
def outB (x y z : Int) : Obj := .cells #[.int .i64 x, .int .i64 y, .int .i64 z] 102
def GSpecRel (s : ByteArray) (a : Nat) (w : World) (R : Int × Int × Int) (x i : Value) (wr : World) : Prop :=
  ∃ k u : Nat, k ≤ 9 ∧ u < 2 ^ (7 * k) ∧ i = .int .i64 k ∧ x = .int .u64 u ∧ wr = w.alloc (.cells #[.int .i64 0, .int .i64 0, .int .i64 0] 102) ∧ goN s a (9 - k + 1) k u = R

def numV (R : Int × Int × Int) : Value := .agg #[.int .i64 R.1, .int .i64 R.2.1, .int .i64 R.2.2]

set_option maxHeartbeats 2000000 in
set_option maxRecDepth 100000 in
theorem specGet_mid (s : ByteArray) (a : Nat) (w : World) (hs : s.size ≤ 8000) (ha : (a : Int) ≤ 9223372036854775807) (R : Int × Int × Int) (hR : goN s a 10 0 0 = R) :
    Calls Tryz.prog 106 #[.string s, .int .i64 a] w fun e w' => e = .returned (numV R) ∧ Below w.heap.size w w' := by
  have HR := Lib.hid hR
  clear hR
  go_enter Tryz.func106, Tryz.ntmps106
  go_wp2
  go_loopw [5, 6] (fun x i wr => GSpecRel s a w R x i wr) (fun _ i _ => 10 - (intOf i).toNat)
  case atStart => exact ⟨0, 0, by omega, by simp, rfl, rfl, rfl, HR.out⟩
  case round =>
    obtain ⟨k, u, hk, hu, rfl, rfl, rfl, hgo⟩ := hrel
    have HU := Lib.hid hu
    have HG := Lib.hid hgo
    clear hu hgo HR
    by_cases h1 : a + k < s.size
    · have h2 : (a : Int) < (s.size : Int) - (k : Int) := by omega
      have hcc := byt_at s (a + k) h1
      have hc := byt_lt s (a + k)
      by_cases h9 : k = 9 ∧ 1 < byt s (a + k)
      · have HN := Lib.hid ((goN_ten (f := 9 - k) (u := u) (by omega) h9.1 h9.2).symm.trans HG.out)
        obtain ⟨h91, c1⟩ := h9
        have k9 : ((k : Int) == 9) = true := by simp; omega
        clear h91
        generalize byt s (a + k) = c at *
        go_wp2
        exact bodyPost_ret (v := numV (0, 0, 3)) (by simp [numV, results, Tryz.results106, go_sem]) rfl ⟨by rw [HN.out], (Below.refl _ _).alloc (Nat.le_refl _) _⟩
      · have hk9 : k < 9 ∨ k = 9 ∧ byt s (a + k) ≤ 1 := by omega
        have t9 : ((k : Int) == 9) = false ∨ ((k : Int) == 9) = true ∧ byt s (a + k) ≤ 1 := by
          rcases hk9 with z | z
          · left; simp; omega
          · right; exact ⟨by simp; omega, by omega⟩
        have hacc := acc_spec u (byt s (a + k)) k HU.out hk9
        have hvl := half_le _ (addU_all u (byt s (a + k)) k HU.out hk9)
        by_cases c128 : 128 ≤ byt s (a + k)
        · have hlt : k < 9 := by omega
          have k9 : ((k : Int) == 9) = false := by simp; omega
          have HN := Lib.hid ((goN_more (f := 9 - k) (u := u) (by omega) hlt c128).symm.trans HG.out)
          have HV := Lib.hid (addU_lt u (byt s (a + k)) k HU.out)
          clear t9 hk9 h9
          generalize addU u (byt s (a + k)) k = v at *
          generalize byt s (a + k) = c at *
          go_wp2
          go_roundw
          case rel => exact ⟨k + 1, v, by omega, HV.out, by go_num, rfl, rfl, by rw [show 9 - (k + 1) + 1 = 9 - k by omega]; exact HN.out⟩
          case measure => simp [intOf]; omega
        · by_cases c0 : byt s (a + k) = 0 ∧ 0 < k
          · have HN := Lib.hid ((goN_long (f := 9 - k) (u := u) (by omega) c0.1 c0.2).symm.trans HG.out)
            have HE := Lib.hid c0.1
            obtain ⟨_, c1⟩ := c0
            clear hk9 h9
            generalize addU u (byt s (a + k)) k = v at *
            generalize byt s (a + k) = c at *
            have e0 : ((c : Int) == 0) = true := by simp; exact HE.out
            have e1 : decide (0 < k) = true := by simp; omega
            rcases t9 with k9 | ⟨k9, c9⟩
            all_goals go_wp2
            all_goals exact bodyPost_ret (v := numV (0, 0, 3)) (by simp [numV, results, Tryz.results106, go_sem]) rfl ⟨by rw [HN.out], (Below.refl _ _).alloc (Nat.le_refl _) _⟩
          · have HN := Lib.hid ((goN_last (f := 9 - k) (u := u) (by omega) h9 (by omega) c0).symm.trans HG.out)
            have hv : (addU u (byt s (a + k)) k) % 2 = 1 ∨ ¬ (addU u (byt s (a + k)) k) % 2 = 1 := by omega
            have e0 : ((byt s (a + k) : Int) == 0) = true ∧ decide (0 < k) = false ∨ ((byt s (a + k) : Int) == 0) = false := by
              by_cases z : byt s (a + k) = 0
              · left; exact ⟨by simp [z], decide_eq_false (by omega)⟩
              · right; simp; omega
            clear c0 hk9 h9
            generalize addU u (byt s (a + k)) k = v at *
            generalize byt s (a + k) = c at *
            rcases hv with hv | hv
            · have HZ := Lib.hid (unz_odd v hv)
              have p1 : ((v : Int) % 2 == 1) = true := by simp; omega
              clear hv
              rcases e0 with ⟨e0, e1⟩ | e0 <;> rcases t9 with k9 | ⟨k9, c9⟩
              all_goals go_wp2
              all_goals exact bodyPost_ret (v := numV (-((v : Int) / 2) - 1, (a : Int) + k + 1, 0)) (by simp [numV, results, Tryz.results106, go_sem]) rfl ⟨by rw [HZ.out, HN.out], (Below.refl _ _).alloc (Nat.le_refl _) _⟩
            · have HZ := Lib.hid (unz_even v hv)
              have p1 : ((v : Int) % 2 == 1) = false := by simp; omega
              clear hv
              rcases e0 with ⟨e0, e1⟩ | e0 <;> rcases t9 with k9 | ⟨k9, c9⟩
              all_goals go_wp2
              all_goals exact bodyPost_ret (v := numV ((v : Int) / 2, (a : Int) + k + 1, 0)) (by simp [numV, results, Tryz.results106, go_sem]) rfl ⟨by rw [HZ.out, HN.out], (Below.refl _ _).alloc (Nat.le_refl _) _⟩
    · have h2 : (s.size : Int) - (k : Int) ≤ (a : Int) := by omega
      have HN := Lib.hid ((goN_short (f := 9 - k) (u := u) (by omega)).symm.trans HG.out)
      go_wp2
      exact bodyPost_ret (v := numV (0, 0, 4)) (by simp [numV, results, Tryz.results106, go_sem]) rfl ⟨by rw [HN.out], (Below.refl _ _).alloc (Nat.le_refl _) _⟩
end Go.Proofs.YthkbllkhomjmbaaGreatDoor

namespace Go.Proofs.YthkbllkhomjmbaaGreatDoor
open Go

/-- As Q; by a goto to a label: what J says of that label. -/
def jumps (J : Nat → Act → World → Prop) (Q : Exit → Act → World → Prop) : Exit → Act → World → Prop
  | .goto l, a, w => J l a w
  | e, a, w => Q e a w

theorem wp_scope_labels {P : Program} {a : Act} {w : World} {Q : Exit → Act → World → Prop} {c : Code} (J : Nat → Act → World → Prop) (μ : Nat → Act → World → Nat)
    (first : c.wp P (jumps J Q) a w)
    (pass : ∀ l a w, J l a w → ∃ rest, findLabel c l = some rest ∧ rest.wp P (jumps (fun l' a' w' => J l' a' w' ∧ μ l' a' w' < μ l a w) Q) a w) : (Code.scope c).wp P Q a w := by
  intro b k cs
  have far : ∀ n l a w, μ l a w ≤ n → J l a w → ∀ rest, findLabel c l = some rest → ∃ e a' w', Q e a' w' ∧ Arrives P (lone (b.at a (.code rest :: .inScope c :: k)) cs w) b k cs e a' w' := by
    intro n
    induction n with
    | zero =>
      intro l a w hn hJ rest hr
      obtain ⟨rest', hr', hw⟩ := pass l a w hJ
      obtain rfl := Option.some.inj (hr'.symm.trans hr)
      obtain ⟨e, a₁, w₁, hq, harr⟩ := hw b (.inScope c :: k) cs
      cases e with
      | normal => exact ⟨.normal, a₁, w₁, hq, Steps.trans harr (.one step_inScope)⟩
      | exit id => exact ⟨.exit id, a₁, w₁, hq, fun k' hk => harr k' (by simp [exitTo, hk])⟩
      | goto l' => have := hq.2; omega
      | ret => exact ⟨_, a₁, w₁, hq, harr⟩
      | panic ch => exact ⟨_, a₁, w₁, hq, harr⟩
      | outgrown => exact ⟨_, a₁, w₁, hq, harr⟩
    | succ n ih =>
      intro l a w hn hJ rest hr
      obtain ⟨rest', hr', hw⟩ := pass l a w hJ
      obtain rfl := Option.some.inj (hr'.symm.trans hr)
      obtain ⟨e, a₁, w₁, hq, harr⟩ := hw b (.inScope c :: k) cs
      cases e with
      | normal => exact ⟨.normal, a₁, w₁, hq, Steps.trans harr (.one step_inScope)⟩
      | exit id => exact ⟨.exit id, a₁, w₁, hq, fun k' hk => harr k' (by simp [exitTo, hk])⟩
      | goto l' =>
        obtain ⟨hJ', hlt⟩ := hq
        obtain ⟨r2, hr2, _⟩ := pass l' a₁ w₁ hJ'
        obtain ⟨e₂, a₂, w₂, hq₂, harr₂⟩ := ih l' a₁ w₁ (by omega) hJ' r2 hr2
        exact ⟨e₂, a₂, w₂, hq₂, .of_steps (harr _ (by simp [gotoIn, hr2])) harr₂⟩
      | ret => exact ⟨_, a₁, w₁, hq, harr⟩
      | panic ch => exact ⟨_, a₁, w₁, hq, harr⟩
      | outgrown => exact ⟨_, a₁, w₁, hq, harr⟩
  obtain ⟨e, a₁, w₁, hq, harr⟩ := first b (.inScope c :: k) cs
  cases e with
  | normal => exact ⟨.normal, a₁, w₁, hq, .head step_scope (Steps.trans harr (.one step_inScope))⟩
  | exit id => exact ⟨.exit id, a₁, w₁, hq, fun k' hk => .head step_scope (harr k' (by simp [exitTo, hk]))⟩
  | goto l' =>
    obtain ⟨r2, hr2, _⟩ := pass l' a₁ w₁ hq
    obtain ⟨e₂, a₂, w₂, hq₂, harr₂⟩ := far _ l' a₁ w₁ (Nat.le_refl _) hq r2 hr2
    exact ⟨e₂, a₂, w₂, hq₂, .of_steps (.head step_scope (harr _ (by simp [gotoIn, hr2]))) harr₂⟩
  | ret => exact ⟨_, a₁, w₁, hq, .of_steps (.one step_scope) harr⟩
  | panic ch => exact ⟨_, a₁, w₁, hq, .of_steps (.one step_scope) harr⟩
  | outgrown => exact ⟨_, a₁, w₁, hq, .of_steps (.one step_scope) harr⟩
/-- The same where the straight way runs into a label: what is shown of a pass from it serves there, too. -/
theorem wp_scope_labels_at {P : Program} {a : Act} {w : World} {Q : Exit → Act → World → Prop} {c rest : Code} (J : Nat → Act → World → Prop) (μ : Nat → Act → World → Nat) (l : Nat)
    (hl : findLabel c l = some (.seq .skip rest))
    (first : (∀ a w, J l a w → rest.wp P (jumps J Q) a w) → c.wp P (jumps J Q) a w)
    (at_l : ∀ a w, J l a w → rest.wp P (jumps (fun l' a' w' => J l' a' w' ∧ μ l' a' w' < μ l a w) Q) a w)
    (pass : ∀ l' a w, l' ≠ l → J l' a w → ∃ rest, findLabel c l' = some rest ∧ rest.wp P (jumps (fun l'' a' w' => J l'' a' w' ∧ μ l'' a' w' < μ l' a w) Q) a w) : (Code.scope c).wp P Q a w := by
  refine wp_scope_labels J μ (first fun a w hJ => ?_) fun l' a w hJ => ?_
  · refine wp_mono (at_l a w hJ) fun e a w h => ?_
    cases e with
    | goto l' => exact h.1
    | _ => exact h
  · by_cases e : l' = l
    · subst e
      exact ⟨_, hl, wp_seq (wp_skip (at_l a w hJ))⟩
    · exact pass l' a w e hJ
end Go.Proofs.YthkbllkhomjmbaaGreatDoor

namespace Go.Proofs.YthkbllkhomjmbaaGreatDoor
open Go.RowKit

/-- The frame of readNum behind its declarations: the place, what was read, the byte, how many bytes, the code; the rest is scratch. -/
def rdFrame (s : ByteArray) (p u : Int) (b : Value) (n code : Int) (a : Act) : Prop :=
  ∃ u11 u12 u13 u14 u15 u16 u17 u18 u19 u20 u21 u22 u23 u24 u25 u26 u27 u28 u29 u30 u31 u32 u33 u34 u35 u36 u37 u38 u39 u40 u41 u42 u43 u44 u45 u46 u47 u48 u49 u50 u51 u52 u53 u54 u55 u56 : Value, a = { tmps := #[.string s, .int .i64 p, undef, undef, .int .i64 0, .int .i64 0, .nilIface, .int .u64 u, b, .int .i64 n, .int .i64 code, u11, u12, u13, u14, u15, u16, u17, u18, u19, u20, u21, u22, u23, u24, u25, u26, u27, u28, u29, u30, u31, u32, u33, u34, u35, u36, u37, u38, u39, u40, u41, u42, u43, u44, u45, u46, u47, u48, u49, u50, u51, u52, u53, u54, u55, u56], defers := [] }

/-- What holds at each of the three labels (1: more, 2: last, 0: wrong). -/
def rdAt (s : ByteArray) (p : Nat) (w : World) (R : Int × Int × Int) : Nat → Act → World → Prop
  | 0, a, w' => w' = w ∧ ∃ (q u : Int) (b : Value) (n code : Int), rdFrame s q u b n code a ∧ (0, 0, code) = R ∧ ¬ code = 0
  | 1, a, w' => w' = w ∧ ∃ (k u : Nat) (b : Value), k ≤ 9 ∧ u < 2 ^ (7 * k) ∧ goN s p (9 - k + 1) k u = R ∧ rdFrame s ((p : Int) + k) u b k 3 a
  | 2, a, w' => w' = w ∧ ∃ k v c : Nat, k ≤ 9 ∧ v < lim64 ∧ c < 128 ∧ (c = 0 ∧ 0 < k → (0, 0, 3) = R) ∧ (¬ (c = 0 ∧ 0 < k) → (unz v, (p : Int) + k + 1, 0) = R) ∧ rdFrame s ((p : Int) + k + 1) v (.int .u8 c) ((k : Int) + 1) 3 a
  | _, _, _ => False

def rdMeasure : Nat → Act → World → Nat
  | 0, _, _ => 0
  | 1, a, _ => 100 - (intOf (a.tmps.getD 9 undef)).toNat
  | _, _, _ => 1

/-- What readNum hands back: the number, the place behind it, and nil or an error with the code. -/
def readV (R : Int × Int × Int) : Value := .tuple #[.int .i64 R.1, .int .i64 R.2.1, if R.2.2 = 0 then .nilIface else .iface 146 (.agg #[.int .i64 R.2.2])]
theorem readV_bad (code : Int) (h : ¬ code = 0) : readV (0, 0, code) = .tuple #[.int .i64 0, .int .i64 0, .iface 146 (.agg #[.int .i64 code])] := by
  simp [readV, h]
theorem readV_good (n q : Int) : readV (n, q, 0) = .tuple #[.int .i64 n, .int .i64 q, .nilIface] := by
  simp [readV]
theorem fin_impl (v : Nat) (hv : v < lim64) : bits BinOp.xor IntKind.i64 (wrap64 ((v : Int) / 2)) (wrap64 (-wrap64 (bits BinOp.and IntKind.u64 (v : Int) 1))) = unz v := by
  unfold lim64 at hv
  rw [Lib.u64_and1 _ (by omega) (by omega), IntWalk.wrap64_in ((v : Int) / 2) (by omega), IntWalk.wrap64_in ((v : Int) % 2) (by omega), IntWalk.wrap64_in _ (by omega)]
  have e : (v : Int) / 2 = ((v / 2 : Nat) : Int) := by omega
  unfold unz
  by_cases h : v % 2 = 1
  · rw [if_pos h, show -((v : Int) % 2) = -1 by omega, xor_comm64i, e, Lib.i64_not _ (by omega)]
  · rw [if_neg h, show -((v : Int) % 2) = 0 by omega, e, xor_zero64 _ (by omega)]

set_option maxHeartbeats 4000000 in
set_option maxRecDepth 100000 in
theorem read_any (s : ByteArray) (p : Nat) (w : World) (hs : s.size ≤ 8000) (hp : (p : Int) ≤ 9223372036854775807) (R : Int × Int × Int) (hR : goN s p 10 0 0 = R) :
    Calls Tryz.prog 120 #[.string s, .int .i64 p] w fun e w' => e = .returned (readV R) ∧ w = w' := by
  have HR := Lib.hid hR
  clear hR
  go_enter Tryz.func120, Tryz.ntmps120
  go_wp2
  refine wp_scope_labels_at (rdAt s p w R) rdMeasure 1 rfl ?_ ?_ ?_
  · intro go
    go_wp2
    go_step3
    rename_i K hK
    refine hK _ _ (go _ _ ⟨rfl, 0, 0, .int .u8 0, by omega, by simp, HR.out, ?_⟩)
    rw [show ((p : Int) + ((0 : Nat) : Int)) = (p : Int) by simp]
    exact ⟨_, _, _, _, _, _, _, _, _, _, _, _, _, _, _, _, _, _, _, _, _, _, _, _, _, _, _, _, _, _, _, _, _, _, _, _, _, _, _, _, _, _, _, _, _, _, rfl⟩
  · intro a1 w1 hJ
    obtain ⟨rfl, k, u, b, hk, hu, hg, u11, u12, u13, u14, u15, u16, u17, u18, u19, u20, u21, u22, u23, u24, u25, u26, u27, u28, u29, u30, u31, u32, u33, u34, u35, u36, u37, u38, u39, u40, u41, u42, u43, u44, u45, u46, u47, u48, u49, u50, u51, u52, u53, u54, u55, u56, rfl⟩ := hJ
    have HU := Lib.hid hu
    have HG := Lib.hid hg
    clear hu hg HR
    by_cases h1 : p + k < s.size
    · have hcc := byt_at s (p + k) h1
      have hc := byt_lt s (p + k)
      by_cases h9 : k = 9 ∧ 1 < byt s (p + k)
      · have HN := Lib.hid ((goN_ten (f := 9 - k) (u := u) (by omega) h9.1 h9.2).symm.trans HG.out)
        obtain ⟨h91, c1⟩ := h9
        have k9 : ((k : Int) + 1 == 10) = true := by simp; omega
        clear h91
        generalize byt s (p + k) = c at *
        go_wp2
        go_step3
        exact ⟨⟨rfl, _, _, _, _, _, ⟨_, _, _, _, _, _, _, _, _, _, _, _, _, _, _, _, _, _, _, _, _, _, _, _, _, _, _, _, _, _, _, _, _, _, _, _, _, _, _, _, _, _, _, _, _, _, rfl⟩, HN.out, by decide⟩, by simp [rdMeasure, intOf]; omega⟩
      · have hk9 : k < 9 ∨ k = 9 ∧ byt s (p + k) ≤ 1 := by omega
        have t9 : ((k : Int) + 1 == 10) = false ∨ ((k : Int) + 1 == 10) = true ∧ byt s (p + k) ≤ 1 := by
          rcases hk9 with z | z
          · left; simp; omega
          · right; exact ⟨by simp; omega, by omega⟩
        have HACC := Lib.hid (acc_impl u (byt s (p + k)) k hc HU.out hk9)
        have HLIM := Lib.hid (addU_all u (byt s (p + k)) k HU.out hk9)
        by_cases c128 : 128 ≤ byt s (p + k)
        · have hlt : k < 9 := by omega
          have k9 : ((k : Int) + 1 == 10) = false := by simp; omega
          have HN := Lib.hid ((goN_more (f := 9 - k) (u := u) (by omega) hlt c128).symm.trans HG.out)
          have HV := Lib.hid (addU_lt u (byt s (p + k)) k HU.out)
          clear t9 hk9 h9
          generalize addU u (byt s (p + k)) k = v at *
          generalize byt s (p + k) = c at *
          go_wp2
          go_step3
          rw [HACC.out]
          exact ⟨⟨rfl, k + 1, v, _, by omega, HV.out, by rw [show 9 - (k + 1) + 1 = 9 - k by omega]; exact HN.out, _, _, _, _, _, _, _, _, _, _, _, _, _, _, _, _, _, _, _, _, _, _, _, _, _, _, _, _, _, _, _, _, _, _, _, _, _, _, _, _, _, _, _, _, _, _, by go_num⟩, by simp [rdMeasure, intOf]; omega⟩
        · have HL := Lib.hid (fun h : byt s (p + k) = 0 ∧ 0 < k => (goN_long (f := 9 - k) (u := u) (by omega) h.1 h.2).symm.trans HG.out)
          have HM := Lib.hid (fun h : ¬ (byt s (p + k) = 0 ∧ 0 < k) => (goN_last (f := 9 - k) (u := u) (by omega) h9 (by omega) h).symm.trans HG.out)
          clear hk9 h9
          generalize addU u (byt s (p + k)) k = v at *
          generalize byt s (p + k) = c at *
          rcases t9 with k9 | ⟨k9, c9⟩
          all_goals go_wp2
          all_goals go_step3
          all_goals rw [HACC.out]
          all_goals exact ⟨⟨rfl, k, v, c, hk, HLIM.out, by omega, HL.out, HM.out, _, _, _, _, _, _, _, _, _, _, _, _, _, _, _, _, _, _, _, _, _, _, _, _, _, _, _, _, _, _, _, _, _, _, _, _, _, _, _, _, _, _, _, _, _, _, rfl⟩, by simp [rdMeasure, intOf]; omega⟩
    · have HN := Lib.hid ((goN_short (f := 9 - k) (u := u) (by omega)).symm.trans HG.out)
      go_wp2
      go_step3
      exact ⟨⟨rfl, _, _, _, _, _, ⟨_, _, _, _, _, _, _, _, _, _, _, _, _, _, _, _, _, _, _, _, _, _, _, _, _, _, _, _, _, _, _, _, _, _, _, _, _, _, _, _, _, _, _, _, _, _, rfl⟩, HN.out, by decide⟩, by simp [rdMeasure, intOf]; omega⟩
  · intro l a1 w1 hl hJ
    match l, hJ with
    | 0, hJ =>
      obtain ⟨rfl, q, u, b, n, code, ⟨u11, u12, u13, u14, u15, u16, u17, u18, u19, u20, u21, u22, u23, u24, u25, u26, u27, u28, u29, u30, u31, u32, u33, u34, u35, u36, u37, u38, u39, u40, u41, u42, u43, u44, u45, u46, u47, u48, u49, u50, u51, u52, u53, u54, u55, u56, rfl⟩, hc, hne⟩ := hJ
      refine ⟨_, rfl, ?_⟩
      have HC := Lib.hid hc
      have HV := Lib.hid (readV_bad code hne)
      clear hc HR
      go_wp2
      simp only [jumps]
      go_ret3
      exact ⟨by rw [← HC.out, HV.out]; rfl, rfl⟩
    | 1, hJ => exact absurd rfl hl
    | 2, hJ =>
      obtain ⟨rfl, k, v, c, hk, hv, hc, hA, hB, u11, u12, u13, u14, u15, u16, u17, u18, u19, u20, u21, u22, u23, u24, u25, u26, u27, u28, u29, u30, u31, u32, u33, u34, u35, u36, u37, u38, u39, u40, u41, u42, u43, u44, u45, u46, u47, u48, u49, u50, u51, u52, u53, u54, u55, u56, rfl⟩ := hJ
      refine ⟨_, rfl, ?_⟩
      have HB := Lib.hid hB
      have HF := Lib.hid (fin_impl v hv)
      by_cases h0 : c = 0 ∧ 0 < k
      · have HN := Lib.hid (hA h0)
        have e0 : ((c : Int) == 0) = true := by simp; omega
        have e1 : (1 : Int) < (k : Int) + 1 := by omega
        clear hA hB hv HR h0
        go_wp2
        go_step3
        exact ⟨⟨rfl, _, _, _, _, _, ⟨_, _, _, _, _, _, _, _, _, _, _, _, _, _, _, _, _, _, _, _, _, _, _, _, _, _, _, _, _, _, _, _, _, _, _, _, _, _, _, _, _, _, _, _, _, _, rfl⟩, HN.out, by decide⟩, Nat.zero_lt_one⟩
      · have HN := Lib.hid (hB h0)
        have HV := Lib.hid (readV_good (unz v) ((p : Int) + k + 1))
        have e0 : ((c : Int) == 0) = true ∧ (k : Int) + 1 ≤ 1 ∨ ((c : Int) == 0) = false := by
          by_cases z : c = 0
          · left; exact ⟨by simp [z], by omega⟩
          · right; simp; omega
        clear hA hB hv HR h0
        rcases e0 with ⟨e0, e1⟩ | e0
        all_goals go_wp2
        all_goals simp only [jumps]
        all_goals go_ret3
        all_goals exact ⟨by rw [← HN.out, HV.out, ← HF.out]; rfl, rfl⟩
    | n + 3, hJ => exact hJ.elim
end Go.Proofs.YthkbllkhomjmbaaGreatDoor

namespace Go.Proofs.YthkbllkhomjmbaaGreatDoor
open Go.RowKit Go.Extern.Stop Go.Stop Go.Extern

theorem as_nil (t : Value) (w : World) :
    Calls Tryz.prog 121 #[.nilIface, t] w fun e w' => e = .returned (.bool false) ∧ w = w' := by
  go_enter Tryz.func121, Tryz.ntmps121
  go_wp2
  go_ret
  exact ⟨rfl, rfl⟩

theorem valueOf40 (t : Addr) (w : World) : (ReflectliteValue.unpack (.iface 148 (.pointer (some t)))).run Tryz.prog w
    = .ok (.agg #[.pointer (some ⟨11, 148, none⟩), .pointer (some ⟨w.heap.size, 0, none⟩), .int .u64 150]) (w.alloc (.cells #[.pointer (some t)] 148)) := by kernel_rfl
theorem type40 (a : Addr) (w : World) : (ReflectliteValue.methodAny (ReflectliteValue.valueError "reflectlite.Value.Type" 0) (fun t _ _ _ => ReflectliteType.toType t) #[.agg #[.pointer (some ⟨11, 148, none⟩), .pointer (some a), .int .u64 150]]).run Tryz.prog w
    = .ok (.iface 209 (.agg #[.pointer (some ⟨11, 148, none⟩)])) w := by kernel_rfl
theorem methodKind (h : Value) (w : World) : (Go.method 363 209 (.agg #[h]) "Kind").run Tryz.prog w = .ok (181, h) w := by kernel_rfl
theorem kind40 (w : World) : ((ReflectliteType.abiMethod fun t => (fun a : Nat => Value.int IntKind.u8 (a : Int)) <$> Rtype.kind t) #[.pointer (some ⟨11, 148, none⟩)]).run Tryz.prog w = .ok (.int .u8 22) w := by kernel_rfl
theorem kind38 (w : World) : ((ReflectliteType.abiMethod fun t => (fun a : Nat => Value.int IntKind.u8 (a : Int)) <$> Rtype.kind t) #[.pointer (some ⟨11, 146, none⟩)]).run Tryz.prog w = .ok (.int .u8 25) w := by kernel_rfl
theorem opened (z : Sem Value) (f : TypeId → Addr → Nat → Nat → Sem Value) (v : Value) :
    ReflectliteValue.method z f #[v] = (do match ← ReflectliteValue.parts v with | none => z | some (t, a, fl) => f t a fl (fl % 32)) := rfl
theorem parts40 (a : Addr) (w : World) : (ReflectliteValue.parts (.agg #[.pointer (some ⟨11, 148, none⟩), .pointer (some a), .int .u64 150])).run Tryz.prog w = .ok (some (148, a, 150)) w := by kernel_rfl
theorem isNil40 (a p : Addr) (W : World) (ha : W.cell? a = some (.pointer (some p))) :
    (ReflectliteValue.method (ReflectliteValue.valueError "reflectlite.Value.IsNil" 0) ReflectliteValue.isNil #[.agg #[.pointer (some ⟨11, 148, none⟩), .pointer (some a), .int .u64 150]]).run Tryz.prog W = .ok (.bool false) W := by
  rw [opened]
  simp only [Sem.run_bind, parts40, Result.andThen]
  simp [ReflectliteValue.isNil, loadVar, isAgg, underlying, Tryz.underlying148, ha, Result.andThen]
theorem methodElem (h : Value) (w : World) : (Go.method 363 209 (.agg #[h]) "Elem").run Tryz.prog w = .ok (205, .agg #[h]) w := by kernel_rfl
theorem methodImplements (h : Value) (w : World) : (Go.method 363 209 (.agg #[h]) "Implements").run Tryz.prog w = .ok (206, .agg #[h]) w := by kernel_rfl
theorem methodAssignableTo (h : Value) (w : World) : (Go.method 363 209 (.agg #[h]) "AssignableTo").run Tryz.prog w = .ok (203, .agg #[h]) w := by kernel_rfl
theorem elem40 (w : World) : (ReflectliteType.method ReflectliteType.elem #[.agg #[.pointer (some ⟨11, 148, none⟩)]]).run Tryz.prog w = .ok (.iface 209 (.agg #[.pointer (some ⟨11, 146, none⟩)])) w := by kernel_rfl
theorem implements38 (w : World) : (ReflectliteType.relation "Implements" ReflectliteType.implements_ #[.agg #[.pointer (some ⟨11, 146, none⟩)], .iface 209 (.agg #[.pointer (some ⟨11, 77, none⟩)])]).run Tryz.prog w = .ok (.bool true) w := by kernel_rfl
theorem typeOf38 (v : Value) (w : World) : (ReflectliteType.typeOf #[.iface 146 v]).run Tryz.prog w = .ok (.iface 209 (.agg #[.pointer (some ⟨11, 146, none⟩)])) w := by kernel_rfl
theorem assignable38 (w : World) : (ReflectliteType.relation "AssignableTo" ReflectliteType.assignableTo #[.agg #[.pointer (some ⟨11, 146, none⟩)], .iface 209 (.agg #[.pointer (some ⟨11, 146, none⟩)])]).run Tryz.prog w = .ok (.bool true) w := by kernel_rfl
theorem valueOf38 (n : Int) (w : World) : (ReflectliteValue.unpack (.iface 146 (.agg #[.int .i64 n]))).run Tryz.prog w
    = .ok (.agg #[.pointer (some ⟨11, 146, none⟩), .pointer (some ⟨w.heap.size, 0, none⟩), .int .u64 153]) (w.alloc (.cells #[.int .i64 n] 146)) := by kernel_rfl
theorem elemOf40 (w : World) : (Rtype.elem? 148).run Tryz.prog w = .ok (some 146) w := by kernel_rfl
theorem mk38 (p : Addr) (w : World) : (ReflectliteValue.mk 146 p ReflectliteValue.flagAddr).run Tryz.prog w = .ok (.agg #[.pointer (some ⟨11, 146, none⟩), .pointer (some p), .int .u64 409]) w := by kernel_rfl
theorem elemV40 (a p : Addr) (W : World) (ha : W.cell? a = some (.pointer (some p))) :
    (ReflectliteValue.method (ReflectliteValue.valueError "reflectlite.Value.Elem" 0) ReflectliteValue.elem #[.agg #[.pointer (some ⟨11, 148, none⟩), .pointer (some a), .int .u64 150]]).run Tryz.prog W
      = .ok (.agg #[.pointer (some ⟨11, 146, none⟩), .pointer (some p), .int .u64 409]) W := by
  rw [opened]
  simp only [Sem.run_bind, parts40, Result.andThen]
  simp [ReflectliteValue.elem, loadVar, isAgg, underlying, Tryz.underlying148, ha, Result.andThen, elemOf40, mk38]
theorem parts38a (a : Addr) (w : World) : (ReflectliteValue.parts (.agg #[.pointer (some ⟨11, 146, none⟩), .pointer (some a), .int .u64 409])).run Tryz.prog w = .ok (some (146, a, 409)) w := by kernel_rfl
theorem parts38 (a : Addr) (w : World) : (ReflectliteValue.parts (.agg #[.pointer (some ⟨11, 146, none⟩), .pointer (some a), .int .u64 153])).run Tryz.prog w = .ok (some (146, a, 153)) w := by kernel_rfl
theorem direct38 (w : World) : (Rtype.directlyAssignable 146 146).run Tryz.prog w = .ok true w := by kernel_rfl
theorem isAgg38 (w : World) : (isAgg 146).run Tryz.prog w = .ok true w := by kernel_rfl
theorem size38 (w : World) : (sizeOf 146).run Tryz.prog w = .ok 1 w := by kernel_rfl
theorem setPair {motive : Array Value → Sort _} (v x : Value) (f : (v x : Value) → motive #[v, x]) (g : (a : Array Value) → motive a) : ReflectliteValue.set.match_3 motive #[v, x] f g = f v x := rfl
theorem set38 (ta b : Addr) (n : Int) (old : Value) (W : World) (hb : W.cell? b = some (.int .i64 n)) (ht : W.cell? ta = some old) (hf : W.frozen? ta = false) :
    (ReflectliteValue.set #[.agg #[.pointer (some ⟨11, 146, none⟩), .pointer (some ta), .int .u64 409], .agg #[.pointer (some ⟨11, 146, none⟩), .pointer (some b), .int .u64 153]]).run Tryz.prog W
      = .ok (.tuple #[]) (W.setCell ta (.int .i64 n)) := by
  delta ReflectliteValue.set
  rw [setPair]
  simp only [Sem.run_bind, parts38a, parts38, Result.andThen]
  simp [ReflectliteValue.flagAddr, loadVar, Result.andThen, direct38, storeVar, Value.cells, storeCells, Addr.add]
  have hl := run_loadCells_list (P := Tryz.prog) W b [Value.int .i64 n] (fun j v hj => by
    match j, hj with
    | 0, hj => simp at hj; subst hj; simpa [Addr.add] using hb)
  simp only [List.length_singleton] at hl
  rw [hl]
  simp [storeCells, Addr.add]
  rw [run_store Tryz.prog W ta _ _ (by rfl)]
  simp [ht, hf]

/-- The world behind a hit: the copies that reflectlite makes, and the target set. -/
def asW (n : Int) (t : Addr) (w : World) : World :=
  ((((w.alloc (.cells #[.pointer (some t)] 148)).alloc (.cells #[.pointer (some ⟨11, 148, none⟩), .pointer (some ⟨w.heap.size, 0, none⟩), .int .u64 150] 194)).alloc (.cells #[.pointer (some ⟨11, 148, none⟩), .pointer (some ⟨w.heap.size, 0, none⟩), .int .u64 150] 194)).alloc (.cells #[.int .i64 n] 146)).setCell t (.int .i64 n)

set_option maxHeartbeats 4000000 in
theorem size_alloc_one (w : World) (o : Obj) : (w.alloc o).heap.size = w.heap.size + 1 := by simp
theorem as_hit (n : Int) (t : Addr) (old : Value) (w : World) (hg : w.cell? ⟨7, 0, none⟩ = some (.iface 209 (.agg #[.pointer (some ⟨11, 77, none⟩)]))) (ht0 : w.cell? t = some old) (hf0 : w.frozen? t = false) :
    Calls Tryz.prog 121 #[.iface 146 (.agg #[.int .i64 n]), .iface 148 (.pointer (some t))] w fun ev w' => ev = .returned (.bool true) ∧ w' = asW n t w := by
  have h13 := @run_callFunc_extern Tryz.prog 147 _ (fun args => ReflectliteValue.unpack (args.getD 0 (.tuple #[]))) Tryz.func147 (by kernel_rfl) (by kernel_rfl) (by kernel_rfl) (by kernel_rfl)
  have h14 := @run_callFunc_extern Tryz.prog 148 _ (ReflectliteValue.methodAny (ReflectliteValue.valueError "reflectlite.Value.Type" 0) (fun t _ _ _ => ReflectliteType.toType t)) Tryz.func148 (by kernel_rfl) (by kernel_rfl) (by kernel_rfl) (by kernel_rfl)
  have h15 := @run_callFunc_extern Tryz.prog 149 _ (ReflectliteValue.method (ReflectliteValue.valueError "reflectlite.Value.IsNil" 0) ReflectliteValue.isNil) Tryz.func149 (by kernel_rfl) (by kernel_rfl) (by kernel_rfl) (by kernel_rfl)
  have h34 := @run_callFunc_extern Tryz.prog 181 _ (ReflectliteType.abiMethod fun t => do pure (.int .u8 (← Rtype.kind t))) Tryz.func181 (by kernel_rfl) (by kernel_rfl) (by kernel_rfl) (by kernel_rfl)
  have h44 := @run_callFunc_extern Tryz.prog 205 _ (ReflectliteType.method ReflectliteType.elem) Tryz.func205 (by kernel_rfl) (by kernel_rfl) (by kernel_rfl) (by kernel_rfl)
  have h45 := @run_callFunc_extern Tryz.prog 206 _ (ReflectliteType.relation "Implements" ReflectliteType.implements_) Tryz.func206 (by kernel_rfl) (by kernel_rfl) (by kernel_rfl) (by kernel_rfl)
  have h17 := @run_callFunc_extern Tryz.prog 140 _ ReflectliteType.typeOf Tryz.func140 (by kernel_rfl) (by kernel_rfl) (by kernel_rfl) (by kernel_rfl)
  have h42 := @run_callFunc_extern Tryz.prog 203 _ (ReflectliteType.relation "AssignableTo" ReflectliteType.assignableTo) Tryz.func203 (by kernel_rfl) (by kernel_rfl) (by kernel_rfl) (by kernel_rfl)
  have h18 := @run_callFunc_extern Tryz.prog 159 _ (ReflectliteValue.method (ReflectliteValue.valueError "reflectlite.Value.Elem" 0) ReflectliteValue.elem) Tryz.func159 (by kernel_rfl) (by kernel_rfl) (by kernel_rfl) (by kernel_rfl)
  have h19 := @run_callFunc_extern Tryz.prog 160 _ ReflectliteValue.set Tryz.func160 (by kernel_rfl) (by kernel_rfl) (by kernel_rfl) (by kernel_rfl)
  have tO := typeOf38
  have mA := methodAssignableTo
  have a38 := assignable38
  have v38 := valueOf38
  have f13 := valueOf40
  have f14 := type40
  have mK := methodKind
  have mE := methodElem
  have mI := methodImplements
  have k40 := kind40
  have k38 := kind38
  have e40 := elem40
  have i38 := implements38
  have n15 := isNil40 ⟨w.heap.size, 0, none⟩ t ((w.alloc (.cells #[.pointer (some t)] 148)).alloc (.cells #[.pointer (some ⟨11, 148, none⟩), .pointer (some ⟨w.heap.size, 0, none⟩), .int .u64 150] 194)) (by simp)
  have hlt : 7 < w.heap.size := by
    rcases Nat.lt_or_ge 7 w.heap.size with h | h
    · exact h
    · simp [World.cell?, Array.getElem?_eq_none h] at hg
  have hg2 : ((w.alloc (.cells #[.pointer (some t)] 148)).alloc (.cells #[.pointer (some ⟨11, 148, none⟩), .pointer (some ⟨w.heap.size, 0, none⟩), .int .u64 150] 194)).cell? ⟨7, 0, none⟩ = some (.iface 209 (.agg #[.pointer (some ⟨11, 77, none⟩)])) := by
    rw [World.cell?_alloc_lt _ _ ⟨7, 0, none⟩ (by rw [size_alloc_one]; exact Nat.lt_succ_of_lt hlt), World.cell?_alloc_lt _ _ ⟨7, 0, none⟩ hlt]; exact hg
  have htl : t.block < w.heap.size := by
    rcases Nat.lt_or_ge t.block w.heap.size with h | h
    · exact h
    · simp [World.cell?, Array.getElem?_eq_none h] at ht0
  have el := elemV40 ⟨w.heap.size, 0, none⟩ t (((w.alloc (.cells #[.pointer (some t)] 148)).alloc (.cells #[.pointer (some ⟨11, 148, none⟩), .pointer (some ⟨w.heap.size, 0, none⟩), .int .u64 150] 194)).alloc (.cells #[.pointer (some ⟨11, 148, none⟩), .pointer (some ⟨w.heap.size, 0, none⟩), .int .u64 150] 194)) (by rw [World.cell?_alloc_lt _ _ ⟨w.heap.size, 0, none⟩ (by simp; omega)]; simp)
  have st := set38 t ⟨w.heap.size + 1 + 1 + 1, 0, none⟩ n old ((((w.alloc (.cells #[.pointer (some t)] 148)).alloc (.cells #[.pointer (some ⟨11, 148, none⟩), .pointer (some ⟨w.heap.size, 0, none⟩), .int .u64 150] 194)).alloc (.cells #[.pointer (some ⟨11, 148, none⟩), .pointer (some ⟨w.heap.size, 0, none⟩), .int .u64 150] 194)).alloc (.cells #[.int .i64 n] 146))
    (by rw [World.cell?_alloc_at _ _ _ _ (by simp)]; rfl)
    (by rw [World.cell?_alloc_lt _ _ t (by simp; omega), World.cell?_alloc_lt _ _ t (by simp; omega), World.cell?_alloc_lt _ _ t (by simp; omega), World.cell?_alloc_lt _ _ t htl]; exact ht0)
    (by rw [World.frozen?_alloc_old _ _ t (by simp; omega), World.frozen?_alloc_old _ _ t (by simp; omega), World.frozen?_alloc_old _ _ t (by simp; omega), World.frozen?_alloc_old _ _ t (Nat.ne_of_lt htl)]; exact hf0)
  go_enter Tryz.func121, Tryz.ntmps121
  go_wp2
  refine wp_loop_rounds 1 ?_
  rw [rounds_succ]
  go_wp2
  go_ret
  exact ⟨rfl, rfl⟩
end Go.Proofs.YthkbllkhomjmbaaGreatDoor

namespace Go.Proofs.YthkbllkhomjmbaaGreatDoor
open Go.RowKit

/-- What package errors keeps in its variable errorType. -/
def Laid (w : World) : Prop := w.cell? ⟨7, 0, none⟩ = some (.iface 209 (.agg #[.pointer (some ⟨11, 77, none⟩)]))
theorem Laid.pos {w : World} (h : Laid w) : 7 < w.heap.size := by
  rcases Nat.lt_or_ge 7 w.heap.size with h0 | h1
  · exact h0
  · unfold Laid at h; simp [World.cell?, Array.getElem?_eq_none h1] at h
theorem Laid.alloc {w : World} (h : Laid w) (o : Obj) : Laid (w.alloc o) := by
  unfold Laid at *
  rw [World.cell?_alloc_lt _ _ ⟨7, 0, none⟩ (Laid.pos h)]; exact h
theorem Laid.below {w w' : World} (h : Laid w) (hb : Below w.heap.size w w') : Laid w' := by
  unfold Laid at *
  rw [hb.cell (p := ⟨7, 0, none⟩) (Laid.pos h)]; exact h

theorem goN_bad (s : ByteArray) (a : Nat) : ∀ f i u, ¬ (goN s a f i u).2.2 = 0 → goN s a f i u = (0, 0, (goN s a f i u).2.2)
  | 0, _, _, _ => rfl
  | f + 1, i, u, h => by
    rw [goN] at h ⊢
    by_cases h1 : s.size ≤ a + i
    · rw [if_pos h1]
    rw [if_neg h1] at h ⊢
    by_cases h2 : i = 9 ∧ 1 < byt s (a + i)
    · rw [if_pos h2]
    rw [if_neg h2] at h ⊢
    by_cases h3 : 128 ≤ byt s (a + i)
    · rw [if_pos h3] at h ⊢
      exact goN_bad s a f (i + 1) _ h
    rw [if_neg h3] at h ⊢
    by_cases h4 : byt s (a + i) = 0 ∧ 0 < i
    · rw [if_pos h4]
    · rw [if_neg h4] at h; simp at h

theorem asW_below (n : Int) (t : Addr) (w : World) {B : Nat} {w0 : World} (h : Below B w0 w) (hB : B ≤ w.heap.size) (ht : B ≤ t.block) : Below B w0 (asW n t w) := by
  unfold asW
  exact ((((h.alloc hB _).alloc (by simp; omega) _).alloc (by simp; omega) _).alloc (by simp; omega) _).setCell ht _

set_option maxHeartbeats 2000000 in
theorem implGet_ok (s : ByteArray) (p : Nat) (w : World) (hs : s.size ≤ 8000) (hp : (p : Int) ≤ 9223372036854775807) (n q : Int) (hR : goN s p 10 0 0 = (n, q, 0)) :
    Calls Tryz.prog 78 #[.string s, .int .i64 p] w fun e w' => e = .returned (numV (n, q, 0)) ∧ Below w.heap.size w w' := by
  have HR := Lib.hid hR
  clear hR
  go_enter Tryz.func78, Tryz.ntmps78
  go_wp2_with fail
  refine (read_any s p _ hs hp _ HR.out).mono ?_
  rintro e w' ⟨rfl, rfl⟩
  rw [readV_good]
  go_wp2_with fail
  refine (as_nil _ _).mono ?_
  rintro e w' ⟨rfl, rfl⟩
  go_wp2_with fail
  exact bodyPost_ret (v := numV (n, q, 0)) (by simp [numV, results, Tryz.results78, go_sem]) rfl ⟨rfl, by repeat (first | exact Below.refl _ _ | refine Below.alloc ?_ (by simp) _)⟩

set_option maxHeartbeats 2000000 in
theorem implGet_err (s : ByteArray) (p : Nat) (w : World) (hs : s.size ≤ 8000) (hp : (p : Int) ≤ 9223372036854775807) (hL : Laid w) (code : Int) (hne : ¬ code = 0) (hR : goN s p 10 0 0 = (0, 0, code)) :
    Calls Tryz.prog 78 #[.string s, .int .i64 p] w fun e w' => e = .returned (numV (0, 0, code)) ∧ Below w.heap.size w w' := by
  have HR := Lib.hid hR
  have HL := Lib.hid hL
  have HN := Lib.hid (readV_bad code hne)
  clear hR hL hne
  go_enter Tryz.func78, Tryz.ntmps78
  go_wp2_with fail
  refine (read_any s p _ hs hp _ HR.out).mono ?_
  rintro e w' ⟨rfl, rfl⟩
  rw [HN.out]
  go_wp2_with fail
  refine (as_hit code _ (.int .i64 0) _ ((HL.out.alloc _).alloc _) (by simp) (by simp)).mono ?_
  rintro e w' ⟨rfl, rfl⟩
  unfold asW
  go_wp2_with fail
  exact bodyPost_ret (v := numV (0, 0, code)) (by simp [numV, results, Tryz.results78, go_sem]) rfl ⟨rfl, by repeat (first | exact Below.refl _ _ | refine Below.alloc ?_ (by simp; omega) _ | refine Below.alloc ?_ (by simp) _)⟩

/-- What decoding an integer gives, at every offset. -/
def getR (s : ByteArray) (x : Int) : Int × Int × Int := if 8000 < s.size then (0, 0, 2) else if x < 0 then (0, 0, 1) else goN s x.toNat 10 0 0

set_option maxHeartbeats 400000 in
theorem specGet_long (s : ByteArray) (x : Int) (w : World) (hs : s.size ≤ maxLen) (h : 8000 < s.size) :
    Calls Tryz.prog 106 #[.string s, .int .i64 x] w fun e w' => e = .returned (numV (0, 0, 2)) ∧ Below w.heap.size w w' := by
  unfold maxLen at hs
  go_enter Tryz.func106, Tryz.ntmps106
  go_wp2_with fail
  exact bodyPost_ret (v := numV (0, 0, 2)) (by simp [numV, results, Tryz.results106, go_sem]) rfl ⟨rfl, (Below.refl _ _).alloc (Nat.le_refl _) _⟩
set_option maxHeartbeats 400000 in
theorem specGet_neg (s : ByteArray) (x : Int) (w : World) (hs : s.size ≤ 8000) (h : x < 0) :
    Calls Tryz.prog 106 #[.string s, .int .i64 x] w fun e w' => e = .returned (numV (0, 0, 1)) ∧ Below w.heap.size w w' := by
  go_enter Tryz.func106, Tryz.ntmps106
  go_wp2_with fail
  exact bodyPost_ret (v := numV (0, 0, 1)) (by simp [numV, results, Tryz.results106, go_sem]) rfl ⟨rfl, (Below.refl _ _).alloc (Nat.le_refl _) _⟩
set_option maxHeartbeats 400000 in
theorem implGet_long (s : ByteArray) (x : Int) (w : World) (hs : s.size ≤ maxLen) (h : 8000 < s.size) :
    Calls Tryz.prog 78 #[.string s, .int .i64 x] w fun e w' => e = .returned (numV (0, 0, 2)) ∧ Below w.heap.size w w' := by
  unfold maxLen at hs
  go_enter Tryz.func78, Tryz.ntmps78
  go_wp2_with fail
  exact bodyPost_ret (v := numV (0, 0, 2)) (by simp [numV, results, Tryz.results78, go_sem]) rfl ⟨rfl, (Below.refl _ _).alloc (Nat.le_refl _) _⟩
set_option maxHeartbeats 400000 in
theorem implGet_neg (s : ByteArray) (x : Int) (w : World) (hs : s.size ≤ 8000) (h : x < 0) :
    Calls Tryz.prog 78 #[.string s, .int .i64 x] w fun e w' => e = .returned (numV (0, 0, 1)) ∧ Below w.heap.size w w' := by
  go_enter Tryz.func78, Tryz.ntmps78
  go_wp2_with fail
  exact bodyPost_ret (v := numV (0, 0, 1)) (by simp [numV, results, Tryz.results78, go_sem]) rfl ⟨rfl, (Below.refl _ _).alloc (Nat.le_refl _) _⟩

theorem specGet_any (s : ByteArray) (x : Int) (w : World) (hs : s.size ≤ maxLen) (hx : x ≤ 9223372036854775807) :
    Calls Tryz.prog 106 #[.string s, .int .i64 x] w fun e w' => e = .returned (numV (getR s x)) ∧ Below w.heap.size w w' := by
  unfold getR
  by_cases h : 8000 < s.size
  · rw [if_pos h]; exact specGet_long s x w hs h
  rw [if_neg h]
  by_cases h0 : x < 0
  · rw [if_pos h0]; exact specGet_neg s x w (by omega) h0
  rw [if_neg h0]
  obtain ⟨p, rfl⟩ := Int.eq_ofNat_of_zero_le (show 0 ≤ x by omega)
  exact specGet_mid s p w (by omega) hx _ rfl

theorem implGet_any (s : ByteArray) (x : Int) (w : World) (hs : s.size ≤ maxLen) (hx : x ≤ 9223372036854775807) (hL : Laid w) :
    Calls Tryz.prog 78 #[.string s, .int .i64 x] w fun e w' => e = .returned (numV (getR s x)) ∧ Below w.heap.size w w' := by
  unfold getR
  by_cases h : 8000 < s.size
  · rw [if_pos h]; exact implGet_long s x w hs h
  rw [if_neg h]
  by_cases h0 : x < 0
  · rw [if_pos h0]; exact implGet_neg s x w (by omega) h0
  rw [if_neg h0]
  obtain ⟨p, rfl⟩ := Int.eq_ofNat_of_zero_le (show 0 ≤ x by omega)
  rw [Int.toNat_natCast]
  by_cases hc : (goN s p 10 0 0).2.2 = 0
  · have e : goN s p 10 0 0 = ((goN s p 10 0 0).1, (goN s p 10 0 0).2.1, 0) := by rw [← hc]
    rw [e]
    exact implGet_ok s p w (by omega) hx _ _ e
  · have e := goN_bad s p 10 0 0 hc
    rw [e]
    exact implGet_err s p w (by omega) hx hL _ hc e

end Go.Proofs.YthkbllkhomjmbaaGreatDoor

namespace Go.Proofs.YthkbllkhomjmbaaGreatDoor
open Go.RowKit

attribute [local go_sem ↓] Go.wp_at_zero Go.wp_at_succ

theorem goN_ok (s : ByteArray) (a : Nat) : ∀ f i u, (goN s a f i u).2.2 = 0 → 0 ≤ (goN s a f i u).2.1 ∧ (goN s a f i u).2.1 ≤ s.size
  | 0, _, _, h => by simp [goN] at h
  | f + 1, i, u, h => by
    rw [goN] at h ⊢
    by_cases h1 : s.size ≤ a + i
    · rw [if_pos h1] at h; simp at h
    rw [if_neg h1] at h ⊢
    by_cases h2 : i = 9 ∧ 1 < byt s (a + i)
    · rw [if_pos h2] at h; simp at h
    rw [if_neg h2] at h ⊢
    by_cases h3 : 128 ≤ byt s (a + i)
    · rw [if_pos h3] at h ⊢
      exact goN_ok s a f (i + 1) _ h
    rw [if_neg h3] at h ⊢
    by_cases h4 : byt s (a + i) = 0 ∧ 0 < i
    · rw [if_pos h4] at h; simp at h
    · rw [if_neg h4]; simp; omega
theorem getR_ok (s : ByteArray) (x : Int) (h : (getR s x).2.2 = 0) : s.size ≤ 8000 ∧ 0 ≤ (getR s x).2.1 ∧ (getR s x).2.1 ≤ s.size := by
  unfold getR at *
  by_cases h8 : 8000 < s.size
  · rw [if_pos h8] at h; simp at h
  rw [if_neg h8] at h ⊢
  by_cases h0 : x < 0
  · rw [if_pos h0] at h; simp at h
  rw [if_neg h0] at h ⊢
  exact ⟨by omega, goN_ok s _ _ _ _ h⟩

theorem gres_cells {K : Nat} {w w' : World} {a b c : Value} {T : TypeId} (hb : Below K (w.alloc (.cells #[a, b, c] T)) w') (hK : w.heap.size < K) :
    (w'.cell? ⟨w.heap.size, 0, none⟩ = some a ∧ w'.cell? ⟨w.heap.size, 1, none⟩ = some b ∧ w'.cell? ⟨w.heap.size, 2, none⟩ = some c) ∧
    w'.frozen? ⟨w.heap.size, 0, none⟩ = false ∧ w'.frozen? ⟨w.heap.size, 1, none⟩ = false ∧ w'.frozen? ⟨w.heap.size, 2, none⟩ = false := by
  have hf : ∀ j, w'.frozen? ⟨w.heap.size, j, none⟩ = false := fun j =>
    (hb.frozen (p := ⟨w.heap.size, j, none⟩) hK).trans (World.frozen?_alloc_at #[a, b, c] T w.heap.size j rfl)
  exact ⟨laid_cells hb hK, hf 0, hf 1, hf 2⟩

theorem kept_two (w1 : World) (b : Nat) (u v t m q z : Value) :
    ((((w1.setCell ⟨b, 0, none⟩ u).setCell ⟨b, 1, none⟩ v).setCell ⟨b, 2, none⟩ t).alloc (.cells #[m, q, z] 102)).drew.cell? ⟨w1.heap.size, 0, none⟩ = some m ∧
    ((((w1.setCell ⟨b, 0, none⟩ u).setCell ⟨b, 1, none⟩ v).setCell ⟨b, 2, none⟩ t).alloc (.cells #[m, q, z] 102)).drew.cell? ⟨w1.heap.size, 1, none⟩ = some q := by
  constructor
  · show (World.alloc _ _).cell? _ = _
    rw [World.cell?_alloc_at _ _ _ _ (by simp)]; rfl
  · show (World.alloc _ _).cell? _ = _
    rw [World.cell?_alloc_at _ _ _ _ (by simp)]; rfl

theorem text_below {w w1 : World} {o : Obj} (hb : Below (w.alloc o).heap.size (w.alloc o) w1) (a b c : Value) (o' : Obj) :
    Below w.heap.size w ((((w1.setCell ⟨w.heap.size, 0, none⟩ a).setCell ⟨w.heap.size, 1, none⟩ b).setCell ⟨w.heap.size, 2, none⟩ c).alloc o') :=
  ((((((Below.refl _ w).alloc (Nat.le_refl _) o).trans (hb.mono (Nat.le_of_lt (laid_size _ _)))).setCell (p := ⟨w.heap.size, 0, none⟩) (Nat.le_refl _) a).setCell (p := ⟨w.heap.size, 1, none⟩) (Nat.le_refl _) b).setCell (p := ⟨w.heap.size, 2, none⟩) (Nat.le_refl _) c).alloc
    (by simp; exact Nat.le_of_lt (Nat.lt_of_lt_of_le (laid_size _ _) hb.size)) o'

set_option maxHeartbeats 1000000 in
theorem specText_A (s : ByteArray) (x : Int) (w : World) (hs : s.size ≤ maxLen) (hx : x ≤ 9223372036854775807) (c : Int) (hR : getR s x = (0, 0, c))
    (hc : (c != 0) = true) :
    Calls Tryz.prog 107 #[.string s, .int .i64 x] w fun e w' => e = .returned (textV ⟨#[]⟩ 0 c) ∧ Below w.heap.size w w' := by
  have HS := Lib.hid hs
  have HR := Lib.hid hR
  clear hs hR
  have hv : numV (0, 0, c) = .agg #[.int .i64 0, .int .i64 0, .int .i64 c] := rfl
  go_enter Tryz.func107, Tryz.ntmps107
  go_wp2_with fail
  refine (specGet_any s x _ HS.out hx).mono ?_
  rintro e w1 ⟨rfl, hb1⟩
  rw [HR.out, hv]
  obtain ⟨⟨q0, q1, q2⟩, f0, f1, f2⟩ := gres_cells hb1 (laid_size _ _)
  have hz : w.heap.size < w1.heap.size := Nat.lt_of_lt_of_le (laid_size _ _) hb1.size
  clear hv
  go_wp2_with fail
  exact bodyPost_ret (v := textV ⟨#[]⟩ 0 c) (by simp [textV, results, Tryz.results107, go_sem, q0, q1, q2, hz]) rfl ⟨rfl, text_below hb1 _ _ _ _⟩

set_option maxHeartbeats 1000000 in
theorem specText_B (s : ByteArray) (x : Int) (w : World) (hs : s.size ≤ maxLen) (hx : x ≤ 9223372036854775807) (n q : Int) (hR : getR s x = (n, q, 0))
    (hn : n < 0 ∨ 8000 < n) :
    Calls Tryz.prog 107 #[.string s, .int .i64 x] w fun e w' => e = .returned (textV ⟨#[]⟩ 0 3) ∧ Below w.heap.size w w' := by
  have HS := Lib.hid hs
  have HR := Lib.hid hR
  clear hs hR
  have hv : numV (n, q, 0) = .agg #[.int .i64 n, .int .i64 q, .int .i64 0] := rfl
  rcases hn with hn | hn
  all_goals
    go_enter Tryz.func107, Tryz.ntmps107
    go_wp2_with fail
    refine (specGet_any s x _ HS.out hx).mono ?_
    rintro e w1 ⟨rfl, hb1⟩
    rw [HR.out, hv]
    obtain ⟨⟨q0, q1, q2⟩, f0, f1, f2⟩ := gres_cells hb1 (laid_size _ _)
    have hz : w.heap.size < w1.heap.size := Nat.lt_of_lt_of_le (laid_size _ _) hb1.size
    clear hv
    go_wp2_with fail
    exact bodyPost_ret (v := textV ⟨#[]⟩ 0 3) (by simp [textV, results, Tryz.results107, go_sem, q0, q1, q2, hz]) rfl ⟨rfl, text_below hb1 _ _ _ _⟩

set_option maxHeartbeats 1000000 in
theorem specText_C (s : ByteArray) (x : Int) (w : World) (hs : s.size ≤ maxLen) (hx : x ≤ 9223372036854775807) (m q : Nat) (hR : getR s x = ((m : Int), (q : Int), 0))
    (h8 : s.size ≤ 8000) (hm : m ≤ 8000) (hq : s.size < q + m) (hq2 : q ≤ s.size) :
    Calls Tryz.prog 107 #[.string s, .int .i64 x] w fun e w' => e = .returned (textV ⟨#[]⟩ 0 4) ∧ Below w.heap.size w w' := by
  have HS := Lib.hid hs
  have HR := Lib.hid hR
  clear hs hR
  have hv : numV ((m : Int), (q : Int), 0) = .agg #[.int .i64 m, .int .i64 q, .int .i64 0] := rfl
  have b0 : (s.size : Int) - (m : Int) < (q : Int) := by omega
  have b1 : (s.size : Int) < (q : Int) + (m : Int) := by omega
  go_enter Tryz.func107, Tryz.ntmps107
  go_wp2_with fail
  refine (specGet_any s x _ HS.out hx).mono ?_
  rintro e w1 ⟨rfl, hb1⟩
  rw [HR.out, hv]
  obtain ⟨⟨q0, q1, q2⟩, f0, f1, f2⟩ := gres_cells hb1 (laid_size _ _)
  have hz : w.heap.size < w1.heap.size := Nat.lt_of_lt_of_le (laid_size _ _) hb1.size
  clear hv
  go_wp2_with fail
  exact bodyPost_ret (v := textV ⟨#[]⟩ 0 4) (by simp [textV, results, Tryz.results107, go_sem, q0, q1, q2, hz]) rfl ⟨rfl, text_below hb1 _ _ _ _⟩

set_option maxHeartbeats 1000000 in
theorem specText_D (s : ByteArray) (x : Int) (w : World) (hs : s.size ≤ maxLen) (hx : x ≤ 9223372036854775807) (m q : Nat) (hR : getR s x = ((m : Int), (q : Int), 0))
    (h8 : s.size ≤ 8000) (hm : m ≤ 8000) (hq : q + m ≤ s.size) :
    Calls Tryz.prog 107 #[.string s, .int .i64 x] w fun e w' => e = .returned (textV (s.extract q (q + m)) ((q : Int) + m) 0) ∧ Below w.heap.size w w' := by
  have HS := Lib.hid hs
  have HR := Lib.hid hR
  clear hs hR
  have hv : numV ((m : Int), (q : Int), 0) = .agg #[.int .i64 m, .int .i64 q, .int .i64 0] := rfl
  have b0 : (q : Int) ≤ (s.size : Int) - (m : Int) := by omega
  have b1 : (0 : Int) ≤ (q : Int) := by omega
  have b2 : (q : Int) ≤ (q : Int) + (m : Int) := by omega
  have b3 : (q : Int) + (m : Int) ≤ (s.size : Int) := by omega
  have ht : ((q : Int) + (m : Int)).toNat = q + m := by omega
  have hw : IntKind.i64.wrap ((q : Int) + m) = (q : Int) + m := IntWalk.i64_in _ (by omega)
  go_enter Tryz.func107, Tryz.ntmps107
  go_wp2_with fail
  refine (specGet_any s x _ HS.out hx).mono ?_
  rintro e w1 ⟨rfl, hb1⟩
  rw [HR.out, hv]
  obtain ⟨⟨q0, q1, q2⟩, f0, f1, f2⟩ := gres_cells hb1 (laid_size _ _)
  have hz : w.heap.size < w1.heap.size := Nat.lt_of_lt_of_le (laid_size _ _) hb1.size
  clear hv
  go_wp2_with fail
  go_region_held3 (fun w' => w'.cell? ⟨w1.heap.size, 0, none⟩ = some (.int .i64 m) ∧ w'.cell? ⟨w1.heap.size, 1, none⟩ = some (.int .i64 q)) (first | (with_reducible exact kept_two _ _ _ _ _ _ _ _) | go_keep) (fail)
  go_wp2_with fail
  exact bodyPost_ret (v := textV (s.extract q (q + m)) ((q : Int) + m) 0) (by simp [textV, results, Tryz.results107, go_sem, q0, q1, q2, hz]) rfl ⟨rfl, (text_below hb1 _ _ _ _).drew⟩

set_option maxHeartbeats 1000000 in
theorem implText_A (s : ByteArray) (x : Int) (w : World) (hs : s.size ≤ maxLen) (hx : x ≤ 9223372036854775807) (hL : Laid w) (c : Int) (hR : getR s x = (0, 0, c))
    (hc : (c != 0) = true) :
    Calls Tryz.prog 122 #[.string s, .int .i64 x] w fun e w' => e = .returned (textV ⟨#[]⟩ 0 c) ∧ Below w.heap.size w w' := by
  have HS := Lib.hid hs
  have HR := Lib.hid hR
  have HL := Lib.hid (hL.alloc (.cells #[.string ⟨#[]⟩, .int .i64 0, .int .i64 0] 74))
  clear hL
  clear hs hR
  have hv : numV (0, 0, c) = .agg #[.int .i64 0, .int .i64 0, .int .i64 c] := rfl
  go_enter Tryz.func122, Tryz.ntmps122
  go_wp2_with fail
  refine (implGet_any s x _ HS.out hx HL.out).mono ?_
  rintro e w1 ⟨rfl, hb1⟩
  rw [HR.out, hv]
  obtain ⟨⟨q0, q1, q2⟩, f0, f1, f2⟩ := gres_cells hb1 (laid_size _ _)
  have hz : w.heap.size < w1.heap.size := Nat.lt_of_lt_of_le (laid_size _ _) hb1.size
  clear hv
  go_wp2_with fail
  exact bodyPost_ret (v := textV ⟨#[]⟩ 0 c) (by simp [textV, results, Tryz.results122, go_sem, q0, q1, q2, hz]) rfl ⟨rfl, text_below hb1 _ _ _ _⟩

set_option maxHeartbeats 1000000 in
theorem implText_B (s : ByteArray) (x : Int) (w : World) (hs : s.size ≤ maxLen) (hx : x ≤ 9223372036854775807) (hL : Laid w) (n q : Int) (hR : getR s x = (n, q, 0))
    (hn : n < 0 ∨ 8000 < n) :
    Calls Tryz.prog 122 #[.string s, .int .i64 x] w fun e w' => e = .returned (textV ⟨#[]⟩ 0 3) ∧ Below w.heap.size w w' := by
  have HS := Lib.hid hs
  have HR := Lib.hid hR
  have HL := Lib.hid (hL.alloc (.cells #[.string ⟨#[]⟩, .int .i64 0, .int .i64 0] 74))
  clear hL
  clear hs hR
  have hv : numV (n, q, 0) = .agg #[.int .i64 n, .int .i64 q, .int .i64 0] := rfl
  rcases hn with hn | hn
  all_goals
    go_enter Tryz.func122, Tryz.ntmps122
    go_wp2_with fail
    refine (implGet_any s x _ HS.out hx HL.out).mono ?_
    rintro e w1 ⟨rfl, hb1⟩
    rw [HR.out, hv]
    obtain ⟨⟨q0, q1, q2⟩, f0, f1, f2⟩ := gres_cells hb1 (laid_size _ _)
    have hz : w.heap.size < w1.heap.size := Nat.lt_of_lt_of_le (laid_size _ _) hb1.size
    clear hv
    go_wp2_with fail
    exact bodyPost_ret (v := textV ⟨#[]⟩ 0 3) (by simp [textV, results, Tryz.results122, go_sem, q0, q1, q2, hz]) rfl ⟨rfl, text_below hb1 _ _ _ _⟩

set_option maxHeartbeats 1000000 in
theorem implText_C (s : ByteArray) (x : Int) (w : World) (hs : s.size ≤ maxLen) (hx : x ≤ 9223372036854775807) (hL : Laid w) (m q : Nat) (hR : getR s x = ((m : Int), (q : Int), 0))
    (h8 : s.size ≤ 8000) (hm : m ≤ 8000) (hq : s.size < q + m) (hq2 : q ≤ s.size) :
    Calls Tryz.prog 122 #[.string s, .int .i64 x] w fun e w' => e = .returned (textV ⟨#[]⟩ 0 4) ∧ Below w.heap.size w w' := by
  have HS := Lib.hid hs
  have HR := Lib.hid hR
  have HL := Lib.hid (hL.alloc (.cells #[.string ⟨#[]⟩, .int .i64 0, .int .i64 0] 74))
  clear hL
  clear hs hR
  have hv : numV ((m : Int), (q : Int), 0) = .agg #[.int .i64 m, .int .i64 q, .int .i64 0] := rfl
  have b0 : (s.size : Int) - (m : Int) < (q : Int) := by omega
  have b1 : (s.size : Int) < (q : Int) + (m : Int) := by omega
  go_enter Tryz.func122, Tryz.ntmps122
  go_wp2_with fail
  refine (implGet_any s x _ HS.out hx HL.out).mono ?_
  rintro e w1 ⟨rfl, hb1⟩
  rw [HR.out, hv]
  obtain ⟨⟨q0, q1, q2⟩, f0, f1, f2⟩ := gres_cells hb1 (laid_size _ _)
  have hz : w.heap.size < w1.heap.size := Nat.lt_of_lt_of_le (laid_size _ _) hb1.size
  clear hv
  go_wp2_with fail
  exact bodyPost_ret (v := textV ⟨#[]⟩ 0 4) (by simp [textV, results, Tryz.results122, go_sem, q0, q1, q2, hz]) rfl ⟨rfl, text_below hb1 _ _ _ _⟩

set_option maxHeartbeats 1000000 in
theorem implText_D (s : ByteArray) (x : Int) (w : World) (hs : s.size ≤ maxLen) (hx : x ≤ 9223372036854775807) (hL : Laid w) (m q : Nat) (hR : getR s x = ((m : Int), (q : Int), 0))
    (h8 : s.size ≤ 8000) (hm : m ≤ 8000) (hq : q + m ≤ s.size) :
    Calls Tryz.prog 122 #[.string s, .int .i64 x] w fun e w' => e = .returned (textV (s.extract q (q + m)) ((q : Int) + m) 0) ∧ Below w.heap.size w w' := by
  have HS := Lib.hid hs
  have HR := Lib.hid hR
  have HL := Lib.hid (hL.alloc (.cells #[.string ⟨#[]⟩, .int .i64 0, .int .i64 0] 74))
  clear hL
  clear hs hR
  have hv : numV ((m : Int), (q : Int), 0) = .agg #[.int .i64 m, .int .i64 q, .int .i64 0] := rfl
  have b0 : (q : Int) ≤ (s.size : Int) - (m : Int) := by omega
  have b1 : (0 : Int) ≤ (q : Int) := by omega
  have b2 : (q : Int) ≤ (q : Int) + (m : Int) := by omega
  have b3 : (q : Int) + (m : Int) ≤ (s.size : Int) := by omega
  have ht : ((q : Int) + (m : Int)).toNat = q + m := by omega
  have hw : IntKind.i64.wrap ((q : Int) + m) = (q : Int) + m := IntWalk.i64_in _ (by omega)
  go_enter Tryz.func122, Tryz.ntmps122
  go_wp2_with fail
  refine (implGet_any s x _ HS.out hx HL.out).mono ?_
  rintro e w1 ⟨rfl, hb1⟩
  rw [HR.out, hv]
  obtain ⟨⟨q0, q1, q2⟩, f0, f1, f2⟩ := gres_cells hb1 (laid_size _ _)
  have hz : w.heap.size < w1.heap.size := Nat.lt_of_lt_of_le (laid_size _ _) hb1.size
  clear hv
  go_wp2_with fail
  exact bodyPost_ret (v := textV (s.extract q (q + m)) ((q : Int) + m) 0) (by simp [textV, results, Tryz.results122, go_sem, q0, q1, q2, hz]) rfl ⟨rfl, text_below hb1 _ _ _ _⟩

end Go.Proofs.YthkbllkhomjmbaaGreatDoor

namespace Go.Proofs.YthkbllkhomjmbaaGreatDoor
open Go.RowKit

theorem getR_bad (s : ByteArray) (x : Int) (h : ¬ (getR s x).2.2 = 0) : getR s x = (0, 0, (getR s x).2.2) := by
  unfold getR at *
  by_cases h8 : 8000 < s.size
  · rw [if_pos h8]
  rw [if_neg h8] at h ⊢
  by_cases h0 : x < 0
  · rw [if_pos h0]
  rw [if_neg h0] at h ⊢
  exact goN_bad s _ _ _ _ h

end Go.Proofs.YthkbllkhomjmbaaGreatDoor
