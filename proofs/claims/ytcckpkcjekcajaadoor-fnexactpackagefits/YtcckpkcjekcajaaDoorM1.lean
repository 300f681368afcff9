/- Ground texts of this claim, in one. -/
import Derived.Laws.CopyOwn
import Derived.Lib.BufferWrite
import Derived.Lib.Zigzag
import Derived.Test.YtcckpkcjekcajaaDoorBIRight
import Derived.Test.YtcckpkcjekcajaaDoorBSRight
import Derived.Test.YtcckpkcjekcajaaDoorBase
import Derived.Test.YtcckpkcjekcajaaDoorLStr
namespace Go.Proofs.YtcckpkcjekcajaaDoor
open Go

theorem xor_comm64 (a b : Int) : bits BinOp.xor IntKind.u64 a b = bits BinOp.xor IntKind.u64 b a := by
  simp only [bits, BitVec.xor_comm]

theorem zz_pos (n : Int) (h0 : 0 ≤ n) (h1 : n ≤ 9223372036854775807) : bits BinOp.xor IntKind.u64 (n * 2) (n / 9223372036854775808) = (Lib.zigzag n : Int) := by
  have e : n / 9223372036854775808 = ((0 : Nat) : Int) := by omega
  have e2 : n * 2 = (((n * 2).toNat : Nat) : Int) := by omega
  rw [e, e2, bits_xor_u64_nat _ _ (by omega) (by omega), Nat.xor_zero, Lib.zigzag_nonneg h0]
  omega

theorem zz_neg (n : Int) (h0 : n < 0) (h1 : -9223372036854775808 ≤ n) :
    bits BinOp.xor IntKind.u64 (IntKind.u64.wrap (IntKind.u64.wrap n * 2)) (IntKind.u64.wrap (n / 9223372036854775808)) = (Lib.zigzag n : Int) := by
  have e : n / 9223372036854775808 = -1 := by omega
  rw [e, xor_comm64, show IntKind.u64.wrap (-1) = IntKind.u64.max by decide, Lib.zigzag_neg h1 h0]

theorem zz_fold (n : Int) (h0 : 0 ≤ n) : 2 * n = (Lib.zigzag n : Int) := by rw [Lib.zigzag_nonneg h0]; omega
theorem zz_foldn (n : Int) (h0 : n < 0) : 2 * -(n + 1) + 1 = (Lib.zigzag n : Int) := by
  unfold Lib.zigzag; rw [if_neg (by omega)]; omega

/-- 2 ^ 64, behind a name. -/
def lim64 : Nat := 18446744073709551616

def moreB (x : Nat) : UInt8 := (x % 128 + 128).toUInt8
def lastB (x : Nat) : UInt8 := x.toUInt8
theorem var_more (l : List UInt8) (x : Nat) (h : 128 ≤ x) : (l ++ [moreB x]) ++ Lib.uvarint (x / 128) = l ++ Lib.uvarint x := by
  rw [Lib.uvarint_big h]; simp [moreB]
theorem var_last (l : List UInt8) (x : Nat) (h : x < 128) : l ++ [lastB x] = l ++ Lib.uvarint x := by
  rw [Lib.uvarint_small h]; rfl
theorem var_len (l : List UInt8) (x x0 : Nat) (h0 : x0 < lim64) (h : l ++ Lib.uvarint x = Lib.uvarint x0) : l.length + 1 ≤ 10 := by
  have a := Lib.uvarint_length64 (x := x0) h0
  have b := Lib.uvarint_pos x
  have c := congrArg List.length h
  simp at c; omega
theorem zz_lt (n : Int) (h0 : -9223372036854775808 ≤ n) (h1 : n ≤ 9223372036854775807) : Lib.zigzag n < lim64 := Lib.zigzag_lt h0 h1
theorem div_lt (x : Nat) (h : x < lim64) : x / 128 < lim64 := Nat.lt_of_le_of_lt (Nat.div_le_self _ _) h
theorem byte_more (x : Nat) : (x : Int) % 128 + 128 = ((moreB x).toNat : Int) := by
  unfold moreB; simp; omega
theorem byte_more2 (x : Nat) : bits BinOp.or IntKind.u8 ((x : Int) % 256) 128 = ((moreB x).toNat : Int) := by
  rw [Lib.u8_or128_any _ (by omega) (by omega), ← byte_more]; omega
theorem byte_last (x : Nat) (h : x < 128) : (x : Int) = ((lastB x).toNat : Int) := by
  unfold lastB; simp; omega
theorem wrap_div (x : Nat) (h : x < lim64) : IntKind.u64.wrap ((x : Int) / 128) = ((x / 128 : Nat) : Int) := by
  unfold lim64 at h; rw [IntKind.wrap_u64]; omega
end Go.Proofs.YtcckpkcjekcajaaDoor

namespace Go.Proofs.YtcckpkcjekcajaaDoor
open Go.RowKit

def SpecRel (w : World) (x0 : Nat) (u v : Value) (wr : World) : Prop :=
  ∃ (x : Nat) (l : List UInt8), x < lim64 ∧ u = .int .u64 x ∧ wr.ownsRow w.heap.size 5 1 v l.length (l.map B) ∧ Below w.heap.size w wr ∧ l ++ Lib.uvarint x = Lib.uvarint x0

theorem take_set_more (xs : List Value) (l : List UInt8) (b : UInt8) (v : Value) (h : l.length < xs.length) (hx : xs.take l.length = l.map B) (hv : v = B b) :
    (xs.set l.length v).take (l ++ [b]).length = (l ++ [b]).map B := by
  subst hv
  rw [List.length_append, List.length_singleton, List.take_succ_eq_append_getElem (by simpa using h), List.take_set_of_le (Nat.le_refl _), hx]
  simp

/-- The bytes of an integer, behind a name. -/
def putS (n : Int) : ByteArray := ⟨(Lib.uvarint (Lib.zigzag n)).toArray⟩
theorem putS_size (n : Int) (h0 : -9223372036854775808 ≤ n) (h1 : n ≤ 9223372036854775807) : (putS n).size ≤ 10 := by
  have := Lib.uvarint_length64 (Lib.zigzag_lt h0 h1)
  simpa [putS, ByteArray.size] using this
end Go.Proofs.YtcckpkcjekcajaaDoor

namespace Go.Proofs.YtcckpkcjekcajaaDoor
open Go.RowKit

def cat : List ByteArray → ByteArray
  | [] => ⟨#[]⟩
  | x :: l => x ++ cat l
theorem cat_cons (x : ByteArray) (l : List ByteArray) : cat (x :: l) = x ++ cat l := rfl
theorem cat_one (x : ByteArray) : cat [x] = x := by
  apply ByteArray.ext; simp [cat]
theorem cat_append (a b : List ByteArray) : cat (a ++ b) = cat a ++ cat b := by
  induction a with
  | nil => apply ByteArray.ext; simp [cat]
  | cons x l ih => rw [List.cons_append, cat_cons, cat_cons, ih, ByteArray.append_assoc]
theorem cat_succ (l : List ByteArray) (k : Nat) (h : k < l.length) : cat (l.take (k + 1)) = cat (l.take k) ++ l[k] := by
  rw [List.take_succ_eq_append_getElem h, cat_append, cat_one]
theorem cat_size_take (l : List ByteArray) (k : Nat) : (cat (l.take k)).size ≤ (cat l).size := by
  have h : cat l = cat (l.take k) ++ cat (l.drop k) := by rw [← cat_append, List.take_append_drop]
  rw [h, ByteArray.size_append]; omega
theorem cat_size_succ (l : List ByteArray) (k : Nat) (h : k < l.length) : (cat (l.take (k + 1))).size = (cat (l.take k)).size + l[k].size := by
  rw [cat_succ l k h, ByteArray.size_append]
theorem cat_two (a b : ByteArray) : cat [a, b] = a ++ b := by rw [cat_cons, cat_one]
end Go.Proofs.YtcckpkcjekcajaaDoor

namespace Go.Proofs.YtcckpkcjekcajaaDoor
open Go.RowKit

/-- copy of a string into a row that the call owns; the place is given by the prover. -/
theorem wpList_copy_str {P : Program} {w : World} {ops : Array Oper} {rest : List Oper} {o : Oper} {a : Act} {Q : Exit → Act → World → Prop} (hgd : o.guard = none) (d s : Operand) (dT sT : TypeId)
    (ho : o.op = .call { callee := .builtin .copy, args := #[d, s], argTypes := #[dT, sT] }) (elem : TypeId) (hu : P.underlying dT = some (.slice elem)) (hsz : (P.info? elem).map (·.size) = some 1)
    (dp : Option Addr) (dLen dCap : Nat) (str : ByteArray) (hd : a.eval d = .slice dp dLen dCap) (hs : a.eval s = .string str)
    (g off : Nat) (cur : List Value) (t : TypeId) (hg : w.heap[g]? = some (.cells cur.toArray t (0, 0))) (hle : str.size ≤ dLen)
    (hpos : 0 < str.size → dp = some ⟨g, off, none⟩) (hfit : off + str.size ≤ cur.length) (B : Nat) (w0 : World) (hb : Below B w0 w) (hBg : B ≤ g)
    (h : ∀ w', Hid (w'.heap[g]? = some (.cells (splice cur off (Lib.byteCells str.data.toList)).toArray t (0, 0))) → Below B w0 w' → wpList P ops Q rest (a.put o.dst (goInt str.size)) w') :
    wpList P ops Q (o :: rest) a w := by
  have hlen : (Lib.byteCells str.data.toList).length = str.size := by rw [Lib.byteCells_length, ← Lib.size_eq]
  refine wpList_plain hgd fun K hK => ?_
  by_cases h0 : str.size = 0
  · have hrun := Lib.run_copy_empty_string (P := P) w dT sT o.type elem dp dLen dCap str hu (by simp [hsz]) h0
    have hnil : Lib.byteCells str.data.toList = [] := List.eq_nil_of_length_eq_zero (by rw [hlen, h0])
    unfold Oper.wp
    simp [execOp, ho, resolve, invoke, builtin, hd, hs, hrun, Result.andThen]
    refine hK _ _ ?_
    have := h w (show _ = _ by rw [hnil]; simpa [splice] using hg) hb
    rw [h0] at this
    exact this
  · obtain rfl := hpos (by omega)
    have hrun := Lib.run_copy_row_string (P := P) w dT sT o.type elem g off dLen dCap str cur.toArray t hu hsz hg hle (by simpa using hfit)
    unfold Oper.wp
    simp [execOp, ho, resolve, invoke, builtin, hd, hs, hrun, Result.andThen]
    refine hK _ _ (h _ (show _ = _ by simpa [splice, hlen] using setRow_heap w g _ _ t _ hg) (below_setRow hb hBg _))

theorem Tryd.size5 : (Tryd.prog.info? 5).map (·.size) = some 1 := by kernel_rfl

theorem cells_B (s : ByteArray) : Lib.byteCells s.data.toList = s.data.toList.map B := rfl
theorem str_app (a b : ByteArray) : (⟨(a.data.toList ++ b.data.toList).toArray⟩ : ByteArray) = a ++ b := by
  apply ByteArray.ext; simp
theorem splice_two (Z X Y : List Value) (hZ : Z.length = X.length + Y.length) : splice (splice Z 0 X) X.length Y = X ++ Y := by
  unfold splice; simp; omega

theorem splice_at (Z Y : List Value) (k : Nat) (X : List Value) (hX : Z.take k = X) (hk : X.length = k) : (splice Z k Y).take (k + Y.length) = X ++ Y := by
  unfold splice
  rw [hX, ← hk, ← List.append_assoc, List.take_append_of_le_length (by simp), List.take_of_length_le (by simp)]
def JoinRel1 (l : List ByteArray) (x i : Value) : Prop := ∃ k : Nat, k ≤ l.length ∧ i = .int .i64 k ∧ x = .int .i64 ((cat (l.take k)).size : Int)
def JoinRel2 (l : List ByteArray) (w : World) (x i : Value) (wr : World) : Prop :=
  ∃ (k : Nat) (Z : List Value), k ≤ l.length ∧ i = .int .i64 k ∧ x = .int .i64 ((cat (l.take k)).size : Int) ∧ wr.heap[w.heap.size]? = some (.cells Z.toArray 5 (0, 0)) ∧ Z.length = (cat l).size ∧ Z.take (cat (l.take k)).size = (cat (l.take k)).data.toList.map B ∧ Below w.heap.size w wr
theorem cat_list (x : ByteArray) : x.data.toList.length = x.size := (Lib.size_eq x).symm
theorem cat_next (l : List ByteArray) (k : Nat) (h : k < l.length) : (cat (l.take (k + 1))).data.toList.map B = (cat (l.take k)).data.toList.map B ++ Lib.byteCells l[k].data.toList := by
  rw [cat_succ l k h, cells_B]; simp
theorem rd_new (w : World) (T : TypeId) (l : List ByteArray) (c : Nat) : Rd (w.alloc (.cells (strs l).toArray T)) (.slice (some ⟨w.heap.size, 0, none⟩) l.length c) l.length 1 (strs l) := by
  refine ⟨by rw [strs_length]; omega, _, _, rfl, fun h0 => ⟨_, _, rfl, by simp, fun j hj => ?_⟩⟩
  rw [Nat.zero_add, cell_of_row _ w.heap.size j _ T (0, 0) (heap_alloc_new w _)]
  simp
theorem below_new (w : World) (o : Obj) {w' : World} (h : Below (w.alloc o).heap.size (w.alloc o) w') : Below w.heap.size w w' :=
  ((Below.refl _ w).alloc (Nat.le_refl _) o).trans (h.mono (by simp))
end Go.Proofs.YtcckpkcjekcajaaDoor

namespace Go.Proofs.YtcckpkcjekcajaaDoor
open Go.RowKit

end Go.Proofs.YtcckpkcjekcajaaDoor

namespace Go.Proofs.YtcckpkcjekcajaaDoor
open Go.RowKit

def stepS (k t f : Int) (d : ByteArray) : ByteArray := putS k ++ putS t ++ putS f ++ (putS d.size ++ d)
def stepBs (k t f : Int) (d : ByteArray) : ByteArray := if stepB 8 k t f d then stepS k t f d else ⟨#[]⟩
theorem ok_bounds {k t f : Int} {d : ByteArray} (h : stepB 8 k t f d = true) : 1 ≤ k ∧ k ≤ 5 ∧ 0 ≤ t ∧ t ≤ 7 ∧ 0 ≤ f ∧ f ≤ 1000000 ∧ d.size ≤ 8 := by
  obtain ⟨-, h⟩ := (stepB_iff ..).1 h
  rcases h with ⟨rfl, h1, rfl, h2⟩ | ⟨rfl, h1, rfl, h2⟩ | ⟨rfl, h1, h3, h2⟩ | ⟨rfl, h1, h3, h2⟩ | ⟨rfl, rfl, h3, h2⟩
  · have := (inB_iff _ _).1 h1; omega
  · have := (inB_iff _ _).1 h1; omega
  · have := (inB_iff _ _).1 h1; have := (inB_iff _ _).1 h3; omega
  · have := (inB_iff _ _).1 h1; have := (inB_iff _ _).1 h3; omega
  · have := (isT_iff _).1 h3; omega
theorem keepQ {W W' : World} {n : Nat} {T : TypeId} {a b c d : Value} (X : Bx W n T #[a, b, c, d]) (h : Below W.heap.size W W') :
    W'.cell? ⟨n, 0, none⟩ = some a ∧ W'.cell? ⟨n, 1, none⟩ = some b ∧ W'.cell? ⟨n, 2, none⟩ = some c ∧ W'.cell? ⟨n, 3, none⟩ = some d ∧ Below W.heap.size W W' :=
  have h' := X.next h
  ⟨h'.q0, h'.q1, h'.q2, h'.q3, h⟩
theorem below_more {W a b : World} (h : Below W.heap.size W a) (k : Below a.heap.size a b) : Below W.heap.size W b := h.trans (k.mono h.size)


end Go.Proofs.YtcckpkcjekcajaaDoor
