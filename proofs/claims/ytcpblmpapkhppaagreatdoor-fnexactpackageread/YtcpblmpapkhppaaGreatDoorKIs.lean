/- errors.Is, over the program's errors, by contracts. -/
import Derived.Test.YtcpblmpapkhppaaGreatDoorM1
import Derived.LaidEql
import Derived.Stop.Asserts
import Derived.RowKitTokens
namespace Go.Proofs.YtcpblmpapkhppaaGreatDoor
open Go.RowKit Go.Extern.Stop Go.Stop Go.Extern

theorem isTypeOf (v : Value) (w : World) : (ReflectliteType.typeOf #[.iface 221 v]).run Tryz.prog w = .ok (.iface 174 (.agg #[.pointer (some ⟨11, 221, none⟩)])) w := by kernel_rfl
def cmpM : Array Value → Sem Value := ReflectliteType.method fun t => do Rtype.noPackHeld "Comparable" t; pure (.bool (← typeInfo t).comparable)
theorem isComparable (w : World) : (cmpM #[.agg #[.pointer (some ⟨11, 221, none⟩)]]).run Tryz.prog w = .ok (.bool true) w := by kernel_rfl
theorem isMethodComparable (v : Value) (w : World) : (Go.method 353 174 v "Comparable").run Tryz.prog w = .ok (185, v) w := by kernel_rfl
theorem isComp : (Tryz.prog.info? 221).map (·.comparable) = some true := by kernel_rfl
theorem isSize : (Tryz.prog.info? 241).map (·.size) = some 1 := by kernel_rfl
theorem noIsE (v : Value) (xT : TypeId) (w : World) : (Instr.typeAssert (.iface 221 v) xT 176 true).run Tryz.prog w = .ok (.tuple #[.nilIface, .bool false]) w := run_typeAssert_lacksB Tryz.underlying176 (by kernel_rfl) (by kernel_rfl) v xT w
theorem noUnwrapE (v : Value) (xT : TypeId) (w : World) : (Instr.typeAssert (.iface 221 v) xT 179 true).run Tryz.prog w = .ok (.tuple #[.nilIface, .bool false]) w := run_typeAssert_lacksB Tryz.underlying179 (by kernel_rfl) (by kernel_rfl) v xT w
theorem noUnwrapsE (v : Value) (xT : TypeId) (w : World) : (Instr.typeAssert (.iface 221 v) xT 181 true).run Tryz.prog w = .ok (.tuple #[.nilIface, .bool false]) w := run_typeAssert_lacksB Tryz.underlying181 (by kernel_rfl) (by kernel_rfl) v xT w
theorem noIsL (v : Value) (xT : TypeId) (w : World) : (Instr.typeAssert (.iface 127 v) xT 176 true).run Tryz.prog w = .ok (.tuple #[.nilIface, .bool false]) w := run_typeAssert_lacksB Tryz.underlying176 (by kernel_rfl) (by kernel_rfl) v xT w
theorem hasUnwrapL (v : Value) (xT : TypeId) (w : World) : (Instr.typeAssert (.iface 127 v) xT 179 true).run Tryz.prog w = .ok (.tuple #[.iface 127 v, .bool true]) w := run_typeAssert_hasB Tryz.underlying179 (by kernel_rfl) v xT w
theorem noIsM (v : Value) (xT : TypeId) (w : World) : (Instr.typeAssert (.iface 130 v) xT 176 true).run Tryz.prog w = .ok (.tuple #[.nilIface, .bool false]) w := run_typeAssert_lacksB Tryz.underlying176 (by kernel_rfl) (by kernel_rfl) v xT w
theorem noUnwrapM (v : Value) (xT : TypeId) (w : World) : (Instr.typeAssert (.iface 130 v) xT 179 true).run Tryz.prog w = .ok (.tuple #[.nilIface, .bool false]) w := run_typeAssert_lacksB Tryz.underlying179 (by kernel_rfl) (by kernel_rfl) v xT w
theorem noUnwrapsM (v : Value) (xT : TypeId) (w : World) : (Instr.typeAssert (.iface 130 v) xT 181 true).run Tryz.prog w = .ok (.tuple #[.nilIface, .bool false]) w := run_typeAssert_lacksB Tryz.underlying181 (by kernel_rfl) (by kernel_rfl) v xT w
theorem methodUnwrap (v : Value) (w : World) : (Go.method 353 127 v "Unwrap").run Tryz.prog w = .ok (177, v) w := by kernel_rfl
/-- An error that is a sentinel; one wrapped in the name of a layer; one that carries a code. -/
def eP (x : Addr) : Value := .iface 221 (.pointer (some x))
def eL (s : ByteArray) (e : Value) : Value := .iface 127 (.agg #[.string s, e])
def eM (c : Int) : Value := .iface 130 (.agg #[.int .i64 c])
theorem unwrap_any (s : ByteArray) (t : TypeId) (v : Value) (w : World) :
    Calls Tryz.prog 177 #[.agg #[.string s, .iface t v]] w fun e w' => e = .returned (.iface t v) ∧ Below w.heap.size w w' := by
  go_enter Tryz.func177, Tryz.ntmps177
  go_wp2
  go_ret
  exact ⟨rfl, (Below.refl _ _).alloc (Nat.le_refl _) _⟩

set_option maxHeartbeats 4000000 in
theorem is_Ps (x : Addr) (w : World) :
    Calls Tryz.prog 76 #[eP x, eP x] w fun e w' => e = .returned (.bool true) ∧ Below w.heap.size w w' := by
  obtain ⟨i, hi, hcmp⟩ := Option.map_eq_some_iff.1 isComp
  obtain ⟨j, hj, hjs⟩ := Option.map_eq_some_iff.1 isSize
  have h8 := @run_callFunc_extern Tryz.prog 111 _ Extern.ReflectliteType.typeOf Tryz.func111 (by kernel_rfl) (by kernel_rfl) (by kernel_rfl) (by kernel_rfl)
  have h32 := @run_callFunc_extern Tryz.prog 185 _ cmpM Tryz.func185 (by kernel_rfl) (by kernel_rfl) (by kernel_rfl) (by kernel_rfl)
  have tT := isTypeOf
  have cT := isComparable
  have mR := isMethodComparable
  have nE := noIsE
  have uE := noUnwrapE
  have vE := noUnwrapsE
  have heq := fun w => run_eql_iface_ptr_same (P := Tryz.prog) w x Tryz.underlying64 Tryz.underlying221 hi hcmp hj
  unfold eP
  go_enter Tryz.func76, Tryz.ntmps76
  go_wp2
  refine wp_loop_rounds 1 ?_
  rw [rounds_succ]
  go_wp2_with fail
  go_ret
  exact ⟨rfl, Below.refl _ _⟩

set_option maxHeartbeats 4000000 in
theorem is_Po (x : Addr) (b : Addr) (w : World) (hne : x ≠ b) (cx cb : Array Value) (tx tb : TypeId) (hx : w.heap[x.block]? = some (.cells cx tx (0, 0))) (hb : w.heap[b.block]? = some (.cells cb tb (0, 0))) :
    Calls Tryz.prog 76 #[eP x, eP b] w fun e w' => e = .returned (.bool false) ∧ Below w.heap.size w w' := by
  obtain ⟨i, hi, hcmp⟩ := Option.map_eq_some_iff.1 isComp
  obtain ⟨j, hj, hjs⟩ := Option.map_eq_some_iff.1 isSize
  have h8 := @run_callFunc_extern Tryz.prog 111 _ Extern.ReflectliteType.typeOf Tryz.func111 (by kernel_rfl) (by kernel_rfl) (by kernel_rfl) (by kernel_rfl)
  have h32 := @run_callFunc_extern Tryz.prog 185 _ cmpM Tryz.func185 (by kernel_rfl) (by kernel_rfl) (by kernel_rfl) (by kernel_rfl)
  have tT := isTypeOf
  have cT := isComparable
  have mR := isMethodComparable
  have nE := noIsE
  have uE := noUnwrapE
  have vE := noUnwrapsE
  have hlx : x.block < w.heap.size := (Array.getElem?_eq_some_iff.1 hx).1
  have hlb : b.block < w.heap.size := (Array.getElem?_eq_some_iff.1 hb).1
  have HX := Lib.hid hx
  have HBB := Lib.hid hb
  clear hx hb
  have heq := run_eql_iface_ptr_other (P := Tryz.prog) w Tryz.underlying64 Tryz.underlying221 hi hcmp hj (by rw [hjs]; decide) hne HX.out HBB.out
  unfold eP
  go_enter Tryz.func76, Tryz.ntmps76
  go_wp2
  refine wp_loop_rounds 1 ?_
  rw [rounds_succ]
  go_wp2_with fail
  go_ret
  exact ⟨rfl, Below.refl _ _⟩

set_option maxHeartbeats 4000000 in
theorem is_LPs (x : Addr) (s0 : ByteArray) (w : World) :
    Calls Tryz.prog 76 #[eL s0 (eP x), eP x] w fun e w' => e = .returned (.bool true) ∧ Below w.heap.size w w' := by
  obtain ⟨i, hi, hcmp⟩ := Option.map_eq_some_iff.1 isComp
  obtain ⟨j, hj, hjs⟩ := Option.map_eq_some_iff.1 isSize
  have h8 := @run_callFunc_extern Tryz.prog 111 _ Extern.ReflectliteType.typeOf Tryz.func111 (by kernel_rfl) (by kernel_rfl) (by kernel_rfl) (by kernel_rfl)
  have h32 := @run_callFunc_extern Tryz.prog 185 _ cmpM Tryz.func185 (by kernel_rfl) (by kernel_rfl) (by kernel_rfl) (by kernel_rfl)
  have tT := isTypeOf
  have cT := isComparable
  have mR := isMethodComparable
  have nE := noIsE
  have uE := noUnwrapE
  have vE := noUnwrapsE
  have nW := noIsL
  have uW := hasUnwrapL
  have mU := methodUnwrap
  have hty0 := run_eql_iface_types (P := Tryz.prog) 127 221 (.agg #[.string s0, .iface 221 (.pointer (some x))]) (.pointer (some x)) Tryz.underlying64 (by decide)
  have heq := fun w => run_eql_iface_ptr_same (P := Tryz.prog) w x Tryz.underlying64 Tryz.underlying221 hi hcmp hj
  unfold eP
  unfold eL
  go_enter Tryz.func76, Tryz.ntmps76
  go_wp2
  refine wp_loop_rounds 2 ?_
  rw [rounds_succ]
  go_wp2_with fail
  refine (unwrap_any _ _ _ _).mono ?_
  rintro e w1 ⟨rfl, hb1⟩
  have HB1 := Lib.hid hb1
  clear hb1
  go_wp2_with fail
  rw [rounds_succ]
  go_wp2_with fail
  go_ret
  exact ⟨rfl, HB1.out⟩

set_option maxHeartbeats 4000000 in
theorem is_LPo (x : Addr) (s0 : ByteArray) (b : Addr) (w : World) (hne : x ≠ b) (cx cb : Array Value) (tx tb : TypeId) (hx : w.heap[x.block]? = some (.cells cx tx (0, 0))) (hb : w.heap[b.block]? = some (.cells cb tb (0, 0))) :
    Calls Tryz.prog 76 #[eL s0 (eP x), eP b] w fun e w' => e = .returned (.bool false) ∧ Below w.heap.size w w' := by
  obtain ⟨i, hi, hcmp⟩ := Option.map_eq_some_iff.1 isComp
  obtain ⟨j, hj, hjs⟩ := Option.map_eq_some_iff.1 isSize
  have h8 := @run_callFunc_extern Tryz.prog 111 _ Extern.ReflectliteType.typeOf Tryz.func111 (by kernel_rfl) (by kernel_rfl) (by kernel_rfl) (by kernel_rfl)
  have h32 := @run_callFunc_extern Tryz.prog 185 _ cmpM Tryz.func185 (by kernel_rfl) (by kernel_rfl) (by kernel_rfl) (by kernel_rfl)
  have tT := isTypeOf
  have cT := isComparable
  have mR := isMethodComparable
  have nE := noIsE
  have uE := noUnwrapE
  have vE := noUnwrapsE
  have nW := noIsL
  have uW := hasUnwrapL
  have mU := methodUnwrap
  have hty0 := run_eql_iface_types (P := Tryz.prog) 127 221 (.agg #[.string s0, .iface 221 (.pointer (some x))]) (.pointer (some b)) Tryz.underlying64 (by decide)
  have hlx : x.block < w.heap.size := (Array.getElem?_eq_some_iff.1 hx).1
  have hlb : b.block < w.heap.size := (Array.getElem?_eq_some_iff.1 hb).1
  have HX := Lib.hid hx
  have HBB := Lib.hid hb
  clear hx hb
  unfold eP
  unfold eL
  go_enter Tryz.func76, Tryz.ntmps76
  go_wp2
  refine wp_loop_rounds 2 ?_
  rw [rounds_succ]
  go_wp2_with fail
  refine (unwrap_any _ _ _ _).mono ?_
  rintro e w1 ⟨rfl, hb1⟩
  have HB1 := Lib.hid hb1
  clear hb1
  have heq := run_eql_iface_ptr_other (P := Tryz.prog) w1 Tryz.underlying64 Tryz.underlying221 hi hcmp hj (by rw [hjs]; decide) hne ((HB1.out.block _ hlx).trans HX.out) ((HB1.out.block _ hlb).trans HBB.out)
  go_wp2_with fail
  rw [rounds_succ]
  go_wp2_with fail
  go_ret
  exact ⟨rfl, HB1.out⟩

set_option maxHeartbeats 4000000 in
theorem is_LM (c : Int) (s0 : ByteArray) (b : Addr) (w : World) :
    Calls Tryz.prog 76 #[eL s0 (eM c), eP b] w fun e w' => e = .returned (.bool false) ∧ Below w.heap.size w w' := by
  obtain ⟨i, hi, hcmp⟩ := Option.map_eq_some_iff.1 isComp
  obtain ⟨j, hj, hjs⟩ := Option.map_eq_some_iff.1 isSize
  have h8 := @run_callFunc_extern Tryz.prog 111 _ Extern.ReflectliteType.typeOf Tryz.func111 (by kernel_rfl) (by kernel_rfl) (by kernel_rfl) (by kernel_rfl)
  have h32 := @run_callFunc_extern Tryz.prog 185 _ cmpM Tryz.func185 (by kernel_rfl) (by kernel_rfl) (by kernel_rfl) (by kernel_rfl)
  have tT := isTypeOf
  have cT := isComparable
  have mR := isMethodComparable
  have nE := noIsM
  have uE := noUnwrapM
  have vE := noUnwrapsM
  have nW := noIsL
  have uW := hasUnwrapL
  have mU := methodUnwrap
  have hty0 := run_eql_iface_types (P := Tryz.prog) 127 221 (.agg #[.string s0, .iface 130 (.agg #[.int .i64 c])]) (.pointer (some b)) Tryz.underlying64 (by decide)
  have htyM := run_eql_iface_types (P := Tryz.prog) 130 221 (.agg #[.int .i64 c]) (.pointer (some b)) Tryz.underlying64 (by decide)
  unfold eP
  unfold eL
  unfold eM
  go_enter Tryz.func76, Tryz.ntmps76
  go_wp2
  refine wp_loop_rounds 2 ?_
  rw [rounds_succ]
  go_wp2_with fail
  refine (unwrap_any _ _ _ _).mono ?_
  rintro e w1 ⟨rfl, hb1⟩
  have HB1 := Lib.hid hb1
  clear hb1
  go_wp2_with fail
  rw [rounds_succ]
  go_wp2_with fail
  go_ret
  exact ⟨rfl, HB1.out⟩

set_option maxHeartbeats 4000000 in
theorem is_LLM (c : Int) (s0 : ByteArray) (s1 : ByteArray) (b : Addr) (w : World) :
    Calls Tryz.prog 76 #[eL s0 (eL s1 (eM c)), eP b] w fun e w' => e = .returned (.bool false) ∧ Below w.heap.size w w' := by
  obtain ⟨i, hi, hcmp⟩ := Option.map_eq_some_iff.1 isComp
  obtain ⟨j, hj, hjs⟩ := Option.map_eq_some_iff.1 isSize
  have h8 := @run_callFunc_extern Tryz.prog 111 _ Extern.ReflectliteType.typeOf Tryz.func111 (by kernel_rfl) (by kernel_rfl) (by kernel_rfl) (by kernel_rfl)
  have h32 := @run_callFunc_extern Tryz.prog 185 _ cmpM Tryz.func185 (by kernel_rfl) (by kernel_rfl) (by kernel_rfl) (by kernel_rfl)
  have tT := isTypeOf
  have cT := isComparable
  have mR := isMethodComparable
  have nE := noIsM
  have uE := noUnwrapM
  have vE := noUnwrapsM
  have nW := noIsL
  have uW := hasUnwrapL
  have mU := methodUnwrap
  have hty0 := run_eql_iface_types (P := Tryz.prog) 127 221 (.agg #[.string s0, .iface 127 (.agg #[.string s1, .iface 130 (.agg #[.int .i64 c])])]) (.pointer (some b)) Tryz.underlying64 (by decide)
  have hty1 := run_eql_iface_types (P := Tryz.prog) 127 221 (.agg #[.string s1, .iface 130 (.agg #[.int .i64 c])]) (.pointer (some b)) Tryz.underlying64 (by decide)
  have htyM := run_eql_iface_types (P := Tryz.prog) 130 221 (.agg #[.int .i64 c]) (.pointer (some b)) Tryz.underlying64 (by decide)
  unfold eP
  unfold eL
  unfold eM
  go_enter Tryz.func76, Tryz.ntmps76
  go_wp2
  refine wp_loop_rounds 3 ?_
  rw [rounds_succ]
  go_wp2_with fail
  refine (unwrap_any _ _ _ _).mono ?_
  rintro e w1 ⟨rfl, hb1⟩
  have HB1 := Lib.hid hb1
  clear hb1
  go_wp2_with fail
  rw [rounds_succ]
  go_wp2_with fail
  refine (unwrap_any _ _ _ _).mono ?_
  rintro e w2 ⟨rfl, hb2⟩
  have HB2 := Lib.hid (HB1.out.trans (hb2.mono HB1.out.size))
  clear hb2
  go_wp2_with fail
  rw [rounds_succ]
  go_wp2_with fail
  go_ret
  exact ⟨rfl, HB2.out⟩

set_option maxHeartbeats 4000000 in
theorem is_LLPo (x : Addr) (s0 : ByteArray) (s1 : ByteArray) (b : Addr) (w : World) (hne : x ≠ b) (cx cb : Array Value) (tx tb : TypeId) (hx : w.heap[x.block]? = some (.cells cx tx (0, 0))) (hb : w.heap[b.block]? = some (.cells cb tb (0, 0))) :
    Calls Tryz.prog 76 #[eL s0 (eL s1 (eP x)), eP b] w fun e w' => e = .returned (.bool false) ∧ Below w.heap.size w w' := by
  obtain ⟨i, hi, hcmp⟩ := Option.map_eq_some_iff.1 isComp
  obtain ⟨j, hj, hjs⟩ := Option.map_eq_some_iff.1 isSize
  have h8 := @run_callFunc_extern Tryz.prog 111 _ Extern.ReflectliteType.typeOf Tryz.func111 (by kernel_rfl) (by kernel_rfl) (by kernel_rfl) (by kernel_rfl)
  have h32 := @run_callFunc_extern Tryz.prog 185 _ cmpM Tryz.func185 (by kernel_rfl) (by kernel_rfl) (by kernel_rfl) (by kernel_rfl)
  have tT := isTypeOf
  have cT := isComparable
  have mR := isMethodComparable
  have nE := noIsE
  have uE := noUnwrapE
  have vE := noUnwrapsE
  have nW := noIsL
  have uW := hasUnwrapL
  have mU := methodUnwrap
  have hty0 := run_eql_iface_types (P := Tryz.prog) 127 221 (.agg #[.string s0, .iface 127 (.agg #[.string s1, .iface 221 (.pointer (some x))])]) (.pointer (some b)) Tryz.underlying64 (by decide)
  have hty1 := run_eql_iface_types (P := Tryz.prog) 127 221 (.agg #[.string s1, .iface 221 (.pointer (some x))]) (.pointer (some b)) Tryz.underlying64 (by decide)
  have hlx : x.block < w.heap.size := (Array.getElem?_eq_some_iff.1 hx).1
  have hlb : b.block < w.heap.size := (Array.getElem?_eq_some_iff.1 hb).1
  have HX := Lib.hid hx
  have HBB := Lib.hid hb
  clear hx hb
  unfold eP
  unfold eL
  go_enter Tryz.func76, Tryz.ntmps76
  go_wp2
  refine wp_loop_rounds 3 ?_
  rw [rounds_succ]
  go_wp2_with fail
  refine (unwrap_any _ _ _ _).mono ?_
  rintro e w1 ⟨rfl, hb1⟩
  have HB1 := Lib.hid hb1
  clear hb1
  go_wp2_with fail
  rw [rounds_succ]
  go_wp2_with fail
  refine (unwrap_any _ _ _ _).mono ?_
  rintro e w2 ⟨rfl, hb2⟩
  have HB2 := Lib.hid (HB1.out.trans (hb2.mono HB1.out.size))
  clear hb2
  have heq := run_eql_iface_ptr_other (P := Tryz.prog) w2 Tryz.underlying64 Tryz.underlying221 hi hcmp hj (by rw [hjs]; decide) hne ((HB2.out.block _ hlx).trans HX.out) ((HB2.out.block _ hlb).trans HBB.out)
  go_wp2_with fail
  rw [rounds_succ]
  go_wp2_with fail
  go_ret
  exact ⟨rfl, HB2.out⟩
end Go.Proofs.YtcpblmpapkhppaaGreatDoor
