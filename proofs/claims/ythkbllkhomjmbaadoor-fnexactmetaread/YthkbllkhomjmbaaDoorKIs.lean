/- errors.Is, over the program's errors, by contracts. -/
import Derived.Test.YthkbllkhomjmbaaDoorLBox
import Derived.LaidEql
import Derived.Stop.Asserts
import Derived.RowKitTokens
namespace Go.Proofs.YthkbllkhomjmbaaDoor
open Go.RowKit Go.Extern.Stop Go.Stop Go.Extern

theorem isTypeOf (v : Value) (w : World) : (ReflectliteType.typeOf #[.iface 178 v]).run Tryd.prog w = .ok (.iface 158 (.agg #[.pointer (some ⟨7, 178, none⟩)])) w := by kernel_rfl
def cmpM : Array Value → Sem Value := ReflectliteType.method fun t => do Rtype.noPackHeld "Comparable" t; pure (.bool (← typeInfo t).comparable)
theorem isComparable (w : World) : (cmpM #[.agg #[.pointer (some ⟨7, 178, none⟩)]]).run Tryd.prog w = .ok (.bool true) w := by kernel_rfl
theorem isMethodComparable (v : Value) (w : World) : (Go.method 311 158 v "Comparable").run Tryd.prog w = .ok (156, v) w := by kernel_rfl
theorem isComp : (Tryd.prog.info? 178).map (·.comparable) = some true := by kernel_rfl
theorem isSize : (Tryd.prog.info? 199).map (·.size) = some 1 := by kernel_rfl
theorem noIsE (v : Value) (xT : TypeId) (w : World) : (Instr.typeAssert (.iface 178 v) xT 174 true).run Tryd.prog w = .ok (.tuple #[.nilIface, .bool false]) w := run_typeAssert_lacksB Tryd.underlying174 (by kernel_rfl) (by kernel_rfl) v xT w
theorem noUnwrapE (v : Value) (xT : TypeId) (w : World) : (Instr.typeAssert (.iface 178 v) xT 166 true).run Tryd.prog w = .ok (.tuple #[.nilIface, .bool false]) w := run_typeAssert_lacksB Tryd.underlying166 (by kernel_rfl) (by kernel_rfl) v xT w
theorem noUnwrapsE (v : Value) (xT : TypeId) (w : World) : (Instr.typeAssert (.iface 178 v) xT 168 true).run Tryd.prog w = .ok (.tuple #[.nilIface, .bool false]) w := run_typeAssert_lacksB Tryd.underlying168 (by kernel_rfl) (by kernel_rfl) v xT w
theorem noIsL (v : Value) (xT : TypeId) (w : World) : (Instr.typeAssert (.iface 173 v) xT 174 true).run Tryd.prog w = .ok (.tuple #[.nilIface, .bool false]) w := run_typeAssert_lacksB Tryd.underlying174 (by kernel_rfl) (by kernel_rfl) v xT w
theorem hasUnwrapL (v : Value) (xT : TypeId) (w : World) : (Instr.typeAssert (.iface 173 v) xT 166 true).run Tryd.prog w = .ok (.tuple #[.iface 173 v, .bool true]) w := run_typeAssert_hasB Tryd.underlying166 (by kernel_rfl) v xT w
theorem noIsM (v : Value) (xT : TypeId) (w : World) : (Instr.typeAssert (.iface 85 v) xT 174 true).run Tryd.prog w = .ok (.tuple #[.nilIface, .bool false]) w := run_typeAssert_lacksB Tryd.underlying174 (by kernel_rfl) (by kernel_rfl) v xT w
theorem noUnwrapM (v : Value) (xT : TypeId) (w : World) : (Instr.typeAssert (.iface 85 v) xT 166 true).run Tryd.prog w = .ok (.tuple #[.nilIface, .bool false]) w := run_typeAssert_lacksB Tryd.underlying166 (by kernel_rfl) (by kernel_rfl) v xT w
theorem noUnwrapsM (v : Value) (xT : TypeId) (w : World) : (Instr.typeAssert (.iface 85 v) xT 168 true).run Tryd.prog w = .ok (.tuple #[.nilIface, .bool false]) w := run_typeAssert_lacksB Tryd.underlying168 (by kernel_rfl) (by kernel_rfl) v xT w
theorem methodUnwrap (v : Value) (w : World) : (Go.method 311 173 v "Unwrap").run Tryd.prog w = .ok (166, v) w := by kernel_rfl
/-- An error that is a sentinel; one wrapped in the name of a layer; one that carries a code. -/
def eP (x : Addr) : Value := .iface 178 (.pointer (some x))
def eL (s : ByteArray) (e : Value) : Value := .iface 173 (.agg #[.string s, e])
def eM (c : Int) : Value := .iface 85 (.agg #[.int .i64 c])
theorem unwrap_any (s : ByteArray) (t : TypeId) (v : Value) (w : World) :
    Calls Tryd.prog 166 #[.agg #[.string s, .iface t v]] w fun e w' => e = .returned (.iface t v) ∧ Below w.heap.size w w' := by
  go_enter Tryd.func166, Tryd.ntmps166
  go_wp2
  go_ret
  exact ⟨rfl, (Below.refl _ _).alloc (Nat.le_refl _) _⟩

set_option maxHeartbeats 4000000 in
theorem is_Ps (x : Addr) (w : World) :
    Calls Tryd.prog 108 #[eP x, eP x] w fun e w' => e = .returned (.bool true) ∧ Below w.heap.size w w' := by
  obtain ⟨i, hi, hcmp⟩ := Option.map_eq_some_iff.1 isComp
  obtain ⟨j, hj, hjs⟩ := Option.map_eq_some_iff.1 isSize
  have h8 := @run_callFunc_extern Tryd.prog 116 _ Extern.ReflectliteType.typeOf Tryd.func116 (by kernel_rfl) (by kernel_rfl) (by kernel_rfl) (by kernel_rfl)
  have h32 := @run_callFunc_extern Tryd.prog 156 _ cmpM Tryd.func156 (by kernel_rfl) (by kernel_rfl) (by kernel_rfl) (by kernel_rfl)
  have tT := isTypeOf
  have cT := isComparable
  have mR := isMethodComparable
  have nE := noIsE
  have uE := noUnwrapE
  have vE := noUnwrapsE
  have heq := fun w => run_eql_iface_ptr_same (P := Tryd.prog) w x Tryd.underlying81 Tryd.underlying178 hi hcmp hj
  unfold eP
  go_enter Tryd.func108, Tryd.ntmps108
  go_wp2
  refine wp_loop_rounds 1 ?_
  rw [rounds_succ]
  go_wp2_with fail
  go_ret
  exact ⟨rfl, Below.refl _ _⟩

set_option maxHeartbeats 4000000 in
theorem is_Po (x : Addr) (b : Addr) (w : World) (hne : x ≠ b) (cx cb : Array Value) (tx tb : TypeId) (hx : w.heap[x.block]? = some (.cells cx tx (0, 0))) (hb : w.heap[b.block]? = some (.cells cb tb (0, 0))) :
    Calls Tryd.prog 108 #[eP x, eP b] w fun e w' => e = .returned (.bool false) ∧ Below w.heap.size w w' := by
  obtain ⟨i, hi, hcmp⟩ := Option.map_eq_some_iff.1 isComp
  obtain ⟨j, hj, hjs⟩ := Option.map_eq_some_iff.1 isSize
  have h8 := @run_callFunc_extern Tryd.prog 116 _ Extern.ReflectliteType.typeOf Tryd.func116 (by kernel_rfl) (by kernel_rfl) (by kernel_rfl) (by kernel_rfl)
  have h32 := @run_callFunc_extern Tryd.prog 156 _ cmpM Tryd.func156 (by kernel_rfl) (by kernel_rfl) (by kernel_rfl) (by kernel_rfl)
  have tT := isTypeOf
  have cT := isComparable
  have mR := isMethodComparable
  have nE := noIsE
  have uE := noUnwrapE
  have vE := noUnwrapsE
  have hlx : x.block < w.heap.size := (Array.getElem?_eq_some_iff.1 hx).1
  have hlb : b.block < w.heap.size := (Array.getElem?_eq_some_iff.1 hb).1
  have HX := Lib.hid hx
  have HBB := Lib.hid hb
  clear hx hb
  have heq := run_eql_iface_ptr_other (P := Tryd.prog) w Tryd.underlying81 Tryd.underlying178 hi hcmp hj (by rw [hjs]; decide) hne HX.out HBB.out
  unfold eP
  go_enter Tryd.func108, Tryd.ntmps108
  go_wp2
  refine wp_loop_rounds 1 ?_
  rw [rounds_succ]
  go_wp2_with fail
  go_ret
  exact ⟨rfl, Below.refl _ _⟩

set_option maxHeartbeats 4000000 in
theorem is_LPs (x : Addr) (s0 : ByteArray) (w : World) :
    Calls Tryd.prog 108 #[eL s0 (eP x), eP x] w fun e w' => e = .returned (.bool true) ∧ Below w.heap.size w w' := by
  obtain ⟨i, hi, hcmp⟩ := Option.map_eq_some_iff.1 isComp
  obtain ⟨j, hj, hjs⟩ := Option.map_eq_some_iff.1 isSize
  have h8 := @run_callFunc_extern Tryd.prog 116 _ Extern.ReflectliteType.typeOf Tryd.func116 (by kernel_rfl) (by kernel_rfl) (by kernel_rfl) (by kernel_rfl)
  have h32 := @run_callFunc_extern Tryd.prog 156 _ cmpM Tryd.func156 (by kernel_rfl) (by kernel_rfl) (by kernel_rfl) (by kernel_rfl)
  have tT := isTypeOf
  have cT := isComparable
  have mR := isMethodComparable
  have nE := noIsE
  have uE := noUnwrapE
  have vE := noUnwrapsE
  have nW := noIsL
  have uW := hasUnwrapL
  have mU := methodUnwrap
  have hty0 := run_eql_iface_types (P := Tryd.prog) 173 178 (.agg #[.string s0, .iface 178 (.pointer (some x))]) (.pointer (some x)) Tryd.underlying81 (by decide)
  have heq := fun w => run_eql_iface_ptr_same (P := Tryd.prog) w x Tryd.underlying81 Tryd.underlying178 hi hcmp hj
  unfold eP
  unfold eL
  go_enter Tryd.func108, Tryd.ntmps108
  go_wp2
  refine wp_loop_rounds 2 ?_
  rw [rounds_succ]
  go_wp2_with fail
  refine (unwrap_any _ _ _ _).mono ?_
  rintro e w1 ⟨rfl, hb1⟩
  have HB1 := Lib.hid hb1
  clear hb1
  go_wp2_with fail
  rw [rounds_succ]
  go_wp2_with fail
  go_ret
  exact ⟨rfl, HB1.out⟩

set_option maxHeartbeats 4000000 in
theorem is_LPo (x : Addr) (s0 : ByteArray) (b : Addr) (w : World) (hne : x ≠ b) (cx cb : Array Value) (tx tb : TypeId) (hx : w.heap[x.block]? = some (.cells cx tx (0, 0))) (hb : w.heap[b.block]? = some (.cells cb tb (0, 0))) :
    Calls Tryd.prog 108 #[eL s0 (eP x), eP b] w fun e w' => e = .returned (.bool false) ∧ Below w.heap.size w w' := by
  obtain ⟨i, hi, hcmp⟩ := Option.map_eq_some_iff.1 isComp
  obtain ⟨j, hj, hjs⟩ := Option.map_eq_some_iff.1 isSize
  have h8 := @run_callFunc_extern Tryd.prog 116 _ Extern.ReflectliteType.typeOf Tryd.func116 (by kernel_rfl) (by kernel_rfl) (by kernel_rfl) (by kernel_rfl)
  have h32 := @run_callFunc_extern Tryd.prog 156 _ cmpM Tryd.func156 (by kernel_rfl) (by kernel_rfl) (by kernel_rfl) (by kernel_rfl)
  have tT := isTypeOf
  have cT := isComparable
  have mR := isMethodComparable
  have nE := noIsE
  have uE := noUnwrapE
  have vE := noUnwrapsE
  have nW := noIsL
  have uW := hasUnwrapL
  have mU := methodUnwrap
  have hty0 := run_eql_iface_types (P := Tryd.prog) 173 178 (.agg #[.string s0, .iface 178 (.pointer (some x))]) (.pointer (some b)) Tryd.underlying81 (by decide)
  have hlx : x.block < w.heap.size := (Array.getElem?_eq_some_iff.1 hx).1
  have hlb : b.block < w.heap.size := (Array.getElem?_eq_some_iff.1 hb).1
  have HX := Lib.hid hx
  have HBB := Lib.hid hb
  clear hx hb
  unfold eP
  unfold eL
  go_enter Tryd.func108, Tryd.ntmps108
  go_wp2
  refine wp_loop_rounds 2 ?_
  rw [rounds_succ]
  go_wp2_with fail
  refine (unwrap_any _ _ _ _).mono ?_
  rintro e w1 ⟨rfl, hb1⟩
  have HB1 := Lib.hid hb1
  clear hb1
  have heq := run_eql_iface_ptr_other (P := Tryd.prog) w1 Tryd.underlying81 Tryd.underlying178 hi hcmp hj (by rw [hjs]; decide) hne ((HB1.out.block _ hlx).trans HX.out) ((HB1.out.block _ hlb).trans HBB.out)
  go_wp2_with fail
  rw [rounds_succ]
  go_wp2_with fail
  go_ret
  exact ⟨rfl, HB1.out⟩

set_option maxHeartbeats 4000000 in
theorem is_LM (c : Int) (s0 : ByteArray) (b : Addr) (w : World) :
    Calls Tryd.prog 108 #[eL s0 (eM c), eP b] w fun e w' => e = .returned (.bool false) ∧ Below w.heap.size w w' := by
  obtain ⟨i, hi, hcmp⟩ := Option.map_eq_some_iff.1 isComp
  obtain ⟨j, hj, hjs⟩ := Option.map_eq_some_iff.1 isSize
  have h8 := @run_callFunc_extern Tryd.prog 116 _ Extern.ReflectliteType.typeOf Tryd.func116 (by kernel_rfl) (by kernel_rfl) (by kernel_rfl) (by kernel_rfl)
  have h32 := @run_callFunc_extern Tryd.prog 156 _ cmpM Tryd.func156 (by kernel_rfl) (by kernel_rfl) (by kernel_rfl) (by kernel_rfl)
  have tT := isTypeOf
  have cT := isComparable
  have mR := isMethodComparable
  have nE := noIsM
  have uE := noUnwrapM
  have vE := noUnwrapsM
  have nW := noIsL
  have uW := hasUnwrapL
  have mU := methodUnwrap
  have hty0 := run_eql_iface_types (P := Tryd.prog) 173 178 (.agg #[.string s0, .iface 85 (.agg #[.int .i64 c])]) (.pointer (some b)) Tryd.underlying81 (by decide)
  have htyM := run_eql_iface_types (P := Tryd.prog) 85 178 (.agg #[.int .i64 c]) (.pointer (some b)) Tryd.underlying81 (by decide)
  unfold eP
  unfold eL
  unfold eM
  go_enter Tryd.func108, Tryd.ntmps108
  go_wp2
  refine wp_loop_rounds 2 ?_
  rw [rounds_succ]
  go_wp2_with fail
  refine (unwrap_any _ _ _ _).mono ?_
  rintro e w1 ⟨rfl, hb1⟩
  have HB1 := Lib.hid hb1
  clear hb1
  go_wp2_with fail
  rw [rounds_succ]
  go_wp2_with fail
  go_ret
  exact ⟨rfl, HB1.out⟩

set_option maxHeartbeats 4000000 in
theorem is_LLM (c : Int) (s0 : ByteArray) (s1 : ByteArray) (b : Addr) (w : World) :
    Calls Tryd.prog 108 #[eL s0 (eL s1 (eM c)), eP b] w fun e w' => e = .returned (.bool false) ∧ Below w.heap.size w w' := by
  obtain ⟨i, hi, hcmp⟩ := Option.map_eq_some_iff.1 isComp
  obtain ⟨j, hj, hjs⟩ := Option.map_eq_some_iff.1 isSize
  have h8 := @run_callFunc_extern Tryd.prog 116 _ Extern.ReflectliteType.typeOf Tryd.func116 (by kernel_rfl) (by kernel_rfl) (by kernel_rfl) (by kernel_rfl)
  have h32 := @run_callFunc_extern Tryd.prog 156 _ cmpM Tryd.func156 (by kernel_rfl) (by kernel_rfl) (by kernel_rfl) (by kernel_rfl)
  have tT := isTypeOf
  have cT := isComparable
  have mR := isMethodComparable
  have nE := noIsM
  have uE := noUnwrapM
  have vE := noUnwrapsM
  have nW := noIsL
  have uW := hasUnwrapL
  have mU := methodUnwrap
  have hty0 := run_eql_iface_types (P := Tryd.prog) 173 178 (.agg #[.string s0, .iface 173 (.agg #[.string s1, .iface 85 (.agg #[.int .i64 c])])]) (.pointer (some b)) Tryd.underlying81 (by decide)
  have hty1 := run_eql_iface_types (P := Tryd.prog) 173 178 (.agg #[.string s1, .iface 85 (.agg #[.int .i64 c])]) (.pointer (some b)) Tryd.underlying81 (by decide)
  have htyM := run_eql_iface_types (P := Tryd.prog) 85 178 (.agg #[.int .i64 c]) (.pointer (some b)) Tryd.underlying81 (by decide)
  unfold eP
  unfold eL
  unfold eM
  go_enter Tryd.func108, Tryd.ntmps108
  go_wp2
  refine wp_loop_rounds 3 ?_
  rw [rounds_succ]
  go_wp2_with fail
  refine (unwrap_any _ _ _ _).mono ?_
  rintro e w1 ⟨rfl, hb1⟩
  have HB1 := Lib.hid hb1
  clear hb1
  go_wp2_with fail
  rw [rounds_succ]
  go_wp2_with fail
  refine (unwrap_any _ _ _ _).mono ?_
  rintro e w2 ⟨rfl, hb2⟩
  have HB2 := Lib.hid (HB1.out.trans (hb2.mono HB1.out.size))
  clear hb2
  go_wp2_with fail
  rw [rounds_succ]
  go_wp2_with fail
  go_ret
  exact ⟨rfl, HB2.out⟩

set_option maxHeartbeats 4000000 in
theorem is_LLPo (x : Addr) (s0 : ByteArray) (s1 : ByteArray) (b : Addr) (w : World) (hne : x ≠ b) (cx cb : Array Value) (tx tb : TypeId) (hx : w.heap[x.block]? = some (.cells cx tx (0, 0))) (hb : w.heap[b.block]? = some (.cells cb tb (0, 0))) :
    Calls Tryd.prog 108 #[eL s0 (eL s1 (eP x)), eP b] w fun e w' => e = .returned (.bool false) ∧ Below w.heap.size w w' := by
  obtain ⟨i, hi, hcmp⟩ := Option.map_eq_some_iff.1 isComp
  obtain ⟨j, hj, hjs⟩ := Option.map_eq_some_iff.1 isSize
  have h8 := @run_callFunc_extern Tryd.prog 116 _ Extern.ReflectliteType.typeOf Tryd.func116 (by kernel_rfl) (by kernel_rfl) (by kernel_rfl) (by kernel_rfl)
  have h32 := @run_callFunc_extern Tryd.prog 156 _ cmpM Tryd.func156 (by kernel_rfl) (by kernel_rfl) (by kernel_rfl) (by kernel_rfl)
  have tT := isTypeOf
  have cT := isComparable
  have mR := isMethodComparable
  have nE := noIsE
  have uE := noUnwrapE
  have vE := noUnwrapsE
  have nW := noIsL
  have uW := hasUnwrapL
  have mU := methodUnwrap
  have hty0 := run_eql_iface_types (P := Tryd.prog) 173 178 (.agg #[.string s0, .iface 173 (.agg #[.string s1, .iface 178 (.pointer (some x))])]) (.pointer (some b)) Tryd.underlying81 (by decide)
  have hty1 := run_eql_iface_types (P := Tryd.prog) 173 178 (.agg #[.string s1, .iface 178 (.pointer (some x))]) (.pointer (some b)) Tryd.underlying81 (by decide)
  have hlx : x.block < w.heap.size := (Array.getElem?_eq_some_iff.1 hx).1
  have hlb : b.block < w.heap.size := (Array.getElem?_eq_some_iff.1 hb).1
  have HX := Lib.hid hx
  have HBB := Lib.hid hb
  clear hx hb
  unfold eP
  unfold eL
  go_enter Tryd.func108, Tryd.ntmps108
  go_wp2
  refine wp_loop_rounds 3 ?_
  rw [rounds_succ]
  go_wp2_with fail
  refine (unwrap_any _ _ _ _).mono ?_
  rintro e w1 ⟨rfl, hb1⟩
  have HB1 := Lib.hid hb1
  clear hb1
  go_wp2_with fail
  rw [rounds_succ]
  go_wp2_with fail
  refine (unwrap_any _ _ _ _).mono ?_
  rintro e w2 ⟨rfl, hb2⟩
  have HB2 := Lib.hid (HB1.out.trans (hb2.mono HB1.out.size))
  clear hb2
  have heq := run_eql_iface_ptr_other (P := Tryd.prog) w2 Tryd.underlying81 Tryd.underlying178 hi hcmp hj (by rw [hjs]; decide) hne ((HB2.out.block _ hlx).trans HX.out) ((HB2.out.block _ hlb).trans HBB.out)
  go_wp2_with fail
  rw [rounds_succ]
  go_wp2_with fail
  go_ret
  exact ⟨rfl, HB2.out⟩
end Go.Proofs.YthkbllkhomjmbaaDoor
