/-
  For every text the program's Unseal answers as the specification's, on the card's own condition that the program's three errors of a seal hold what their initialisers lay.
-/
import Derived.Test.YthkbllkhomjmbaaDoorRows
import Derived.Test.YthkbllkhomjmbaaDoorCards
import Derived.Test.YthkbllkhomjmbaaDoorTie
import Derived.ProofKit
import Derived.OpenShut
import Derived.OpenVars
import Derived.ShutString
import Derived.ChangeOld
import Derived.Below
import Derived.ChangeSame
import Derived.ChangeVars
import Derived.JoinedOf
import Derived.RowKit
import Derived.RowKitTokens
import Derived.LaidLaws
import Derived.LaidHandle
import Derived.Stop.Joined
import Derived.Stop.LaidErr
import Derived.Stop.LaidTwo
import Derived.SevenTiedAt
import Derived.Test.YthkbllkhomjmbaaDoorQLawU
namespace Go.Proofs.YthkbllkhomjmbaaDoor.fnExactUnseal
open Go.ChangeShapes Go.WideShapes Go.ChangeAt Go.RowKit
open Go.ChangeMaps (open_string shut_string)

theorem own : ownKnob Tryd.prog.godebug = none := by kernel_rfl
theorem laidOut : laidOutB Tryd.prog = true := by kernel_rfl
theorem g0 : Tryd.prog.globalNamed "loop.example/g00668/impl.errSealSize" = some 1 := by kernel_rfl
theorem t0 : (Tryd.prog.globals[1]?).map (·.type) = some 81 := by kernel_rfl
theorem g1 : Tryd.prog.globalNamed "loop.example/g00668/impl.errSealShort" = some 2 := by kernel_rfl
theorem t1 : (Tryd.prog.globals[2]?).map (·.type) = some 81 := by kernel_rfl
theorem g2 : Tryd.prog.globalNamed "loop.example/g00668/impl.errSealSum" = some 3 := by kernel_rfl
theorem t2 : (Tryd.prog.globals[3]?).map (·.type) = some 81 := by kernel_rfl
theorem cellsE : Tryd.prog.cellsOf 199 = 1 := by kernel_rfl
theorem cells9 : Tryd.prog.cellsOf 9 = 1 := by kernel_rfl
theorem star : "*" ++ "errors.errorString" = "*errors.errorString" := by decide
theorem rowE (u : TypeId) (h : Tryd.prog.typeName? 3 u = some "*errors.errorString") : u = 178 :=
  typeName_ptr_named (nm := "errors.errorString") (by rw [star]; kernel_rfl) (by kernel_rfl) (by decide) u (by rw [star]; exact h)
def texts : Nat → List UInt8
  | 0 => [116, 104, 101, 32, 115, 116, 114, 105, 110, 103, 32, 105, 115, 32, 108, 111, 110, 103, 101, 114, 32, 116, 104, 97, 110, 32, 97, 110, 121, 32, 109, 97, 121, 32, 98, 101]
  | 1 => [116, 104, 101, 32, 115, 116, 114, 105, 110, 103, 32, 104, 97, 115, 32, 110, 111, 32, 114, 111, 111, 109, 32, 102, 111, 114, 32, 97, 32, 99, 104, 101, 99, 107, 115, 117, 109]
  | _ => [116, 104, 101, 32, 115, 116, 114, 105, 110, 103, 32, 104, 97, 115, 32, 97, 32, 119, 114, 111, 110, 103, 32, 99, 104, 101, 99, 107, 115, 117, 109]
theorem texts_ne : ∀ i j : Fin 3, i ≠ j → texts i.1 ≠ texts j.1 := by decide +kernel
def pick (a0 a1 a2 : Addr) : Nat → Addr
  | 0 => a0 | 1 => a1 | _ => a2
/-- .. and where the errors lie. -/
theorem sents_of_laid {W : World} (h : laidMet Tryd.prog Rows.fnExactUnsealRow.laid W) : ∃ a, Sent W (sealG ++ []) a := by
  have h0 : laidMet Tryd.prog [("loop.example/g00668/impl.errSealSize", .iface "*errors.errorString" (.ptr (.agg [.lit (.string (texts 0))]))), ("loop.example/g00668/impl.errSealShort", .iface "*errors.errorString" (.ptr (.agg [.lit (.string (texts 1))]))), ("loop.example/g00668/impl.errSealSum", .iface "*errors.errorString" (.ptr (.agg [.lit (.string (texts 2))])))] W := h
  clear h
  have h1 := h0.tail
  obtain ⟨a0, a1, s0, s1, c0, c1, u0, u1, hv0, hv1, hc0, hs0, -, hc1, hs1, -, -, hb0, hb1⟩ := laid_sentinels2 h0 g0 t0 g1 t1 Tryd.underlying81 rowE Tryd.underlying178 Tryd.underlying199 rfl rfl Tryd.underlying9 cellsE cells9
  obtain ⟨a1', a2, s1', s2, c1', c2, u1', u2, hv1', hv2, hc1', hs1', -, hc2, hs2, -, -, hb1', hb2⟩ := laid_sentinels2 h1 g1 t1 g2 t2 Tryd.underlying81 rowE Tryd.underlying178 Tryd.underlying199 rfl rfl Tryd.underlying9 cellsE cells9
  refine ⟨pick a0 a1 a2, ?_, ?_, ?_⟩
  · intro i hi
    match i, hi with
    | 0, _ => exact (show W.cell? ⟨1, 0, none⟩ = some (.iface 178 (.pointer (some a0))) from by simpa using World.var?_cell g0 hv0 0)
    | 1, _ => exact (show W.cell? ⟨2, 0, none⟩ = some (.iface 178 (.pointer (some a1))) from by simpa using World.var?_cell g1 hv1 0)
    | 2, _ => exact (show W.cell? ⟨3, 0, none⟩ = some (.iface 178 (.pointer (some a2))) from by simpa using World.var?_cell g2 hv2 0)
    | i + 3, hi => exact absurd hi (by have : ((sealG ++ [])).length = 3 := rfl; omega)
  · intro i hi
    match i, hi with
    | 0, _ => exact ⟨_, _, hb0⟩
    | 1, _ => exact ⟨_, _, hb1⟩
    | 2, _ => exact ⟨_, _, hb2⟩
    | i + 3, hi => exact absurd hi (by have : ((sealG ++ [])).length = 3 := rfl; omega)
  · have tx : ∀ i, i < 3 → ∃ s : ByteArray, W.cell? (pick a0 a1 a2 i) = some (.string s) ∧ s.data.toList = texts i := by
      intro i hi
      match i, hi with
      | 0, _ => exact ⟨_, hc0, hs0⟩
      | 1, _ => exact ⟨_, hc1, hs1⟩
      | 2, _ => exact ⟨_, hc2, hs2⟩
    intro i j hi hj hne e
    have hi : i < 3 := hi
    have hj : j < 3 := hj
    obtain ⟨s, e1, e2⟩ := tx i hi
    obtain ⟨s', e3, e4⟩ := tx j hj
    rw [e, e3] at e1
    have : s' = s := by cases e1; rfl
    exact texts_ne ⟨i, hi⟩ ⟨j, hj⟩ (fun h => hne (by simpa using h)) (by rw [← e2, ← e4, this])

/-- A world that meets the condition: the settled one, the variables' cells laid. -/
noncomputable def low : Nat := (World.holding Tryd.prog default ⟨#[], #[], []⟩).heap.size
noncomputable def laidWorld (os : Os) : World :=
  let w0 := World.holding Tryd.prog os ⟨#[.cells #[.string ⟨(texts 0).toArray⟩] 199, .cells #[.string ⟨(texts 1).toArray⟩] 199, .cells #[.string ⟨(texts 2).toArray⟩] 199], #[], []⟩
  { w0 with heap := (((w0.heap.modify 1 fun
      | .cells _ t frozen => .cells #[.iface 178 (.pointer (some ⟨low + 0, 0, none⟩))] t frozen
      | o => o).modify 2 fun
      | .cells _ t frozen => .cells #[.iface 178 (.pointer (some ⟨low + 1, 0, none⟩))] t frozen
      | o => o).modify 3 fun
      | .cells _ t frozen => .cells #[.iface 178 (.pointer (some ⟨low + 2, 0, none⟩))] t frozen
      | o => o) }
theorem laidWorld_met (os : Os) (args : Array Value) : laidMet Tryd.prog Rows.fnExactUnsealRow.laid ((laidWorld os).forCall (fun _ _ => 0) ⟨#[], args, []⟩).memory :=
  laidMet_of_run' 8 (by kernel_rfl) (by kernel_rfl)
theorem rowed : varsRowed Tryd.prog Rows.fnExactUnsealSpec.vars = true := by kernel_rfl
theorem many {H : Type} {enc : TypeId × Value → H} {W : World} {sp : Nat → Bool} {x0 x1 x2 : String} : ∀ {gs : List (DataW H)} {q : List MemPlace}, DataW.TrodVars enc Tryd.prog W sp [x0, x1, x2] gs q → ∃ d0 d1 d2, gs = [d0, d1, d2]
  | [d0, d1, d2], _, _ => ⟨d0, d1, d2, rfl⟩
  | [], _, h => h.elim
  | [_], _, ⟨_, _, _, _, _, _, _, _, _, _, h, _⟩ => h.elim
  | [_, _], _, ⟨_, _, _, _, _, _, _, _, _, _, ⟨_, _, _, _, _, _, _, _, _, _, h, _⟩, _⟩ => h.elim
  | _ :: _ :: _ :: _ :: _, _, ⟨_, _, _, _, _, _, _, _, _, _, ⟨_, _, _, _, _, _, _, _, _, _, ⟨_, _, _, _, _, _, _, _, _, _, h, _⟩, _⟩, _⟩ => h.elim

set_option maxRecDepth 100000 in
theorem lifted (os : Os) (started : os.Started) (H : Type) (enc : TypeId × Value → H) :
    ReturnsInHanded {} Tryd.checked os 6 .any (fun w args => (Rows.fnExactUnsealSpec.pre enc Tryd.prog Tryd.f6 [] false w args ∧ laidMet Tryd.prog Rows.fnExactUnsealRow.laid w) ∧ sizedMet enc Tryd.prog Tryd.f6 (OpenSpec.ofChange Rows.fnExactUnsealSpec) false w args)
      (Rows.fnExactUnsealSpec.post enc Tryd.prog Tryd.f6 false true false false) := by
  refine returnsInHanded_of_change_and (C := Tryd.checked) (X := fun w _ => laidMet Tryd.prog Rows.fnExactUnsealRow.laid w) (fun _ _ _ hh h => h.of_heap hh) own started (by kernel_rfl) Tryd.func6
    (ChangeSpec.witness_shaped (enc := enc) (C := Tryd.checked) (os := os) (X := fun w _ => laidMet Tryd.prog Rows.fnExactUnsealRow.laid w) false (laidWorld os) #[.string ByteArray.empty] 8 rfl (World.shaped_of_RefB (by kernel_rfl) (by kernel_rfl)) (by kernel_rfl) (by kernel_rfl) (by kernel_rfl) (laidWorld_met os _)) ?_
  intro W base args ds gs before hval0 hW _ _ hL _
  have hval : ∀ (j : Nat) t v, Tryd.f6.params[j]? = some t → args[j]? = some v → Value.okWide Tryd.prog W .any base t v := hval0
  have hW' := hW
  obtain ⟨p, q, hA0, hV, rfl, hfz, hnd⟩ := hW
  have hA : DataW.TrodAll enc Tryd.prog W 0 (fun _ => true) true Tryd.f6.params.toList args.toList ds p := hA0
  rw [Tryd.params6] at hA hval
  obtain ⟨v0, vs0, d0, ds0, p0, q0, hargs, rfl, rfl, h0, r0⟩ := trodAll_cons hA
  obtain ⟨rfl, rfl, rfl⟩ := trodAll_nil r0
  obtain rfl : args = #[v0] := by cases args; simp_all
  obtain ⟨a0, rfl, rfl, rfl, w0⟩ := open_string Tryd.underlying9 (hval 0 9 v0 rfl rfl) h0
  obtain ⟨aE, hE⟩ := sents_of_laid hL
  clear hA0 hval0
  refine (unsealLaw a0 aE W w0 hE).mono fun e W' ⟨he, bel⟩ => ?_
  subst he
  have hv := Below.trodVars laidOut bel rowed hV
  obtain ⟨_, _, _, rfl⟩ := many hV
  exact ⟨_, rfl, _, _, _, [], _, _, hW', trodAll_mk1 (shut_bool Tryd.underlying4 _), (trodAll_cons_mk (shut_string Tryd.underlying9 w0) trodAll_mk0), hv, bel.frame _, fun h => by cases h⟩

theorem over : Rows.fnExactUnsealRow.holds Tryd.pinned (OpenSpec.ofChange Rows.fnExactUnsealSpec) :=
  OpenClaim.holds_of_wide 6 Tryd.f6 rfl rfl rfl rfl rfl rfl rfl ⟨rfl, rfl, rfl, rfl, rfl⟩ rfl rfl rfl rfl rfl (by kernel_rfl) Tryd.func6 (by kernel_rfl)
    (of_decide_eq_true (by kernel_rfl)) (by unfold Func.isWrapper; rw [if_neg (of_decide_eq_false (by kernel_rfl))]; exact ⟨rfl, rfl⟩)
    (fun os started H enc _ => lifted os started H enc)

theorem proved : Rows.FnExactUnsealCardSaid :=
  Claim7.holds_tied_plain_at .later [] [.sentinel, .sentinel, .sentinel] true (true, "a6ada82661fc23b3588b238db8b9fceb3d3be13dda8cd73790225cf4e89447d1") true
    over (fun _ h => by cases h) (by kernel_rfl) (fun _ h => by cases h) fnExactUnseal_row_tie rfl ⟨rfl, rfl⟩ (by kernel_rfl) rfl
    (fun f fn hf hfn => by
      obtain rfl : f = 6 := Option.some.inj ((show Tryd.prog.funcNamed "loop.example/g00668/laws.FnExactUnseal" = some 6 by kernel_rfl).symm.trans hf) |>.symm
      obtain rfl : fn = Tryd.f6 := (Option.some.inj (Tryd.func6.symm.trans hfn)).symm
      exact ⟨by kernel_rfl, fun j t ht => by
        rw [Tryd.params6] at ht
        have hm : t ∈ [9] := by simpa using Array.mem_of_getElem? ht
        have hall : ([9].all fun u => !Tryd.prog.wantsStandIn u) = true := by kernel_rfl
        exact (show Tryd.prog.wantsStandIn t = false by simpa using List.all_eq_true.1 hall t hm)⟩)
    (by kernel_rfl)
#print axioms proved
end Go.Proofs.YthkbllkhomjmbaaDoor.fnExactUnseal
