/-
  For every text the program's MetaRead answers as the specification's, on the card's own condition that errors.errorType and the program's six errors of a copy of the metadata hold what their initialisers lay.
-/
import Derived.Test.YthkbllkhomjmbaaDoorRows
import Derived.Test.YthkbllkhomjmbaaDoorCards
import Derived.Test.YthkbllkhomjmbaaDoorTie
import Derived.ProofKit
import Derived.OpenShut
import Derived.OpenVars
import Derived.ShutString
import Derived.ChangeOld
import Derived.Below
import Derived.ChangeSame
import Derived.ChangeVars
import Derived.JoinedOf
import Derived.RowKit
import Derived.RowKitTokens
import Derived.LaidLaws
import Derived.LaidHandle
import Derived.Stop.Joined
import Derived.Stop.LaidErr
import Derived.Stop.LaidTwo
import Derived.SevenTiedAt
import Derived.Test.YthkbllkhomjmbaaDoorQMetaL
namespace Go.Proofs.YthkbllkhomjmbaaDoor.fnExactMetaRead
open Go.ChangeShapes Go.WideShapes Go.ChangeAt Go.RowKit
open Go.ChangeMaps (open_string shut_string)

theorem own : ownKnob Tryd.prog.godebug = none := by kernel_rfl
theorem laidOut : laidOutB Tryd.prog = true := by kernel_rfl
theorem et : Tryd.prog.globalNamed "errors.errorType" = some 0 := by kernel_rfl
theorem rt : (Tryd.prog.cutTypes.find? (·.1 == "internal/reflectlite.rtype")).map (·.2) = some 158 := by kernel_rfl
theorem oneRow : ((List.range 211).filter fun t => Tryd.prog.rowNamed t [101, 114, 114, 111, 114]) = [81] := by kernel_rfl
theorem size : Tryd.prog.types.size = 211 := by kernel_rfl
theorem g0 : Tryd.prog.globalNamed "loop.example/g00668/impl.errSealSize" = some 1 := by kernel_rfl
theorem t0 : (Tryd.prog.globals[1]?).map (·.type) = some 81 := by kernel_rfl
theorem g1 : Tryd.prog.globalNamed "loop.example/g00668/impl.errSealShort" = some 2 := by kernel_rfl
theorem t1 : (Tryd.prog.globals[2]?).map (·.type) = some 81 := by kernel_rfl
theorem g2 : Tryd.prog.globalNamed "loop.example/g00668/impl.errSealSum" = some 3 := by kernel_rfl
theorem t2 : (Tryd.prog.globals[3]?).map (·.type) = some 81 := by kernel_rfl
theorem g3 : Tryd.prog.globalNamed "loop.example/g00668/impl.errCopyContents" = some 4 := by kernel_rfl
theorem t3 : (Tryd.prog.globals[4]?).map (·.type) = some 81 := by kernel_rfl
theorem g4 : Tryd.prog.globalNamed "loop.example/g00668/impl.errNoCopy" = some 6 := by kernel_rfl
theorem t4 : (Tryd.prog.globals[6]?).map (·.type) = some 81 := by kernel_rfl
theorem g5 : Tryd.prog.globalNamed "loop.example/g00668/impl.errNoPlace" = some 5 := by kernel_rfl
theorem t5 : (Tryd.prog.globals[5]?).map (·.type) = some 81 := by kernel_rfl
theorem cellsE : Tryd.prog.cellsOf 199 = 1 := by kernel_rfl
theorem cells9 : Tryd.prog.cellsOf 9 = 1 := by kernel_rfl
theorem star : "*" ++ "errors.errorString" = "*errors.errorString" := by decide
theorem rowE (u : TypeId) (h : Tryd.prog.typeName? 3 u = some "*errors.errorString") : u = 178 :=
  typeName_ptr_named (nm := "errors.errorString") (by rw [star]; kernel_rfl) (by kernel_rfl) (by decide) u (by rw [star]; exact h)
def texts : Nat → List UInt8
  | 0 => [116, 104, 101, 32, 115, 116, 114, 105, 110, 103, 32, 105, 115, 32, 108, 111, 110, 103, 101, 114, 32, 116, 104, 97, 110, 32, 97, 110, 121, 32, 109, 97, 121, 32, 98, 101]
  | 1 => [116, 104, 101, 32, 115, 116, 114, 105, 110, 103, 32, 104, 97, 115, 32, 110, 111, 32, 114, 111, 111, 109, 32, 102, 111, 114, 32, 97, 32, 99, 104, 101, 99, 107, 115, 117, 109]
  | 2 => [116, 104, 101, 32, 115, 116, 114, 105, 110, 103, 32, 104, 97, 115, 32, 97, 32, 119, 114, 111, 110, 103, 32, 99, 104, 101, 99, 107, 115, 117, 109]
  | 3 => [116, 104, 101, 32, 99, 111, 112, 121, 32, 99, 111, 110, 116, 97, 105, 110, 115, 32, 115, 111, 109, 101, 116, 104, 105, 110, 103, 32, 101, 108, 115, 101]
  | 4 => [110, 101, 105, 116, 104, 101, 114, 32, 115, 101, 99, 116, 111, 114, 32, 104, 97, 115, 32, 97, 32, 99, 111, 112, 121]
  | _ => [116, 104, 101, 32, 102, 108, 97, 115, 104, 32, 99, 97, 110, 110, 111, 116, 32, 104, 97, 118, 101, 32, 116, 119, 111, 32, 99, 111, 112, 105, 101, 115]
theorem texts_ne : ∀ i j : Fin 6, i ≠ j → texts i.1 ≠ texts j.1 := by decide +kernel

/-- What the condition gives a walk: the handle's cell. -/
theorem handle_of_laid {W : World} (h : laidMetH Tryd.prog Rows.fnExactMetaReadRow.laid W) : Laid W := by
  have h' : laidMet Tryd.prog (Rows.fnExactMetaReadRow.laid.filter fun x => x.2.handleName?.isNone) W ∧ handlesMet Tryd.prog [("errors.errorType", Rows.laid_errors_errorType)] W := h
  obtain ⟨name, u, ty, e1, e2, e3, e4, e5⟩ := h'.2 _ (List.mem_singleton.2 rfl)
  have en : name = [101, 114, 114, 111, 114] := (Option.some.inj e1).symm
  subst en
  obtain rfl := Option.some.inj (rt.symm.trans e2)
  have hm : ty ∈ (List.range 211).filter fun t => Tryd.prog.rowNamed t [101, 114, 114, 111, 114] := List.mem_filter.2 ⟨List.mem_range.2 (by rw [← size]; exact e3), e4⟩
  rw [oneRow] at hm
  obtain rfl := List.mem_singleton.1 hm
  have hh : typeHandle Tryd.prog 81 = .pointer (some ⟨7, 81, none⟩) := by kernel_rfl
  rw [hh] at e5
  unfold Laid
  simpa using World.var?_cell et e5 0
def pick (a0 a1 a2 a3 a4 a5 : Addr) : Nat → Addr
  | 0 => a0 | 1 => a1 | 2 => a2 | 3 => a3 | 4 => a4 | _ => a5
/-- .. and where the errors lie. -/
theorem sents_of_laid {W : World} (h : laidMetH Tryd.prog Rows.fnExactMetaReadRow.laid W) : ∃ a, Sent W metaG a := by
  have h' : laidMet Tryd.prog (Rows.fnExactMetaReadRow.laid.filter fun x => x.2.handleName?.isNone) W ∧ handlesMet Tryd.prog [("errors.errorType", Rows.laid_errors_errorType)] W := h
  have h0 : laidMet Tryd.prog [("loop.example/g00668/impl.errSealSize", .iface "*errors.errorString" (.ptr (.agg [.lit (.string (texts 0))]))), ("loop.example/g00668/impl.errSealShort", .iface "*errors.errorString" (.ptr (.agg [.lit (.string (texts 1))]))), ("loop.example/g00668/impl.errSealSum", .iface "*errors.errorString" (.ptr (.agg [.lit (.string (texts 2))]))), ("loop.example/g00668/impl.errCopyContents", .iface "*errors.errorString" (.ptr (.agg [.lit (.string (texts 3))]))), ("loop.example/g00668/impl.errNoCopy", .iface "*errors.errorString" (.ptr (.agg [.lit (.string (texts 4))]))), ("loop.example/g00668/impl.errNoPlace", .iface "*errors.errorString" (.ptr (.agg [.lit (.string (texts 5))])))] W := h'.1
  clear h h'
  have h1 := h0.tail
  have h2 := h1.tail
  have h3 := h2.tail
  have h4 := h3.tail
  obtain ⟨a0, a1, s0, s1, c0, c1, u0, u1, hv0, hv1, hc0, hs0, -, hc1, hs1, -, -, hb0, hb1⟩ := laid_sentinels2 h0 g0 t0 g1 t1 Tryd.underlying81 rowE Tryd.underlying178 Tryd.underlying199 rfl rfl Tryd.underlying9 cellsE cells9
  obtain ⟨a2, a3, s2, s3, c2, c3, u2, u3, hv2, hv3, hc2, hs2, -, hc3, hs3, -, -, hb2, hb3⟩ := laid_sentinels2 h2 g2 t2 g3 t3 Tryd.underlying81 rowE Tryd.underlying178 Tryd.underlying199 rfl rfl Tryd.underlying9 cellsE cells9
  obtain ⟨a4, a5, s4, s5, c4, c5, u4, u5, hv4, hv5, hc4, hs4, -, hc5, hs5, -, -, hb4, hb5⟩ := laid_sentinels2 h4 g4 t4 g5 t5 Tryd.underlying81 rowE Tryd.underlying178 Tryd.underlying199 rfl rfl Tryd.underlying9 cellsE cells9
  refine ⟨pick a0 a1 a2 a3 a4 a5, ?_, ?_, ?_⟩
  · intro i hi
    match i, hi with
    | 0, _ => exact (show W.cell? ⟨1, 0, none⟩ = some (.iface 178 (.pointer (some a0))) from by simpa using World.var?_cell g0 hv0 0)
    | 1, _ => exact (show W.cell? ⟨2, 0, none⟩ = some (.iface 178 (.pointer (some a1))) from by simpa using World.var?_cell g1 hv1 0)
    | 2, _ => exact (show W.cell? ⟨3, 0, none⟩ = some (.iface 178 (.pointer (some a2))) from by simpa using World.var?_cell g2 hv2 0)
    | 3, _ => exact (show W.cell? ⟨4, 0, none⟩ = some (.iface 178 (.pointer (some a3))) from by simpa using World.var?_cell g3 hv3 0)
    | 4, _ => exact (show W.cell? ⟨6, 0, none⟩ = some (.iface 178 (.pointer (some a4))) from by simpa using World.var?_cell g4 hv4 0)
    | 5, _ => exact (show W.cell? ⟨5, 0, none⟩ = some (.iface 178 (.pointer (some a5))) from by simpa using World.var?_cell g5 hv5 0)
    | i + 6, hi => exact absurd hi (by have : (metaG).length = 6 := rfl; omega)
  · intro i hi
    match i, hi with
    | 0, _ => exact ⟨_, _, hb0⟩
    | 1, _ => exact ⟨_, _, hb1⟩
    | 2, _ => exact ⟨_, _, hb2⟩
    | 3, _ => exact ⟨_, _, hb3⟩
    | 4, _ => exact ⟨_, _, hb4⟩
    | 5, _ => exact ⟨_, _, hb5⟩
    | i + 6, hi => exact absurd hi (by have : (metaG).length = 6 := rfl; omega)
  · have tx : ∀ i, i < 6 → ∃ s : ByteArray, W.cell? (pick a0 a1 a2 a3 a4 a5 i) = some (.string s) ∧ s.data.toList = texts i := by
      intro i hi
      match i, hi with
      | 0, _ => exact ⟨_, hc0, hs0⟩
      | 1, _ => exact ⟨_, hc1, hs1⟩
      | 2, _ => exact ⟨_, hc2, hs2⟩
      | 3, _ => exact ⟨_, hc3, hs3⟩
      | 4, _ => exact ⟨_, hc4, hs4⟩
      | 5, _ => exact ⟨_, hc5, hs5⟩
    intro i j hi hj hne e
    have hi : i < 6 := hi
    have hj : j < 6 := hj
    obtain ⟨s, e1, e2⟩ := tx i hi
    obtain ⟨s', e3, e4⟩ := tx j hj
    rw [e, e3] at e1
    have : s' = s := by cases e1; rfl
    exact texts_ne ⟨i, hi⟩ ⟨j, hj⟩ (fun h => hne (by simpa using h)) (by rw [← e2, ← e4, this])

/-- A world that meets the condition: the settled one, the variables' cells laid. -/
noncomputable def low : Nat := (World.holding Tryd.prog default ⟨#[], #[], []⟩).heap.size
noncomputable def laidWorld (os : Os) : World :=
  let w0 := World.holding Tryd.prog os ⟨#[.cells #[.string ⟨(texts 0).toArray⟩] 199, .cells #[.string ⟨(texts 1).toArray⟩] 199, .cells #[.string ⟨(texts 2).toArray⟩] 199, .cells #[.string ⟨(texts 3).toArray⟩] 199, .cells #[.string ⟨(texts 4).toArray⟩] 199, .cells #[.string ⟨(texts 5).toArray⟩] 199], #[], []⟩
  { w0 with heap := ((((((w0.heap.modify 1 fun
      | .cells _ t frozen => .cells #[.iface 178 (.pointer (some ⟨low + 0, 0, none⟩))] t frozen
      | o => o).modify 2 fun
      | .cells _ t frozen => .cells #[.iface 178 (.pointer (some ⟨low + 1, 0, none⟩))] t frozen
      | o => o).modify 3 fun
      | .cells _ t frozen => .cells #[.iface 178 (.pointer (some ⟨low + 2, 0, none⟩))] t frozen
      | o => o).modify 4 fun
      | .cells _ t frozen => .cells #[.iface 178 (.pointer (some ⟨low + 3, 0, none⟩))] t frozen
      | o => o).modify 6 fun
      | .cells _ t frozen => .cells #[.iface 178 (.pointer (some ⟨low + 4, 0, none⟩))] t frozen
      | o => o).modify 5 fun
      | .cells _ t frozen => .cells #[.iface 178 (.pointer (some ⟨low + 5, 0, none⟩))] t frozen
      | o => o).modify 0 fun
      | .cells _ t frozen => .cells #[.iface 158 (.agg #[.pointer (some ⟨7, 81, none⟩)])] t frozen
      | o => o }
theorem laidWorld_met (os : Os) (args : Array Value) : laidMetH Tryd.prog Rows.fnExactMetaReadRow.laid ((laidWorld os).forCall (fun _ _ => 0) ⟨#[], args, []⟩).memory :=
  laidMetH_of_parts (laidMet_of_run' 8 (by kernel_rfl) (by kernel_rfl)) (by kernel_rfl)
theorem rowed : varsRowed Tryd.prog Rows.fnExactMetaReadSpec.vars = true := by kernel_rfl
theorem many {H : Type} {enc : TypeId × Value → H} {W : World} {sp : Nat → Bool} {x0 x1 x2 x3 x4 x5 : String} : ∀ {gs : List (DataW H)} {q : List MemPlace}, DataW.TrodVars enc Tryd.prog W sp [x0, x1, x2, x3, x4, x5] gs q → ∃ d0 d1 d2 d3 d4 d5, gs = [d0, d1, d2, d3, d4, d5]
  | [d0, d1, d2, d3, d4, d5], _, _ => ⟨d0, d1, d2, d3, d4, d5, rfl⟩
  | [], _, h => h.elim
  | [_], _, ⟨_, _, _, _, _, _, _, _, _, _, h, _⟩ => h.elim
  | [_, _], _, ⟨_, _, _, _, _, _, _, _, _, _, ⟨_, _, _, _, _, _, _, _, _, _, h, _⟩, _⟩ => h.elim
  | [_, _, _], _, ⟨_, _, _, _, _, _, _, _, _, _, ⟨_, _, _, _, _, _, _, _, _, _, ⟨_, _, _, _, _, _, _, _, _, _, h, _⟩, _⟩, _⟩ => h.elim
  | [_, _, _, _], _, ⟨_, _, _, _, _, _, _, _, _, _, ⟨_, _, _, _, _, _, _, _, _, _, ⟨_, _, _, _, _, _, _, _, _, _, ⟨_, _, _, _, _, _, _, _, _, _, h, _⟩, _⟩, _⟩, _⟩ => h.elim
  | [_, _, _, _, _], _, ⟨_, _, _, _, _, _, _, _, _, _, ⟨_, _, _, _, _, _, _, _, _, _, ⟨_, _, _, _, _, _, _, _, _, _, ⟨_, _, _, _, _, _, _, _, _, _, ⟨_, _, _, _, _, _, _, _, _, _, h, _⟩, _⟩, _⟩, _⟩, _⟩ => h.elim
  | _ :: _ :: _ :: _ :: _ :: _ :: _ :: _, _, ⟨_, _, _, _, _, _, _, _, _, _, ⟨_, _, _, _, _, _, _, _, _, _, ⟨_, _, _, _, _, _, _, _, _, _, ⟨_, _, _, _, _, _, _, _, _, _, ⟨_, _, _, _, _, _, _, _, _, _, ⟨_, _, _, _, _, _, _, _, _, _, h, _⟩, _⟩, _⟩, _⟩, _⟩, _⟩ => h.elim

set_option maxRecDepth 100000 in
theorem lifted (os : Os) (started : os.Started) (H : Type) (enc : TypeId × Value → H) :
    ReturnsInHanded {} Tryd.checked os 7 .any (fun w args => (Rows.fnExactMetaReadSpec.pre enc Tryd.prog Tryd.f7 [] false w args ∧ laidMetH Tryd.prog Rows.fnExactMetaReadRow.laid w) ∧ sizedMet enc Tryd.prog Tryd.f7 (OpenSpec.ofChange Rows.fnExactMetaReadSpec) false w args)
      (Rows.fnExactMetaReadSpec.post enc Tryd.prog Tryd.f7 false true false false) := by
  refine returnsInHanded_of_change_and (C := Tryd.checked) (X := fun w _ => laidMetH Tryd.prog Rows.fnExactMetaReadRow.laid w) (fun _ _ _ hh h => h.of_heap hh) own started (by kernel_rfl) Tryd.func7
    (ChangeSpec.witness_shaped (enc := enc) (C := Tryd.checked) (os := os) (X := fun w _ => laidMetH Tryd.prog Rows.fnExactMetaReadRow.laid w) false (laidWorld os) #[.string ByteArray.empty] 8 rfl (World.shaped_of_RefB (by kernel_rfl) (by kernel_rfl)) (by kernel_rfl) (by kernel_rfl) (by kernel_rfl) (laidWorld_met os _)) ?_
  intro W base args ds gs before hval0 hW _ _ hL _
  have hval : ∀ (j : Nat) t v, Tryd.f7.params[j]? = some t → args[j]? = some v → Value.okWide Tryd.prog W .any base t v := hval0
  have hW' := hW
  obtain ⟨p, q, hA0, hV, rfl, hfz, hnd⟩ := hW
  have hA : DataW.TrodAll enc Tryd.prog W 0 (fun _ => true) true Tryd.f7.params.toList args.toList ds p := hA0
  rw [Tryd.params7] at hA hval
  obtain ⟨v0, vs0, d0, ds0, p0, q0, hargs, rfl, rfl, h0, r0⟩ := trodAll_cons hA
  obtain ⟨rfl, rfl, rfl⟩ := trodAll_nil r0
  obtain rfl : args = #[v0] := by cases args; simp_all
  obtain ⟨a0, rfl, rfl, rfl, w0⟩ := open_string Tryd.underlying9 (hval 0 9 v0 rfl rfl) h0
  have hg := handle_of_laid hL
  obtain ⟨aE, hE⟩ := sents_of_laid hL
  clear hA0 hval0
  refine (metaReadLaw a0 aE W w0 hg hE).mono fun e W' ⟨he, bel⟩ => ?_
  subst he
  have hv := Below.trodVars laidOut bel rowed hV
  obtain ⟨_, _, _, _, _, _, rfl⟩ := many hV
  exact ⟨_, rfl, _, _, _, [], _, _, hW', trodAll_mk1 (shut_bool Tryd.underlying4 _), (trodAll_cons_mk (shut_string Tryd.underlying9 w0) trodAll_mk0), hv, bel.frame _, fun h => by cases h⟩

theorem over : Rows.fnExactMetaReadRow.holds Tryd.pinned (OpenSpec.ofChange Rows.fnExactMetaReadSpec) :=
  OpenClaim.holds_of_wide 7 Tryd.f7 rfl rfl rfl rfl rfl rfl rfl ⟨rfl, rfl, rfl, rfl, rfl⟩ rfl rfl rfl rfl rfl (by kernel_rfl) Tryd.func7 (by kernel_rfl)
    (of_decide_eq_true (by kernel_rfl)) (by unfold Func.isWrapper; rw [if_neg (of_decide_eq_false (by kernel_rfl))]; exact ⟨rfl, rfl⟩)
    (fun os started H enc _ => lifted os started H enc)

theorem proved : Rows.FnExactMetaReadCardSaid :=
  Claim7.holds_tied_plain_at .later [] [.handle, .sentinel, .sentinel, .sentinel, .sentinel, .sentinel, .sentinel] true (true, "a6ada82661fc23b3588b238db8b9fceb3d3be13dda8cd73790225cf4e89447d1") true
    over (fun _ h => by cases h) (by kernel_rfl) (fun _ h => by cases h) fnExactMetaRead_row_tie rfl ⟨rfl, rfl⟩ (by kernel_rfl) rfl
    (fun f fn hf hfn => by
      obtain rfl : f = 7 := Option.some.inj ((show Tryd.prog.funcNamed "loop.example/g00668/laws.FnExactMetaRead" = some 7 by kernel_rfl).symm.trans hf) |>.symm
      obtain rfl : fn = Tryd.f7 := (Option.some.inj (Tryd.func7.symm.trans hfn)).symm
      exact ⟨by kernel_rfl, fun j t ht => by
        rw [Tryd.params7] at ht
        have hm : t ∈ [9] := by simpa using Array.mem_of_getElem? ht
        have hall : ([9].all fun u => !Tryd.prog.wantsStandIn u) = true := by kernel_rfl
        exact (show Tryd.prog.wantsStandIn t = false by simpa using List.all_eq_true.1 hall t hm)⟩)
    (by kernel_rfl)
#print axioms proved
end Go.Proofs.YthkbllkhomjmbaaDoor.fnExactMetaRead
