/-
  For all bytes the law FnLog holds of the program: a record is read under its number and no other; no prefix of it is a record; of a sequence of records that is torn at some place the records before that place are scanned, and kept up to the last label; on the card's own condition that errors.errorType and the program's three errors of a seal hold what their initialisers lay.
-/
import Derived.Test.YthkbllkhomjmbaaGreatDoorRows
import Derived.Test.YthkbllkhomjmbaaGreatDoorCards
import Derived.Test.YthkbllkhomjmbaaGreatDoorTie
import Derived.ProofKit
import Derived.OpenShut
import Derived.OpenVars
import Derived.ShutString
import Derived.ChangeOld
import Derived.Below
import Derived.ChangeSame
import Derived.ChangeVars
import Derived.JoinedOf
import Derived.RowKit
import Derived.RowKitTokens
import Derived.LaidLaws
import Derived.LaidHandle
import Derived.Stop.Joined
import Derived.Stop.LaidErr
import Derived.Stop.LaidTwo
import Derived.SevenTiedAt
import Derived.Test.YthkbllkhomjmbaaGreatDoorQFnA
namespace Go.Proofs.YthkbllkhomjmbaaGreatDoor.fnLog
open Go.ChangeShapes Go.WideShapes Go.ChangeAt Go.RowKit
open Go.ChangeMaps (open_string shut_string)

theorem own : ownKnob Tryz.prog.godebug = none := by kernel_rfl
theorem laidOut : laidOutB Tryz.prog = true := by kernel_rfl
theorem et : Tryz.prog.globalNamed "errors.errorType" = some 7 := by kernel_rfl
theorem rt : (Tryz.prog.cutTypes.find? (·.1 == "internal/reflectlite.rtype")).map (·.2) = some 209 := by kernel_rfl
theorem oneRow : ((List.range 263).filter fun t => Tryz.prog.rowNamed t [101, 114, 114, 111, 114]) = [77] := by kernel_rfl
theorem size : Tryz.prog.types.size = 263 := by kernel_rfl
theorem g0 : Tryz.prog.globalNamed "loop.example/g00668/impl.errSealSize" = some 0 := by kernel_rfl
theorem t0 : (Tryz.prog.globals[0]?).map (·.type) = some 77 := by kernel_rfl
theorem g1 : Tryz.prog.globalNamed "loop.example/g00668/impl.errSealShort" = some 1 := by kernel_rfl
theorem t1 : (Tryz.prog.globals[1]?).map (·.type) = some 77 := by kernel_rfl
theorem g2 : Tryz.prog.globalNamed "loop.example/g00668/impl.errSealSum" = some 2 := by kernel_rfl
theorem t2 : (Tryz.prog.globals[2]?).map (·.type) = some 77 := by kernel_rfl
theorem cellsE : Tryz.prog.cellsOf 251 = 1 := by kernel_rfl
theorem cells9 : Tryz.prog.cellsOf 9 = 1 := by kernel_rfl
theorem star : "*" ++ "errors.errorString" = "*errors.errorString" := by decide
theorem rowE (u : TypeId) (h : Tryz.prog.typeName? 3 u = some "*errors.errorString") : u = 231 :=
  typeName_ptr_named (nm := "errors.errorString") (by rw [star]; kernel_rfl) (by kernel_rfl) (by decide) u (by rw [star]; exact h)
def texts : Nat → List UInt8
  | 0 => [116, 104, 101, 32, 115, 116, 114, 105, 110, 103, 32, 105, 115, 32, 108, 111, 110, 103, 101, 114, 32, 116, 104, 97, 110, 32, 97, 110, 121, 32, 109, 97, 121, 32, 98, 101]
  | 1 => [116, 104, 101, 32, 115, 116, 114, 105, 110, 103, 32, 104, 97, 115, 32, 110, 111, 32, 114, 111, 111, 109, 32, 102, 111, 114, 32, 97, 32, 99, 104, 101, 99, 107, 115, 117, 109]
  | _ => [116, 104, 101, 32, 115, 116, 114, 105, 110, 103, 32, 104, 97, 115, 32, 97, 32, 119, 114, 111, 110, 103, 32, 99, 104, 101, 99, 107, 115, 117, 109]
theorem texts_ne : ∀ i j : Fin 3, i ≠ j → texts i.1 ≠ texts j.1 := by decide +kernel

/-- What the condition gives a walk: the handle's cell. -/
theorem handle_of_laid {W : World} (h : laidMetH Tryz.prog Rows.fnLogRow.laid W) : Laid W := by
  have h' : laidMet Tryz.prog (Rows.fnLogRow.laid.filter fun x => x.2.handleName?.isNone) W ∧ handlesMet Tryz.prog [("errors.errorType", Rows.laid_errors_errorType)] W := h
  obtain ⟨name, u, ty, e1, e2, e3, e4, e5⟩ := h'.2 _ (List.mem_singleton.2 rfl)
  have en : name = [101, 114, 114, 111, 114] := (Option.some.inj e1).symm
  subst en
  obtain rfl := Option.some.inj (rt.symm.trans e2)
  have hm : ty ∈ (List.range 263).filter fun t => Tryz.prog.rowNamed t [101, 114, 114, 111, 114] := List.mem_filter.2 ⟨List.mem_range.2 (by rw [← size]; exact e3), e4⟩
  rw [oneRow] at hm
  obtain rfl := List.mem_singleton.1 hm
  have hh : typeHandle Tryz.prog 77 = .pointer (some ⟨11, 77, none⟩) := by kernel_rfl
  rw [hh] at e5
  unfold Laid
  simpa using World.var?_cell et e5 0
def pick (a0 a1 a2 : Addr) : Nat → Addr
  | 0 => a0 | 1 => a1 | _ => a2
/-- .. and where the errors lie. -/
theorem sents_of_laid {W : World} (h : laidMetH Tryz.prog Rows.fnLogRow.laid W) : ∃ a, Sent W (sealG ++ []) a := by
  have h' : laidMet Tryz.prog (Rows.fnLogRow.laid.filter fun x => x.2.handleName?.isNone) W ∧ handlesMet Tryz.prog [("errors.errorType", Rows.laid_errors_errorType)] W := h
  have h0 : laidMet Tryz.prog [("loop.example/g00668/impl.errSealSize", .iface "*errors.errorString" (.ptr (.agg [.lit (.string (texts 0))]))), ("loop.example/g00668/impl.errSealShort", .iface "*errors.errorString" (.ptr (.agg [.lit (.string (texts 1))]))), ("loop.example/g00668/impl.errSealSum", .iface "*errors.errorString" (.ptr (.agg [.lit (.string (texts 2))])))] W := h'.1
  clear h h'
  have h1 := h0.tail
  obtain ⟨a0, a1, s0, s1, c0, c1, u0, u1, hv0, hv1, hc0, hs0, -, hc1, hs1, -, -, hb0, hb1⟩ := laid_sentinels2 h0 g0 t0 g1 t1 Tryz.underlying77 rowE Tryz.underlying231 Tryz.underlying251 rfl rfl Tryz.underlying9 cellsE cells9
  obtain ⟨a1', a2, s1', s2, c1', c2, u1', u2, hv1', hv2, hc1', hs1', -, hc2, hs2, -, -, hb1', hb2⟩ := laid_sentinels2 h1 g1 t1 g2 t2 Tryz.underlying77 rowE Tryz.underlying231 Tryz.underlying251 rfl rfl Tryz.underlying9 cellsE cells9
  refine ⟨pick a0 a1 a2, ?_, ?_, ?_⟩
  · intro i hi
    match i, hi with
    | 0, _ => exact (show W.cell? ⟨0, 0, none⟩ = some (.iface 231 (.pointer (some a0))) from by simpa using World.var?_cell g0 hv0 0)
    | 1, _ => exact (show W.cell? ⟨1, 0, none⟩ = some (.iface 231 (.pointer (some a1))) from by simpa using World.var?_cell g1 hv1 0)
    | 2, _ => exact (show W.cell? ⟨2, 0, none⟩ = some (.iface 231 (.pointer (some a2))) from by simpa using World.var?_cell g2 hv2 0)
    | i + 3, hi => exact absurd hi (by have : ((sealG ++ [])).length = 3 := rfl; omega)
  · intro i hi
    match i, hi with
    | 0, _ => exact ⟨_, _, hb0⟩
    | 1, _ => exact ⟨_, _, hb1⟩
    | 2, _ => exact ⟨_, _, hb2⟩
    | i + 3, hi => exact absurd hi (by have : ((sealG ++ [])).length = 3 := rfl; omega)
  · have tx : ∀ i, i < 3 → ∃ s : ByteArray, W.cell? (pick a0 a1 a2 i) = some (.string s) ∧ s.data.toList = texts i := by
      intro i hi
      match i, hi with
      | 0, _ => exact ⟨_, hc0, hs0⟩
      | 1, _ => exact ⟨_, hc1, hs1⟩
      | 2, _ => exact ⟨_, hc2, hs2⟩
    intro i j hi hj hne e
    have hi : i < 3 := hi
    have hj : j < 3 := hj
    obtain ⟨s, e1, e2⟩ := tx i hi
    obtain ⟨s', e3, e4⟩ := tx j hj
    rw [e, e3] at e1
    have : s' = s := by cases e1; rfl
    exact texts_ne ⟨i, hi⟩ ⟨j, hj⟩ (fun h => hne (by simpa using h)) (by rw [← e2, ← e4, this])

/-- A world that meets the condition: the settled one, the variables' cells laid. -/
noncomputable def low : Nat := (World.holding Tryz.prog default ⟨#[], #[], []⟩).heap.size
noncomputable def laidWorld (os : Os) : World :=
  let w0 := World.holding Tryz.prog os ⟨#[.cells #[.string ⟨(texts 0).toArray⟩] 251, .cells #[.string ⟨(texts 1).toArray⟩] 251, .cells #[.string ⟨(texts 2).toArray⟩] 251], #[], []⟩
  { w0 with heap := (((w0.heap.modify 0 fun
      | .cells _ t frozen => .cells #[.iface 231 (.pointer (some ⟨low + 0, 0, none⟩))] t frozen
      | o => o).modify 1 fun
      | .cells _ t frozen => .cells #[.iface 231 (.pointer (some ⟨low + 1, 0, none⟩))] t frozen
      | o => o).modify 2 fun
      | .cells _ t frozen => .cells #[.iface 231 (.pointer (some ⟨low + 2, 0, none⟩))] t frozen
      | o => o).modify 7 fun
      | .cells _ t frozen => .cells #[.iface 209 (.agg #[.pointer (some ⟨11, 77, none⟩)])] t frozen
      | o => o }
theorem laidWorld_met (os : Os) (args : Array Value) : laidMetH Tryz.prog Rows.fnLogRow.laid ((laidWorld os).forCall (fun _ _ => 0) ⟨#[], args, []⟩).memory :=
  laidMetH_of_parts (laidMet_of_run' 8 (by kernel_rfl) (by kernel_rfl)) (by kernel_rfl)
theorem rowed : varsRowed Tryz.prog Rows.fnLogSpec.vars = true := by kernel_rfl
theorem many {H : Type} {enc : TypeId × Value → H} {W : World} {sp : Nat → Bool} {x0 x1 x2 : String} : ∀ {gs : List (DataW H)} {q : List MemPlace}, DataW.TrodVars enc Tryz.prog W sp [x0, x1, x2] gs q → ∃ d0 d1 d2, gs = [d0, d1, d2]
  | [d0, d1, d2], _, _ => ⟨d0, d1, d2, rfl⟩
  | [], _, h => h.elim
  | [_], _, ⟨_, _, _, _, _, _, _, _, _, _, h, _⟩ => h.elim
  | [_, _], _, ⟨_, _, _, _, _, _, _, _, _, _, ⟨_, _, _, _, _, _, _, _, _, _, h, _⟩, _⟩ => h.elim
  | _ :: _ :: _ :: _ :: _, _, ⟨_, _, _, _, _, _, _, _, _, _, ⟨_, _, _, _, _, _, _, _, _, _, ⟨_, _, _, _, _, _, _, _, _, _, h, _⟩, _⟩, _⟩ => h.elim

set_option maxRecDepth 100000 in
theorem lifted (os : Os) (started : os.Started) (H : Type) (enc : TypeId × Value → H) :
    ReturnsInHanded {} Tryz.checked os 4 .any (fun w args => (Rows.fnLogSpec.pre enc Tryz.prog Tryz.f4 [] false w args ∧ laidMetH Tryz.prog Rows.fnLogRow.laid w) ∧ sizedMet enc Tryz.prog Tryz.f4 (OpenSpec.ofChange Rows.fnLogSpec) false w args)
      (Rows.fnLogSpec.post enc Tryz.prog Tryz.f4 false true false false) := by
  refine returnsInHanded_of_change_and (C := Tryz.checked) (X := fun w _ => laidMetH Tryz.prog Rows.fnLogRow.laid w) (fun _ _ _ hh h => h.of_heap hh) own started (by kernel_rfl) Tryz.func4
    (ChangeSpec.witness_shaped (enc := enc) (C := Tryz.checked) (os := os) (X := fun w _ => laidMetH Tryz.prog Rows.fnLogRow.laid w) false (laidWorld os) #[.slice none 0 0, .slice none 0 0] 8 rfl (World.shaped_of_RefB (by kernel_rfl) (by kernel_rfl)) (by kernel_rfl) (by kernel_rfl) (by kernel_rfl) (laidWorld_met os _)) ?_
  intro W base args ds gs before hval0 hW _ _ hL _
  have hval : ∀ (j : Nat) t v, Tryz.f4.params[j]? = some t → args[j]? = some v → Value.okWide Tryz.prog W .any base t v := hval0
  have hW' := hW
  obtain ⟨p, q, hA0, hV, rfl, hfz, hnd⟩ := hW
  have hA : DataW.TrodAll enc Tryz.prog W 0 (fun _ => true) true Tryz.f4.params.toList args.toList ds p := hA0
  rw [Tryz.params4] at hA hval
  obtain ⟨v0, vs0, d0, ds0, p0, q0, hargs, rfl, rfl, h0, r0⟩ := trodAll_cons hA
  obtain ⟨v1, vs1, d1, ds1, p1, q1, rfl, rfl, rfl, h1, r1⟩ := trodAll_cons r0
  obtain ⟨rfl, rfl, rfl⟩ := trodAll_nil r1
  obtain rfl : args = #[v0, v1] := by cases args; simp_all
  obtain ⟨a0, len0, cap0, rfl⟩ := okWide_slice Tryz.underlying22 (hval 0 22 v0 rfl rfl)
  have k0 := h0
  have lt0 : ∀ x ∈ p0, x.block < W.heap.size := by obtain ⟨m, hm⟩ := k0; exact DataW.trod_lt m _ _ _ hm
  have b0 : Bytes W a0 len0 ∧ len0 ≤ maxLen := by
    obtain ⟨fuel, hf⟩ := h0
    rcases open_ints Tryz.underlying22 Tryz.underlying5 (by kernel_rfl) hf with ⟨hcs, _⟩ | ⟨x, l, c, zs, hcs, _, hl, hm, hz, _, hcell, hwz⟩
    · simp [Value.cells] at hcs
      obtain ⟨rfl, rfl, rfl⟩ := hcs
      exact ⟨fun h => absurd h (Nat.lt_irrefl 0), Nat.zero_le _⟩
    · simp [Value.cells] at hcs
      obtain ⟨rfl, rfl, rfl⟩ := hcs
      have hz' : zs.length = cap0 := by simpa using hz
      exact ⟨bytes_of (by omega) hcell hwz, by omega⟩
  obtain ⟨a1, len1, cap1, rfl⟩ := okWide_slice Tryz.underlying22 (hval 1 22 v1 rfl rfl)
  have k1 := h1
  have lt1 : ∀ x ∈ p1, x.block < W.heap.size := by obtain ⟨m, hm⟩ := k1; exact DataW.trod_lt m _ _ _ hm
  have b1 : Bytes W a1 len1 ∧ len1 ≤ maxLen := by
    obtain ⟨fuel, hf⟩ := h1
    rcases open_ints Tryz.underlying22 Tryz.underlying5 (by kernel_rfl) hf with ⟨hcs, _⟩ | ⟨x, l, c, zs, hcs, _, hl, hm, hz, _, hcell, hwz⟩
    · simp [Value.cells] at hcs
      obtain ⟨rfl, rfl, rfl⟩ := hcs
      exact ⟨fun h => absurd h (Nat.lt_irrefl 0), Nat.zero_le _⟩
    · simp [Value.cells] at hcs
      obtain ⟨rfl, rfl, rfl⟩ := hcs
      have hz' : zs.length = cap1 := by simpa using hz
      exact ⟨bytes_of (by omega) hcell hwz, by omega⟩
  have hg := handle_of_laid hL
  obtain ⟨aE, hE⟩ := sents_of_laid hL
  clear hA0 hval0
  refine (logFn a0 a1 len0 cap0 len1 cap1 aE W b0.1 b1.1 b0.2 b1.2 hg hE).mono fun e W' ⟨he, bel⟩ => ?_
  subst he
  have hv := Below.trodVars laidOut bel rowed hV
  obtain ⟨_, _, _, rfl⟩ := many hV
  exact ⟨_, rfl, _, _, _, [], _, _, hW', trodAll_mk1 (shut_bool Tryz.underlying4 _), (trodAll_cons_mk (Below.trod laidOut (by kernel_rfl) (of_decide_eq_true (by kernel_rfl)) k0 bel lt0) (trodAll_cons_mk (Below.trod laidOut (by kernel_rfl) (of_decide_eq_true (by kernel_rfl)) k1 bel lt1) trodAll_mk0)), hv, bel.frame _, fun h => by cases h⟩

theorem over : Rows.fnLogRow.holds Tryz.pinned (OpenSpec.ofChange Rows.fnLogSpec) :=
  OpenClaim.holds_of_wide 4 Tryz.f4 rfl rfl rfl rfl rfl rfl rfl ⟨rfl, rfl, rfl, rfl, rfl⟩ rfl rfl rfl rfl rfl (by kernel_rfl) Tryz.func4 (by kernel_rfl)
    (of_decide_eq_true (by kernel_rfl)) (by unfold Func.isWrapper; rw [if_neg (of_decide_eq_false (by kernel_rfl))]; exact ⟨rfl, rfl⟩)
    (fun os started H enc _ => lifted os started H enc)

theorem proved : Rows.FnLogCardSaid :=
  Claim7.holds_tied_plain_at .later [] [.handle, .sentinel, .sentinel, .sentinel] true (true, "795f7fe87388bd541017d362818365748b654a187b7ef53716a3712542b86e59") true
    over (fun _ h => by cases h) (by kernel_rfl) (fun _ h => by cases h) fnLog_row_tie rfl ⟨rfl, rfl⟩ (by kernel_rfl) rfl
    (fun f fn hf hfn => by
      obtain rfl : f = 4 := Option.some.inj ((show Tryz.prog.funcNamed "loop.example/g00668/laws.FnLog" = some 4 by kernel_rfl).symm.trans hf) |>.symm
      obtain rfl : fn = Tryz.f4 := (Option.some.inj (Tryz.func4.symm.trans hfn)).symm
      exact ⟨by kernel_rfl, fun j t ht => by
        rw [Tryz.params4] at ht
        have hm : t ∈ [22, 22] := by simpa using Array.mem_of_getElem? ht
        have hall : ([22, 22].all fun u => !Tryz.prog.wantsStandIn u) = true := by kernel_rfl
        exact (show Tryz.prog.wantsStandIn t = false by simpa using List.all_eq_true.1 hall t hm)⟩)
    (by kernel_rfl)
#print axioms proved
end Go.Proofs.YthkbllkhomjmbaaGreatDoor.fnLog
