/- The program's fateOf and openFlash.crash. -/
import Derived.Test.YtkeimgglikdbfaaISync
import Derived.Test.YtkeimgglikdbfaaIFSync
import Derived.Test.YtkeimgglikdbfaaITorn
import Derived.Test.YtkeimgglikdbfaaSCrash
namespace Go.Proofs.Ytkeimgglikdbfaa
open Go.RowKit

set_option maxHeartbeats 1000000 in
set_option maxRecDepth 100000 in
theorem implFate (fv : Value) (fs : List Int) (k : Nat) (w : World) (h : Rd w fv fs.length 1 (ints fs)) (hn : fs.length ≤ 1048576) (hk : k ≤ 1048576) :
    Calls Try.prog 48 #[fv, .int .i64 (k : Int)] w fun e w' => e = .returned (.int .i64 (fs.getD k 0)) ∧ w' = w := by
  obtain ⟨a, c, rfl, -⟩ := id h.2
  by_cases hlt : k < fs.length
  · obtain ⟨b, off, rfl, hbl, hc⟩ := h.get (by omega)
    have hcell : w.cell? ⟨b, off + k, none⟩ = some (.int .i64 fs[k]) := by rw [hc k (by omega), ints_at _ _ hlt]
    have e : fs.getD k 0 = fs[k] := by simp [hlt]
    rw [e]
    have e0 : (k : Int) < (fs.length : Int) := by omega
    have e1 : (0 : Int) ≤ (k : Int) := by omega
    clear h hc e
    go_enter Try.func48, Try.ntmps48
    go_wp2_with fail
    go_ret
    exact ⟨rfl, rfl⟩
  · have e : fs.getD k 0 = 0 := by rw [List.getD_eq_getElem?_getD, List.getElem?_eq_none (by omega)]; rfl
    rw [e]
    have d0 : decide ((k : Int) < (fs.length : Int)) = false := decide_eq_false (by omega)
    clear h e
    go_enter Try.func48, Try.ntmps48
    go_wp2_with fail
    go_ret
    exact ⟨rfl, rfl⟩

theorem torn_size (a b : ByteArray) (f : Int) (ha : a.size ≤ 96) (hb : b.size ≤ 96) : (torn a b f).size ≤ 96 := by
  unfold torn
  split
  · simp
  · split
    · exact ha
    · split
      · exact hb
      · split
        · exact hb
        · rw [ByteArray.size_extract]; omega
def tornAt (F : FM) (fs : List Int) (k : Nat) : ByteArray := torn (F.sec.getD (dirAt F k).1.toNat ByteArray.empty) (dirAt F k).2 (fs.getD k 0)
/-- The unsynced writes when the first k have met their fates. -/
def crM (F : FM) (fs : List Int) : Nat → Int → Option ByteArray
  | 0 => mapOf F.dir
  | k + 1 => upd (crM F fs k) (dirAt F k).1 (tornAt F fs k)
theorem dirAt_get (F : FM) (k : Nat) (h : k < F.dir.length) : dirAt F k = F.dir[k] := by simp [dirAt, h]
theorem crM_miss (F : FM) (fs : List Int) (x : Int) : ∀ k, (∀ j, j < k → (dirAt F j).1 ≠ x) → crM F fs k x = mapOf F.dir x
  | 0, _ => rfl
  | k + 1, h => by
    show upd _ _ _ x = _
    unfold upd
    rw [if_neg (fun e => h k (by omega) e.symm)]
    exact crM_miss F fs x k (fun j hj => h j (by omega))
theorem crM_next {F : FM} (fs : List Int) (hr : Right F) (k : Nat) (h : k < F.dir.length) : crM F fs k F.dir[k].1 = some F.dir[k].2 := by
  rw [crM_miss F fs _ k (fun j hj => by rw [dirAt_get F j (by omega)]; exact hr.once j k h hj)]
  exact mapOf_hit F.dir hr.once k h
theorem crM_hit {F : FM} (fs : List Int) (hr : Right F) (j : Nat) : ∀ k, k ≤ F.dir.length → (hj : j < k) → (hl : j < F.dir.length) → crM F fs k F.dir[j].1 = some (tornAt F fs j)
  | 0, _, hj, _ => by omega
  | k + 1, hk, hj, hl => by
    show upd _ _ _ _ = _
    unfold upd
    rw [dirAt_get F k (by omega)]
    by_cases e : j = k
    · subst e; rw [if_pos rfl]
    · rw [if_neg (hr.once j k (by omega) (by omega))]
      exact crM_hit fs hr j k (by omega) (by omega) hl
theorem crM_some {F : FM} (fs : List Int) (hr : Right F) (x : Int) (hx : (mapOf F.dir x).isSome = true) : ∀ k, (crM F fs k x).isSome = true
  | 0 => hx
  | k + 1 => by
    show (upd _ _ _ x).isSome = true
    unfold upd
    split
    · rfl
    · exact crM_some fs hr x hx k
theorem crM_all {F : FM} (fs : List Int) (hr : Right F) : syncS (crM F fs F.dir.length) F.sec (F.dir.map (·.1)) = crashL F fs F.dir.length := by
  have : ∀ k, k ≤ F.dir.length → syncS (crM F fs F.dir.length) F.sec ((F.dir.map (·.1)).take k) = crashL F fs k := by
    intro k
    induction k with
    | zero => intro _; rfl
    | succ k ih =>
      intro hk
      have hk' : k < F.dir.length := by omega
      have h0 := hr.at0 k hk'
      have h1 := hr.at1 k hk'
      have hs : F.dir[k].1.toNat < F.sec.length := by omega
      rw [syncS_step _ _ _ k (by simpa using hk') (tornAt F fs k) (by simpa using crM_hit fs hr k F.dir.length (Nat.le_refl _) hk' hk'), ih (by omega), crashL_step F fs k hk' hs]
      unfold tornAt
      rw [dirAt_get F k hk']
      simp [hs]
  have := this F.dir.length (Nat.le_refl _)
  rwa [List.take_of_length_le (by simp)] at this
def CrRel (F : FM) (fs : List Int) (w : World) (lo pb mb N : Nat) (sv ov : Value) (i : Value) (wr : World) : Prop :=
  ∃ k : Nat, k ≤ F.dir.length ∧ i = .int .i64 k ∧ OF wr lo pb mb (N + k) sv ov F.sec (crM F fs k) (F.dir.map (·.1)) ∧ Below lo w wr

set_option maxHeartbeats 4000000 in
set_option maxRecDepth 100000 in
theorem implCrashO (lo pb mb N : Nat) (sv ov : Value) (F : FM) (fv : Value) (fs : List Int) (w0 w : World) (h : OF w lo pb mb N sv ov F.sec (mapOf F.dir) (F.dir.map (·.1))) (hr : Right F) (hN : N ≤ 1000)
    (hv : Rd w0 fv fs.length 1 (ints fs)) (hlo : w0.heap.size ≤ lo) (hbw0 : Below w0.heap.size w0 w) (hn : fs.length ≤ 1048576) (hfs : ∀ f ∈ fs, -9223372036854775808 ≤ f ∧ f ≤ 9223372036854775807) :
    Calls Try.prog 37 #[.pointer (some ⟨pb, 0, none⟩), fv] w fun e w' => e = .returned (.tuple #[]) ∧ OF w' lo pb mb (N + F.dir.length) sv (.slice none 0 0) (crashL F fs F.dir.length) (cutL (crM F fs F.dir.length) (F.dir.map (·.1))) [] ∧ Below lo w w' := by
  obtain ⟨l0, l1, l2⟩ : 1 ≤ F.sec.length ∧ F.sec.length ≤ 40 ∧ F.dir.length ≤ 40 := ⟨hr.least, hr.most, Nat.le_trans hr.dirty hr.most⟩
  obtain ⟨a, c, rfl, -⟩ := id h.sec.2
  obtain ⟨b, off, rfl, -⟩ := h.sec.get (by omega)
  obtain ⟨ao, co, rfl⟩ := h.form
  obtain ⟨af, cf, rfl, -⟩ := id hv.2
  have hkl : (F.dir.map (·.1)).length = F.dir.length := by simp
  rw [hkl] at h
  have H := Lib.hid h
  have HRT := Lib.hid hr
  have HV := Lib.hid hv
  have HB0 := Lib.hid hbw0
  have HFS := Lib.hid hfs
  have c2 := h.c2
  clear h hr hv hbw0 hfs
  go_enter Try.func37, Try.ntmps37
  go_wp2_with fail
  go_loopw [11] (fun i wr => CrRel F fs w lo pb mb N (.slice (some ⟨b, off, none⟩) F.sec.length c) (.slice ao F.dir.length co) i wr) (fun i _ => F.dir.length - (intOf i).toNat)
  case atStart => exact ⟨0, by omega, rfl, H.out, Below.refl _ _⟩
  case round =>
    clear c2
    obtain ⟨k, hk, rfl, hof, hbw⟩ := hrel
    by_cases hlt : k < F.dir.length
    · have x0 := HRT.out.at0 k hlt
      have x1 := HRT.out.at1 k hlt
      have hs' := crM_next fs HRT.out k hlt
      have hl := look_yes hof.map F.dir[k].1 F.dir[k].2 hs' (by omega) (by omega) false
      simp only [Bool.false_eq_true, if_false] at hl
      have hl' : (Instr.lookup 77 (.map (some mb)) (.int .i64 F.dir[k].1) false).run Try.prog wr.drew = .ok (.string F.dir[k].2) wr.drew := by
        have := look_yes hof.drew.map F.dir[k].1 F.dir[k].2 hs' (by omega) (by omega) false
        simpa only [Bool.false_eq_true, if_false] using this
      have f0 := hof.c0
      have f1 := hof.c1
      obtain ⟨g, rfl⟩ : ∃ g, ao = some ⟨g, 0, none⟩ := by
        rcases hof.row.2 with ⟨_, e0⟩ | ⟨g, cap, _, e, _⟩
        · omega
        · simp at e; exact ⟨g, e.1⟩
      have ho : wr.cell? ⟨g, k, none⟩ = some (.int .i64 F.dir[k].1) := by
        have hrow := hof.row
        rw [hkl] at hrow
        rw [hrow.cellAt k (by omega), ints_at _ _ (by simpa using hlt)]; simp
      obtain ⟨b', off', e, -, -, hcs, -⟩ := hof.sec.get (by omega)
      simp only [Option.some.injEq, Addr.mk.injEq, and_true] at e
      obtain ⟨rfl, rfl⟩ := e
      have hold : wr.cell? ⟨b, off + F.dir[k].1.toNat, none⟩ = some (.string (F.sec[F.dir[k].1.toNat]'(by omega))) := by rw [hcs _ (by omega), strs_at _ _ (by omega)]
      have e0 : (k : Int) < (F.dir.length : Int) := by omega
      have e1 : (0 : Int) ≤ (k : Int) := by omega
      have e2 : F.dir[k].1 < (F.sec.length : Int) := by omega
      have u0 := HRT.out.fits F.dir[k].1.toNat (by omega)
      have u1 := HRT.out.data k hlt
      have RV := Lib.hid (HV.out.below (HB0.out.trans (hbw.mono hlo)) (Nat.le_refl _))
      have eT : tornAt F fs k = torn (F.sec[F.dir[k].1.toNat]'(by omega)) F.dir[k].2 (fs.getD k 0) := by
        unfold tornAt
        rw [dirAt_get F k hlt]
        simp [show F.dir[k].1.toNat < F.sec.length by omega]
      have hin : -9223372036854775808 ≤ fs.getD k 0 ∧ fs.getD k 0 ≤ 9223372036854775807 := by
        by_cases hkf : k < fs.length
        · have : fs.getD k 0 = fs[k] := by simp [hkf]
          rw [this]; exact HFS.out _ (List.getElem_mem hkf)
        · have : fs.getD k 0 = 0 := by rw [List.getD_eq_getElem?_getD, List.getElem?_eq_none (by omega)]; rfl
          rw [this]; decide
      have hsz : (tornAt F fs k).size ≤ maxLen := by
        rw [eT]
        exact Nat.le_trans (torn_size _ _ _ u0 u1) (by simp [maxLen])
      have ET := Lib.hid eT
      have SZ := Lib.hid hsz
      have HIN := Lib.hid hin
      have OD := Lib.hid hof.drew
      have BD := Lib.hid hbw.drew
      have HS' := Lib.hid hs'
      clear hof hbw hcs eT hs' hin hsz
      go_wp2_with fail
      go_still_tail 19, (by kernel_rfl)
      still_call (implFate _ fs k _ RV.out hn (by omega))
      still_call (implTorn _ _ (fs.getD k 0) _ (by unfold maxLen; omega) (by unfold maxLen; omega) HIN.out.1 HIN.out.2)
      repeat still_step
      refine wpStill_nil ?_
      change wpList _ _ _ _ _ wr.drew
      rw [← ET.out]
      go_wp2_with fail
      refine (write_hit _ _ _ _ _ _ _ _ _ F.dir[k].1 F.dir[k].2 (tornAt F fs k) _ OD.out HS'.out (by omega) (by omega) SZ.out (by unfold maxLen; omega)).mono ?_
      rintro e w1 ⟨rfl, ho1, hb1⟩
      have HO := Lib.hid (show OF w1 lo pb mb (N + (k + 1)) (.slice (some ⟨b, off, none⟩) F.sec.length c) (.slice (some ⟨g, 0, none⟩) F.dir.length co) F.sec (crM F fs (k + 1)) (F.dir.map (·.1)) by
        show OF w1 lo pb mb (N + (k + 1)) _ _ F.sec (upd (crM F fs k) (dirAt F k).1 (tornAt F fs k)) _
        rw [dirAt_get F k hlt]; exact ho1)
      have HB := Lib.hid (BD.out.trans hb1)
      clear ho1 hb1
      go_wp2_with fail
      go_roundw
      case rel =>
        have fin : CrRel F fs w lo pb mb N (.slice (some ⟨b, off, none⟩) F.sec.length c) (.slice (some ⟨g, 0, none⟩) F.dir.length co) (.int .i64 ((k : Int) + 1)) w1 := ⟨k + 1, by omega, by go_num, HO.out, HB.out⟩
        first | exact fin | ((repeat apply Exists.intro); exact ⟨fin, rfl⟩)
      case measure => simp [intOf]; omega
    · obtain rfl : k = F.dir.length := by omega
      have HO := Lib.hid hof
      have HB := Lib.hid hbw
      clear hof hbw
      go_wp2_with fail
      refine (implSync _ _ _ _ _ _ _ _ _ wr HO.out (by omega) (by omega) (by simp; omega) (fun x hx => ⟨crM_some fs HRT.out x (mem_in HRT.out x hx).1 _, (mem_in HRT.out x hx).2⟩) (keys_once HRT.out)).mono ?_
      rintro e w1 ⟨rfl, ho1, hb1⟩
      rw [crM_all fs HRT.out] at ho1
      have HO1 := Lib.hid ho1
      have HB1 := Lib.hid (HB.out.trans hb1)
      clear ho1 hb1
      go_wp2_with fail
      go_end0
      exact ⟨rfl, HO1.out, HB1.out⟩
end Go.Proofs.Ytkeimgglikdbfaa
