/- The program's stepAt. -/
import Derived.Test.YtcpblmpapkhppaaGreatDoorKUns
import Derived.Test.YtcpblmpapkhppaaGreatDoorBIRead
import Derived.Test.YtcpblmpapkhppaaGreatDoorKM
namespace Go.Proofs.YtcpblmpapkhppaaGreatDoor
open Go.RowKit

/-- The variables of the errors that reading a package may give. -/
def pkG : List Nat := sealG ++ [3, 7, 4, 5]
theorem pkG_lt {i : Nat} (h : i < 7) : i < pkG.length := by simp [pkG, sealG]; omega
theorem Sent.s3 {w : World} {a : Nat → Addr} (h : Sent w pkG a) : w.cell? ⟨3, 0, none⟩ = some (.iface 221 (.pointer (some (a 3)))) := h.cell 3 (by simp [pkG, sealG])
theorem Sent.s4 {w : World} {a : Nat → Addr} (h : Sent w pkG a) : w.cell? ⟨7, 0, none⟩ = some (.iface 221 (.pointer (some (a 4)))) := h.cell 4 (by simp [pkG, sealG])
theorem Sent.s5 {w : World} {a : Nat → Addr} (h : Sent w pkG a) : w.cell? ⟨4, 0, none⟩ = some (.iface 221 (.pointer (some (a 5)))) := h.cell 5 (by simp [pkG, sealG])
theorem Sent.s6 {w : World} {a : Nat → Addr} (h : Sent w pkG a) : w.cell? ⟨5, 0, none⟩ = some (.iface 221 (.pointer (some (a 6)))) := h.cell 6 (by simp [pkG, sealG])
/-- "step" -/
def stepW : ByteArray := { data := #[115, 116, 101, 112] }
/-- "package" -/
def packW : ByteArray := { data := #[112, 97, 99, 107, 97, 103, 101] }
theorem Bx.k4 {w : World} {n : Nat} {T : TypeId} {a b c d : Value} (h : Bx w n T #[a, b, c, d]) : (w.cell? ⟨n, 0, none⟩ = some a ∧ w.cell? ⟨n, 1, none⟩ = some b ∧ w.cell? ⟨n, 2, none⟩ = some c ∧ w.cell? ⟨n, 3, none⟩ = some d) ∧ (w.frozen? ⟨n, 0, none⟩ = false ∧ w.frozen? ⟨n, 1, none⟩ = false ∧ w.frozen? ⟨n, 2, none⟩ = false ∧ w.frozen? ⟨n, 3, none⟩ = false) :=
  ⟨⟨h.q0, h.q1, h.q2, h.q3⟩, h.frozen 0, h.frozen 1, h.frozen 2, h.frozen 3⟩
theorem four_setK {w w' : World} {g : Nat} (h : Below g w w') (a b c d : Value) : Below g w ((((w'.setCell ⟨g, 0, none⟩ a).setCell ⟨g, 1, none⟩ b).setCell ⟨g, 2, none⟩ c).setCell ⟨g, 3, none⟩ d) :=
  (((h.setCell (p := ⟨g, 0, none⟩) (Nat.le_refl _) a).setCell (p := ⟨g, 1, none⟩) (Nat.le_refl _) b).setCell (p := ⟨g, 2, none⟩) (Nat.le_refl _) c).setCell (p := ⟨g, 3, none⟩) (Nat.le_refl _) d
set_option maxHeartbeats 1000000 in
theorem stepError_any (t : TypeId) (u : Value) (w : World) : Calls Tryz.prog 137 #[.iface t u] w fun e w' => e = .returned (eL stepW (.iface t u)) ∧ w = w' := by
  unfold eL stepW
  go_enter Tryz.func137, Tryz.ntmps137
  go_wp2_with fail
  go_ret
  exact ⟨rfl, rfl⟩
set_option maxHeartbeats 1000000 in
theorem packageError_any (t : TypeId) (u : Value) (w : World) : Calls Tryz.prog 74 #[.iface t u] w fun e w' => e = .returned (eL packW (.iface t u)) ∧ w = w' := by
  unfold eL packW
  go_enter Tryz.func74, Tryz.ntmps74
  go_wp2_with fail
  go_ret
  exact ⟨rfl, rfl⟩
/-- What stepAt gives. -/
def stepAtV (a : Nat → Addr) (s : ByteArray) (x : Int) : Value :=
  if (textR s x).2.2 = 0 then (if (rdR (textR s x).1).2 = 0 then .tuple #[.agg #[.int .i64 (rdR (textR s x).1).1.1, .int .i64 (rdR (textR s x).1).1.2.1, .int .i64 (rdR (textR s x).1).1.2.2.1, .string (rdR (textR s x).1).1.2.2.2], .int .i64 (textR s x).2.1, .nilIface]
    else .tuple #[.agg #[.int .i64 0, .int .i64 0, .int .i64 0, .string { data := #[] }], .int .i64 0, eL stepW (eP (a 4))]) else .tuple #[.agg #[.int .i64 0, .int .i64 0, .int .i64 0, .string { data := #[] }], .int .i64 0, eL stepW (eM (textR s x).2.2)]
set_option maxRecDepth 100000 in
set_option maxHeartbeats 4000000 in
theorem stepAt_any (s : ByteArray) (x : Int) (a : Nat → Addr) (w : World) (hs : s.size ≤ maxLen) (hx : x ≤ 9223372036854775807) (hL : Laid w) (hE : Sent w pkG a) :
    Calls Tryz.prog 110 #[.string s, .int .i64 x] w fun e w' => e = .returned (stepAtV a s x) ∧ Below w.heap.size w w' := by
  have HT := Lib.hid (fun w hL => implTextR s x w hs hx hL)
  have hsz := textR_size s x
  obtain ⟨T, hT⟩ : ∃ T, T = textR s x := ⟨_, rfl⟩
  obtain ⟨V, hV⟩ : ∃ V, V = stepAtV a s x := ⟨_, rfl⟩
  rw [← hV]
  unfold stepAtV at hV
  rw [← hT] at HT hsz hV
  clear hT
  obtain ⟨d, q, c⟩ := T
  dsimp only at HT hsz hV
  have HR := Lib.hid (fun w hL => implStepRead d w (by omega) hL)
  obtain ⟨R, hR⟩ : ∃ R, R = rdR d := ⟨_, rfl⟩
  rw [← hR] at HR hV
  clear hR
  obtain ⟨⟨k, t, f, dd⟩, rc⟩ := R
  unfold soV at HR
  unfold textV at HT
  dsimp only at HR hV
  have HV := Lib.hid hV
  clear hV
  have HL := Lib.hid hL
  have HE := Lib.hid hE
  clear hL hE
  have Y0 := Lib.hid (bx_new w 59 #[.int .i64 0, .int .i64 0, .int .i64 0, .string { data := #[] }])
  have B0 := Lib.hid (below_alloc1 w (.cells #[.int .i64 0, .int .i64 0, .int .i64 0, .string { data := #[] }] 59))
  have z0 := size_alloc1 w (.cells #[.int .i64 0, .int .i64 0, .int .i64 0, .string { data := #[] }] 59)
  go_enter Tryz.func110, Tryz.ntmps110
  go_wp2_with fail
  generalize w.alloc (.cells #[.int .i64 0, .int .i64 0, .int .i64 0, .string { data := #[] }] 59) = W0 at *
  refine (HT.out W0 (HL.out.below B0.out)).mono ?_
  rintro e w1 ⟨rfl, hb⟩
  have b1 := below_alloc1 w1 (.cells #[.string d, .int .i64 q, .int .i64 c] 50)
  have z1 := size_alloc1 w1 (.cells #[.string d, .int .i64 q, .int .i64 c] 50)
  have hbb := below_more hb b1
  have hne : w1.heap.size ≠ w.heap.size := by have := hb.size; omega
  have T1 := Lib.hid (bx_new w1 50 #[.string d, .int .i64 q, .int .i64 c])
  have Y1 := Lib.hid (Y0.out.next hbb)
  have B1 := Lib.hid (below_more B0.out hbb)
  clear hb hbb b1 HT Y0 B0
  obtain ⟨⟨y0, y1, y2, y3⟩, f0, f1, f2, f3⟩ := Y1.out.k4
  by_cases hc : c = 0
  · subst hc
    have hv1 := HV.out.trans (if_pos rfl)
    have HV1 := Lib.hid hv1
    clear HV hv1
    go_wp2_with fail
    clear y0 y1 y2 y3 f0 f1 f2 f3
    generalize w1.alloc (.cells #[.string d, .int .i64 q, .int .i64 0] 50) = W1 at *
    generalize w1.heap.size = n1 at *
    refine (HR.out W1 (HL.out.below B1.out)).mono ?_
    rintro e w2 ⟨rfl, hb⟩
    have b2 := below_alloc1 w2 (.cells #[.int .i64 k, .int .i64 t, .int .i64 f, .string dd, .int .i64 rc] 61)
    have hbb := below_more hb b2
    have S2 := Lib.hid (bx_new w2 61 #[.int .i64 k, .int .i64 t, .int .i64 f, .string dd, .int .i64 rc])
    have Y2 := Lib.hid (Y1.out.next hbb)
    have T2 := Lib.hid (T1.out.next hbb)
    have B2 := Lib.hid (below_more B1.out hbb)
    have E2 := Lib.hid (HE.out.next B2.out)
    clear hb hbb b2 HR Y1 B1 T1
    obtain ⟨⟨y0, y1, y2, y3⟩, f0, f1, f2, f3⟩ := Y2.out.k4
    obtain ⟨s0, s1, s2, s3, s4⟩ := S2.out.s0
    have t1 := T2.out.t1
    by_cases hr : rc = 0
    · subst hr
      have hv2 := HV1.out.trans (if_pos rfl)
      clear HV1
      subst hv2
      have t1s := ((((T2.out.other ⟨w.heap.size, 0, none⟩ (.int .i64 k) hne).other ⟨w.heap.size, 1, none⟩ (.int .i64 t) hne).other ⟨w.heap.size, 2, none⟩ (.int .i64 f) hne).other ⟨w.heap.size, 3, none⟩ (.string dd) hne).t1
      have SC := Lib.hid (show (w2.alloc (.cells #[.int .i64 k, .int .i64 t, .int .i64 f, .string dd, .int .i64 0] 61)).cell? ⟨w2.heap.size, 0, none⟩ = some (.int .i64 k) from s0)
      go_wp2_with fail
      go_region
      all_goals (
        go_wp2_with fail
        refine bodyPost_ret (v := .tuple #[.agg #[.int .i64 k, .int .i64 t, .int .i64 f, .string dd], .int .i64 q, .nilIface]) (by simp [results, Tryz.results110, go_sem, y0, y1, y2, y3]) rfl ⟨rfl, ?_⟩
        first | exact four_setK B2.out _ _ _ _ | exact four_setK B2.out.drew _ _ _ _ | exact (four_setK B2.out _ _ _ _).drew)
    · have hv2 := HV1.out.trans (if_neg hr)
      clear HV1
      unfold eL eP at hv2
      subst hv2
      have p4 := E2.out.s4
      have d1 : (rc != 0) = true := by simpa using hr
      go_wp2_with fail
      refine (stepError_any _ _ _).mono ?_
      rintro e w3 ⟨rfl, rfl⟩
      go_wp2_with fail
      refine bodyPost_ret (v := .tuple #[.agg #[.int .i64 0, .int .i64 0, .int .i64 0, .string { data := #[] }], .int .i64 0, .iface 127 (.agg #[.string stepW, .iface 221 (.pointer (some (a 4)))])]) (by simp [eL, results, Tryz.results110, go_sem, y0, y1, y2, y3]) rfl ⟨rfl, ?_⟩
      exact four_setK B2.out _ _ _ _
  · have hv2 := HV.out.trans (if_neg hc)
    clear HV
    unfold eL eM at hv2
    subst hv2
    have d1 : (c != 0) = true := by simpa using hc
    have t2 := T1.out.t2
    go_wp2_with fail
    refine (stepError_any _ _ _).mono ?_
    rintro e w3 ⟨rfl, rfl⟩
    go_wp2_with fail
    refine bodyPost_ret (v := .tuple #[.agg #[.int .i64 0, .int .i64 0, .int .i64 0, .string { data := #[] }], .int .i64 0, .iface 127 (.agg #[.string stepW, .iface 130 (.agg #[.int .i64 c])])]) (by simp [eL, results, Tryz.results110, go_sem, y0, y1, y2, y3]) rfl ⟨rfl, ?_⟩
    exact four_setK B1.out _ _ _ _
end Go.Proofs.YtcpblmpapkhppaaGreatDoor
