/- The errors of a seal: where they lie; the program's unsealed, sealedCode and Unseal. -/
import Derived.Test.YthkbllkhomjmbaaDoorKIs
import Derived.Test.YthkbllkhomjmbaaDoorUnseal
import Derived.Deep.RegionHeld3
import Derived.Deep.DrawnRows
namespace Go.Proofs.YthkbllkhomjmbaaDoor
open Go.RowKit

/-- Sentinels, each behind its variable, apart from each other. -/
structure Sent (w : World) (gs : List Nat) (a : Nat → Addr) : Prop where
  cell : ∀ i (h : i < gs.length), w.cell? ⟨gs[i], 0, none⟩ = some (eP (a i))
  row : ∀ i, i < gs.length → ∃ c t, w.heap[(a i).block]? = some (.cells c t (0, 0))
  ne : ∀ i j, i < gs.length → j < gs.length → i ≠ j → a i ≠ a j
theorem cell_lt {w : World} {p : Addr} {v : Value} (h : w.cell? p = some v) : p.block < w.heap.size := by
  rcases Nat.lt_or_ge p.block w.heap.size with h' | h'
  · exact h'
  · simp [World.cell?, Array.getElem?_eq_none h'] at h
theorem Sent.next {w w' : World} {gs : List Nat} {a : Nat → Addr} (h : Sent w gs a) (hb : Below w.heap.size w w') : Sent w' gs a :=
  ⟨fun i hi => (hb.cell (cell_lt (h.cell i hi))).trans (h.cell i hi), fun i hi => by
    obtain ⟨c, t, e⟩ := h.row i hi
    exact ⟨c, t, (hb.block _ (Array.getElem?_eq_some_iff.1 e).1).trans e⟩, h.ne⟩
theorem Sent.one {w : World} {gs : List Nat} {a : Nat → Addr} (h : Sent w gs a) {n B : Nat} (v : Value) (hB : ∀ i (h : i < gs.length), gs[i] < B) (hr : ∀ i, i < gs.length → (a i).block < B) (hn : B ≤ n) (j : Nat) : Sent (w.setCell ⟨n, j, none⟩ v) gs a :=
  ⟨fun i hi => by rw [World.cell?_setCell_other (h := by intro e; have := congrArg Addr.block e; simp at this; have := hB i hi; omega)]; exact h.cell i hi, fun i hi => by
    obtain ⟨c, t, e⟩ := h.row i hi
    exact ⟨c, t, (Below.heap_setCell w ⟨n, j, none⟩ v _ (by have := hr i hi; simp; omega)).trans e⟩, h.ne⟩
def sealG : List Nat := [1, 2, 3]
theorem Sent.s0 {w : World} {m : List Nat} {a : Nat → Addr} (h : Sent w (sealG ++ m) a) : w.cell? ⟨1, 0, none⟩ = some (.iface 178 (.pointer (some (a 0)))) := h.cell 0 (by simp [sealG])
theorem Sent.s1 {w : World} {m : List Nat} {a : Nat → Addr} (h : Sent w (sealG ++ m) a) : w.cell? ⟨2, 0, none⟩ = some (.iface 178 (.pointer (some (a 1)))) := h.cell 1 (by simp [sealG])
theorem Sent.s2 {w : World} {m : List Nat} {a : Nat → Addr} (h : Sent w (sealG ++ m) a) : w.cell? ⟨3, 0, none⟩ = some (.iface 178 (.pointer (some (a 2)))) := h.cell 2 (by simp [sealG])
theorem seal_lt {m : List Nat} {i : Nat} (h : i < 3) : i < (sealG ++ m).length := by simp [sealG]; omega
/-- Which error a code is. -/
def errI (c : Int) : Nat := if c = 2 then 0 else if c = 4 then 1 else 2
/-- What unsealed gives. -/
def unsV (a : Nat → Addr) (R : ByteArray × Int) : Value := if R.2 = 0 then .tuple #[.string R.1, .nilIface] else .tuple #[.string ⟨#[]⟩, eP (a (errI R.2))]

set_option maxHeartbeats 1000000 in
theorem unsealed_any (s : ByteArray) (m : List Nat) (a : Nat → Addr) (w : World) (hs : s.size ≤ maxLen) (hE : Sent w (sealG ++ m) a) :
    Calls Tryd.prog 70 #[.string s] w fun e w' => e = .returned (unsV a (unsealT s)) ∧ Below w.heap.size w w' := by
  have p0 := hE.s0
  have p1 := hE.s1
  have p2 := hE.s2
  have HE := Lib.hid hE
  clear hE
  unfold maxLen at hs
  by_cases h8 : 8000 < s.size
  · rw [show unsealT s = (⟨#[]⟩, 2) by unfold unsealT; rw [if_pos h8]]
    rw [show unsV a (⟨#[]⟩, 2) = .tuple #[.string ⟨#[]⟩, eP (a 0)] from rfl]
    unfold eP
    have d0 : decide ((8000 : Int) < (s.size : Int)) = true := decide_eq_true (by omega)
    go_enter Tryd.func70, Tryd.ntmps70
    go_wp2_with fail
    go_quiet (fail)
    go_wp2_with fail
    exact bodyPost_ret (v := .tuple #[.string ⟨#[]⟩, .iface 178 (.pointer (some (a 0)))]) (by simp [results, Tryd.results70, go_sem]) rfl ⟨rfl, below_drewN (Below.refl _ _) nq⟩
  have d0 : decide ((8000 : Int) < (s.size : Int)) = false := decide_eq_false (by omega)
  by_cases h4 : s.size < 4
  · rw [show unsealT s = (⟨#[]⟩, 4) by unfold unsealT; rw [if_neg h8, if_pos h4]]
    rw [show unsV a (⟨#[]⟩, 4) = .tuple #[.string ⟨#[]⟩, eP (a 1)] from rfl]
    unfold eP
    have d1 : decide ((s.size : Int) < 4) = true := decide_eq_true (by omega)
    go_enter Tryd.func70, Tryd.ntmps70
    go_wp2_with fail
    go_quiet (fail)
    go_wp2_with fail
    exact bodyPost_ret (v := .tuple #[.string ⟨#[]⟩, .iface 178 (.pointer (some (a 1)))]) (by simp [results, Tryd.results70, go_sem]) rfl ⟨rfl, below_drewN (Below.refl _ _) nq⟩
  have d1 : decide ((s.size : Int) < 4) = false := decide_eq_false (by omega)
  have hn : (s.size : Int) - 4 = ((s.size - 4 : Nat) : Int) := by omega
  obtain ⟨n, hnn⟩ : ∃ n, n = s.size - 4 := ⟨_, rfl⟩
  have hu : unsealT s = if ((fourS (crcF 0 (s.extract 0 n))).toList == (s.extract n s.size).toList) = true then (s.extract 0 n, 0) else (⟨#[]⟩, 5) := by
    unfold unsealT; rw [if_neg h8, if_neg h4, hnn]
  rw [← hnn] at hn
  have b0 : (0 : Int) ≤ (n : Int) := by omega
  have b1 : (n : Int) ≤ (s.size : Int) := by omega
  have b2 : n ≤ s.size := by omega
  have HZ := Lib.hid (show (s.extract 0 n).size ≤ 8000 by simp; omega)
  clear hnn
  cases hc : ((s.extract n s.size).toList == (fourS (crcF 0 (s.extract 0 n))).toList) with
  | true =>
    rw [hu, if_pos (by rw [BEq.comm]; exact hc)]
    rw [show unsV a (s.extract 0 n, 0) = .tuple #[.string (s.extract 0 n), .nilIface] from rfl]
    clear hu
    have hc2 : ((s.extract n s.size).toList != (fourS (crcF 0 (s.extract 0 n))).toList) = false := by simp [bne, hc]
    go_enter Tryd.func70, Tryd.ntmps70
    go_wp2_with fail
    go_region_held3 (fun _ => True) (trivial) ((go_at_call 67; refine (sum_any _ _ HZ.out).mono ?_; rintro e w' ⟨rfl, hb⟩))
    have HB := Lib.hid ((Below.refl w.heap.size w).drew.trans hb)
    clear hb
    go_wp2_with fail
    exact bodyPost_ret (v := .tuple #[.string (s.extract 0 n), .nilIface]) (by simp [results, Tryd.results70, go_sem]) rfl ⟨rfl, HB.out⟩
  | false =>
    rw [hu, if_neg (by rw [BEq.comm]; rw [hc]; simp)]
    rw [show unsV a (⟨#[]⟩, 5) = .tuple #[.string ⟨#[]⟩, eP (a 2)] from rfl]
    clear hu
    have hc2 : ((s.extract n s.size).toList != (fourS (crcF 0 (s.extract 0 n))).toList) = true := by simp [bne, hc]
    unfold eP
    go_enter Tryd.func70, Tryd.ntmps70
    go_wp2_with fail
    go_region_held3 (fun _ => True) (trivial) ((go_at_call 67; refine (sum_any _ _ HZ.out).mono ?_; rintro e w' ⟨rfl, hb⟩))
    have hbb := (Below.refl w.heap.size w).drew.trans hb
    have p2' := (HE.out.next hbb).s2
    have HB := Lib.hid hbb
    clear hb hbb p0 p1 p2
    go_wp2_with fail
    go_quiet (fail)
    go_wp2_with fail
    exact bodyPost_ret (v := .tuple #[.string ⟨#[]⟩, .iface 178 (.pointer (some (a 2)))]) (by simp [results, Tryd.results70, go_sem]) rfl ⟨rfl, below_drewN HB.out nq⟩

/-- An error that is none of the seal's. -/
def NotSeal (v : Value) (a : Nat → Addr) (w : World) : Prop := ∀ j, j < 3 → ∀ w', Below w.heap.size w w' → Calls Tryd.prog 108 #[v, eP (a j)] w' fun e w'' => e = .returned (.bool false) ∧ Below w'.heap.size w' w''

set_option maxHeartbeats 1000000 in
theorem sealedCode_P0 (m : List Nat) (a : Nat → Addr) (w : World) (hE : Sent w (sealG ++ m) a) :
    Calls Tryd.prog 71 #[eP (a 0)] w fun e w' => e = .returned (.int .i64 2) ∧ Below w.heap.size w w' := by
  have H0 := Lib.hid hE
  have B0 := Lib.hid (Below.refl w.heap.size w)
  have p0 := hE.s0
  clear hE
  have RR := Lib.hid (fun (w : World) (h : Sent w (sealG ++ m) a) (i j : Nat) (hi : i < 3) (hj : j < 3) (hne : i ≠ j) => by
    obtain ⟨ca, ta, ha⟩ := h.row i (seal_lt hi)
    obtain ⟨cb, tb, hb⟩ := h.row j (seal_lt hj)
    exact is_Po (a i) (a j) w (h.ne i j (seal_lt hi) (seal_lt hj) hne) ca cb ta tb ha hb)
  have SS := Lib.hid (fun (w : World) => is_Ps (a 0) w)
  unfold eP at RR SS ⊢
  go_enter Tryd.func71, Tryd.ntmps71
  go_wp2_with fail
  refine (SS.out _).mono ?_
  rintro e w1 ⟨rfl, hb⟩
  have B1 := Lib.hid (B0.out.trans (hb.mono B0.out.size))
  clear hb p0 H0 B0
  go_wp2_with fail
  go_ret
  exact ⟨rfl, B1.out⟩

set_option maxHeartbeats 1000000 in
theorem sealedCode_L0 (s : ByteArray) (m : List Nat) (a : Nat → Addr) (w : World) (hE : Sent w (sealG ++ m) a) :
    Calls Tryd.prog 71 #[eL s (eP (a 0))] w fun e w' => e = .returned (.int .i64 2) ∧ Below w.heap.size w w' := by
  have H0 := Lib.hid hE
  have B0 := Lib.hid (Below.refl w.heap.size w)
  have p0 := hE.s0
  clear hE
  have RR := Lib.hid (fun (w : World) (h : Sent w (sealG ++ m) a) (i j : Nat) (hi : i < 3) (hj : j < 3) (hne : i ≠ j) => by
    obtain ⟨ca, ta, ha⟩ := h.row i (seal_lt hi)
    obtain ⟨cb, tb, hb⟩ := h.row j (seal_lt hj)
    exact is_LPo (a i) s (a j) w (h.ne i j (seal_lt hi) (seal_lt hj) hne) ca cb ta tb ha hb)
  have SS := Lib.hid (fun (w : World) => is_LPs (a 0) s w)
  unfold eL eP at RR SS ⊢
  go_enter Tryd.func71, Tryd.ntmps71
  go_wp2_with fail
  refine (SS.out _).mono ?_
  rintro e w1 ⟨rfl, hb⟩
  have B1 := Lib.hid (B0.out.trans (hb.mono B0.out.size))
  clear hb p0 H0 B0
  go_wp2_with fail
  go_ret
  exact ⟨rfl, B1.out⟩

set_option maxHeartbeats 1000000 in
theorem sealedCode_P1 (m : List Nat) (a : Nat → Addr) (w : World) (hE : Sent w (sealG ++ m) a) :
    Calls Tryd.prog 71 #[eP (a 1)] w fun e w' => e = .returned (.int .i64 4) ∧ Below w.heap.size w w' := by
  have H0 := Lib.hid hE
  have B0 := Lib.hid (Below.refl w.heap.size w)
  have p0 := hE.s0
  clear hE
  have RR := Lib.hid (fun (w : World) (h : Sent w (sealG ++ m) a) (i j : Nat) (hi : i < 3) (hj : j < 3) (hne : i ≠ j) => by
    obtain ⟨ca, ta, ha⟩ := h.row i (seal_lt hi)
    obtain ⟨cb, tb, hb⟩ := h.row j (seal_lt hj)
    exact is_Po (a i) (a j) w (h.ne i j (seal_lt hi) (seal_lt hj) hne) ca cb ta tb ha hb)
  have SS := Lib.hid (fun (w : World) => is_Ps (a 1) w)
  unfold eP at RR SS ⊢
  go_enter Tryd.func71, Tryd.ntmps71
  go_wp2_with fail
  refine (RR.out _ H0.out 1 0 (by decide) (by decide) (by decide)).mono ?_
  rintro e w1 ⟨rfl, hb⟩
  have H1 := Lib.hid (H0.out.next hb)
  have B1 := Lib.hid (B0.out.trans (hb.mono B0.out.size))
  have p1 := H1.out.s1
  clear hb p0 H0 B0
  go_wp2_with fail
  refine (SS.out _).mono ?_
  rintro e w2 ⟨rfl, hb⟩
  have B2 := Lib.hid (B1.out.trans (hb.mono B1.out.size))
  clear hb p1 H1 B1
  go_wp2_with fail
  go_ret
  exact ⟨rfl, B2.out⟩

set_option maxHeartbeats 1000000 in
theorem sealedCode_L1 (s : ByteArray) (m : List Nat) (a : Nat → Addr) (w : World) (hE : Sent w (sealG ++ m) a) :
    Calls Tryd.prog 71 #[eL s (eP (a 1))] w fun e w' => e = .returned (.int .i64 4) ∧ Below w.heap.size w w' := by
  have H0 := Lib.hid hE
  have B0 := Lib.hid (Below.refl w.heap.size w)
  have p0 := hE.s0
  clear hE
  have RR := Lib.hid (fun (w : World) (h : Sent w (sealG ++ m) a) (i j : Nat) (hi : i < 3) (hj : j < 3) (hne : i ≠ j) => by
    obtain ⟨ca, ta, ha⟩ := h.row i (seal_lt hi)
    obtain ⟨cb, tb, hb⟩ := h.row j (seal_lt hj)
    exact is_LPo (a i) s (a j) w (h.ne i j (seal_lt hi) (seal_lt hj) hne) ca cb ta tb ha hb)
  have SS := Lib.hid (fun (w : World) => is_LPs (a 1) s w)
  unfold eL eP at RR SS ⊢
  go_enter Tryd.func71, Tryd.ntmps71
  go_wp2_with fail
  refine (RR.out _ H0.out 1 0 (by decide) (by decide) (by decide)).mono ?_
  rintro e w1 ⟨rfl, hb⟩
  have H1 := Lib.hid (H0.out.next hb)
  have B1 := Lib.hid (B0.out.trans (hb.mono B0.out.size))
  have p1 := H1.out.s1
  clear hb p0 H0 B0
  go_wp2_with fail
  refine (SS.out _).mono ?_
  rintro e w2 ⟨rfl, hb⟩
  have B2 := Lib.hid (B1.out.trans (hb.mono B1.out.size))
  clear hb p1 H1 B1
  go_wp2_with fail
  go_ret
  exact ⟨rfl, B2.out⟩

set_option maxHeartbeats 1000000 in
theorem sealedCode_P2 (m : List Nat) (a : Nat → Addr) (w : World) (hE : Sent w (sealG ++ m) a) :
    Calls Tryd.prog 71 #[eP (a 2)] w fun e w' => e = .returned (.int .i64 5) ∧ Below w.heap.size w w' := by
  have H0 := Lib.hid hE
  have B0 := Lib.hid (Below.refl w.heap.size w)
  have p0 := hE.s0
  clear hE
  have RR := Lib.hid (fun (w : World) (h : Sent w (sealG ++ m) a) (i j : Nat) (hi : i < 3) (hj : j < 3) (hne : i ≠ j) => by
    obtain ⟨ca, ta, ha⟩ := h.row i (seal_lt hi)
    obtain ⟨cb, tb, hb⟩ := h.row j (seal_lt hj)
    exact is_Po (a i) (a j) w (h.ne i j (seal_lt hi) (seal_lt hj) hne) ca cb ta tb ha hb)
  have SS := Lib.hid (fun (w : World) => is_Ps (a 2) w)
  unfold eP at RR SS ⊢
  go_enter Tryd.func71, Tryd.ntmps71
  go_wp2_with fail
  refine (RR.out _ H0.out 2 0 (by decide) (by decide) (by decide)).mono ?_
  rintro e w1 ⟨rfl, hb⟩
  have H1 := Lib.hid (H0.out.next hb)
  have B1 := Lib.hid (B0.out.trans (hb.mono B0.out.size))
  have p1 := H1.out.s1
  clear hb p0 H0 B0
  go_wp2_with fail
  refine (RR.out _ H1.out 2 1 (by decide) (by decide) (by decide)).mono ?_
  rintro e w2 ⟨rfl, hb⟩
  have H2 := Lib.hid (H1.out.next hb)
  have B2 := Lib.hid (B1.out.trans (hb.mono B1.out.size))
  have p2 := H2.out.s2
  clear hb p1 H1 B1
  go_wp2_with fail
  refine (SS.out _).mono ?_
  rintro e w3 ⟨rfl, hb⟩
  have B3 := Lib.hid (B2.out.trans (hb.mono B2.out.size))
  clear hb p2 H2 B2
  go_wp2_with fail
  go_ret
  exact ⟨rfl, B3.out⟩

set_option maxHeartbeats 1000000 in
theorem sealedCode_L2 (s : ByteArray) (m : List Nat) (a : Nat → Addr) (w : World) (hE : Sent w (sealG ++ m) a) :
    Calls Tryd.prog 71 #[eL s (eP (a 2))] w fun e w' => e = .returned (.int .i64 5) ∧ Below w.heap.size w w' := by
  have H0 := Lib.hid hE
  have B0 := Lib.hid (Below.refl w.heap.size w)
  have p0 := hE.s0
  clear hE
  have RR := Lib.hid (fun (w : World) (h : Sent w (sealG ++ m) a) (i j : Nat) (hi : i < 3) (hj : j < 3) (hne : i ≠ j) => by
    obtain ⟨ca, ta, ha⟩ := h.row i (seal_lt hi)
    obtain ⟨cb, tb, hb⟩ := h.row j (seal_lt hj)
    exact is_LPo (a i) s (a j) w (h.ne i j (seal_lt hi) (seal_lt hj) hne) ca cb ta tb ha hb)
  have SS := Lib.hid (fun (w : World) => is_LPs (a 2) s w)
  unfold eL eP at RR SS ⊢
  go_enter Tryd.func71, Tryd.ntmps71
  go_wp2_with fail
  refine (RR.out _ H0.out 2 0 (by decide) (by decide) (by decide)).mono ?_
  rintro e w1 ⟨rfl, hb⟩
  have H1 := Lib.hid (H0.out.next hb)
  have B1 := Lib.hid (B0.out.trans (hb.mono B0.out.size))
  have p1 := H1.out.s1
  clear hb p0 H0 B0
  go_wp2_with fail
  refine (RR.out _ H1.out 2 1 (by decide) (by decide) (by decide)).mono ?_
  rintro e w2 ⟨rfl, hb⟩
  have H2 := Lib.hid (H1.out.next hb)
  have B2 := Lib.hid (B1.out.trans (hb.mono B1.out.size))
  have p2 := H2.out.s2
  clear hb p1 H1 B1
  go_wp2_with fail
  refine (SS.out _).mono ?_
  rintro e w3 ⟨rfl, hb⟩
  have B3 := Lib.hid (B2.out.trans (hb.mono B2.out.size))
  clear hb p2 H2 B2
  go_wp2_with fail
  go_ret
  exact ⟨rfl, B3.out⟩

set_option maxHeartbeats 1000000 in
theorem sealedCode_other (t : TypeId) (u : Value) (m : List Nat) (a : Nat → Addr) (w : World) (hE : Sent w (sealG ++ m) a) (hN : NotSeal (.iface t u) a w) :
    Calls Tryd.prog 71 #[.iface t u] w fun e w' => e = .returned (.int .i64 3) ∧ Below w.heap.size w w' := by
  have H0 := Lib.hid hE
  have B0 := Lib.hid (Below.refl w.heap.size w)
  have p0 := hE.s0
  have HN := Lib.hid hN
  clear hE hN
  unfold NotSeal eP at HN
  go_enter Tryd.func71, Tryd.ntmps71
  go_wp2_with fail
  refine (HN.out 0 (by decide) _ B0.out).mono ?_
  rintro e w1 ⟨rfl, hb⟩
  have H1 := Lib.hid (H0.out.next hb)
  have B1 := Lib.hid (B0.out.trans (hb.mono B0.out.size))
  have p1 := H1.out.s1
  clear hb p0 H0 B0
  go_wp2_with fail
  refine (HN.out 1 (by decide) _ B1.out).mono ?_
  rintro e w2 ⟨rfl, hb⟩
  have H2 := Lib.hid (H1.out.next hb)
  have B2 := Lib.hid (B1.out.trans (hb.mono B1.out.size))
  have p2 := H2.out.s2
  clear hb p1 H1 B1
  go_wp2_with fail
  refine (HN.out 2 (by decide) _ B2.out).mono ?_
  rintro e w3 ⟨rfl, hb⟩
  have H3 := Lib.hid (H2.out.next hb)
  have B3 := Lib.hid (B2.out.trans (hb.mono B2.out.size))
  clear hb p2 H2 B2
  go_wp2_with fail
  go_ret
  exact ⟨rfl, B3.out⟩
theorem sealedCode_P (c : Int) (hc : c = 2 ∨ c = 4 ∨ c = 5) (m : List Nat) (a : Nat → Addr) (w : World) (hE : Sent w (sealG ++ m) a) :
    Calls Tryd.prog 71 #[eP (a (errI c))] w fun e w' => e = .returned (.int .i64 c) ∧ Below w.heap.size w w' := by
  rcases hc with rfl | rfl | rfl
  · exact sealedCode_P0 m a w hE
  · exact sealedCode_P1 m a w hE
  · exact sealedCode_P2 m a w hE
theorem sealedCode_L (s : ByteArray) (c : Int) (hc : c = 2 ∨ c = 4 ∨ c = 5) (m : List Nat) (a : Nat → Addr) (w : World) (hE : Sent w (sealG ++ m) a) :
    Calls Tryd.prog 71 #[eL s (eP (a (errI c)))] w fun e w' => e = .returned (.int .i64 c) ∧ Below w.heap.size w w' := by
  rcases hc with rfl | rfl | rfl
  · exact sealedCode_L0 s m a w hE
  · exact sealedCode_L1 s m a w hE
  · exact sealedCode_L2 s m a w hE
theorem unsealT_codes (s : ByteArray) : (unsealT s).2 = 0 ∨ ((unsealT s).2 = 2 ∨ (unsealT s).2 = 4 ∨ (unsealT s).2 = 5) ∧ (unsealT s).1 = ⟨#[]⟩ := by
  unfold unsealT
  split
  · exact .inr ⟨.inl rfl, rfl⟩
  · split
    · exact .inr ⟨.inr (.inl rfl), rfl⟩
    · split
      · exact .inl rfl
      · exact .inr ⟨.inr (.inr rfl), rfl⟩
end Go.Proofs.YthkbllkhomjmbaaDoor
