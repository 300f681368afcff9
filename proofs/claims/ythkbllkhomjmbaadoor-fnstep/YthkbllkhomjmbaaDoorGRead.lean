/- impl.readNum decodes as the plain function goN says. -/
import Derived.Test.YthkbllkhomjmbaaDoorGSpec
import Derived.Test.YthkbllkhomjmbaaDoorGJump
namespace Go.Proofs.YthkbllkhomjmbaaDoor
open Go.RowKit

/-- The frame of readNum behind its declarations: the place, what was read, the byte, how many bytes, the code; the rest is scratch. -/
def rdFrame (s : ByteArray) (p u : Int) (b : Value) (n code : Int) (a : Act) : Prop :=
  ∃ u11 u12 u13 u14 u15 u16 u17 u18 u19 u20 u21 u22 u23 u24 u25 u26 u27 u28 u29 u30 u31 u32 u33 u34 u35 u36 u37 u38 u39 u40 u41 u42 u43 u44 u45 u46 u47 u48 u49 u50 u51 u52 u53 u54 u55 u56 : Value, a = { tmps := #[.string s, .int .i64 p, undef, undef, .int .i64 0, .int .i64 0, .nilIface, .int .u64 u, b, .int .i64 n, .int .i64 code, u11, u12, u13, u14, u15, u16, u17, u18, u19, u20, u21, u22, u23, u24, u25, u26, u27, u28, u29, u30, u31, u32, u33, u34, u35, u36, u37, u38, u39, u40, u41, u42, u43, u44, u45, u46, u47, u48, u49, u50, u51, u52, u53, u54, u55, u56], defers := [] }

/-- What holds at each of the three labels (1: more, 2: last, 0: wrong). -/
def rdAt (s : ByteArray) (p : Nat) (w : World) (R : Int × Int × Int) : Nat → Act → World → Prop
  | 0, a, w' => w' = w ∧ ∃ (q u : Int) (b : Value) (n code : Int), rdFrame s q u b n code a ∧ (0, 0, code) = R ∧ ¬ code = 0
  | 1, a, w' => w' = w ∧ ∃ (k u : Nat) (b : Value), k ≤ 9 ∧ u < 2 ^ (7 * k) ∧ goN s p (9 - k + 1) k u = R ∧ rdFrame s ((p : Int) + k) u b k 3 a
  | 2, a, w' => w' = w ∧ ∃ k v c : Nat, k ≤ 9 ∧ v < lim64 ∧ c < 128 ∧ (c = 0 ∧ 0 < k → (0, 0, 3) = R) ∧ (¬ (c = 0 ∧ 0 < k) → (unz v, (p : Int) + k + 1, 0) = R) ∧ rdFrame s ((p : Int) + k + 1) v (.int .u8 c) ((k : Int) + 1) 3 a
  | _, _, _ => False

def rdMeasure : Nat → Act → World → Nat
  | 0, _, _ => 0
  | 1, a, _ => 100 - (intOf (a.tmps.getD 9 undef)).toNat
  | _, _, _ => 1

/-- What readNum hands back: the number, the place behind it, and nil or an error with the code. -/
def readV (R : Int × Int × Int) : Value := .tuple #[.int .i64 R.1, .int .i64 R.2.1, if R.2.2 = 0 then .nilIface else .iface 85 (.agg #[.int .i64 R.2.2])]
theorem readV_bad (code : Int) (h : ¬ code = 0) : readV (0, 0, code) = .tuple #[.int .i64 0, .int .i64 0, .iface 85 (.agg #[.int .i64 code])] := by
  simp [readV, h]
theorem readV_good (n q : Int) : readV (n, q, 0) = .tuple #[.int .i64 n, .int .i64 q, .nilIface] := by
  simp [readV]
theorem fin_impl (v : Nat) (hv : v < lim64) : bits BinOp.xor IntKind.i64 (wrap64 ((v : Int) / 2)) (wrap64 (-wrap64 (bits BinOp.and IntKind.u64 (v : Int) 1))) = unz v := by
  unfold lim64 at hv
  rw [Lib.u64_and1 _ (by omega) (by omega), IntWalk.wrap64_in ((v : Int) / 2) (by omega), IntWalk.wrap64_in ((v : Int) % 2) (by omega), IntWalk.wrap64_in _ (by omega)]
  have e : (v : Int) / 2 = ((v / 2 : Nat) : Int) := by omega
  unfold unz
  by_cases h : v % 2 = 1
  · rw [if_pos h, show -((v : Int) % 2) = -1 by omega, xor_comm64i, e, Lib.i64_not _ (by omega)]
  · rw [if_neg h, show -((v : Int) % 2) = 0 by omega, e, xor_zero64 _ (by omega)]

set_option maxHeartbeats 4000000 in
set_option maxRecDepth 100000 in
theorem read_any (s : ByteArray) (p : Nat) (w : World) (hs : s.size ≤ 8000) (hp : (p : Int) ≤ 9223372036854775807) (R : Int × Int × Int) (hR : goN s p 10 0 0 = R) :
    Calls Tryd.prog 61 #[.string s, .int .i64 p] w fun e w' => e = .returned (readV R) ∧ w = w' := by
  have HR := Lib.hid hR
  clear hR
  go_enter Tryd.func61, Tryd.ntmps61
  go_wp2
  refine wp_scope_labels_at (rdAt s p w R) rdMeasure 1 rfl ?_ ?_ ?_
  · intro go
    go_wp2
    go_step3
    rename_i K hK
    refine hK _ _ (go _ _ ⟨rfl, 0, 0, .int .u8 0, by omega, by simp, HR.out, ?_⟩)
    rw [show ((p : Int) + ((0 : Nat) : Int)) = (p : Int) by simp]
    exact ⟨_, _, _, _, _, _, _, _, _, _, _, _, _, _, _, _, _, _, _, _, _, _, _, _, _, _, _, _, _, _, _, _, _, _, _, _, _, _, _, _, _, _, _, _, _, _, rfl⟩
  · intro a1 w1 hJ
    obtain ⟨rfl, k, u, b, hk, hu, hg, u11, u12, u13, u14, u15, u16, u17, u18, u19, u20, u21, u22, u23, u24, u25, u26, u27, u28, u29, u30, u31, u32, u33, u34, u35, u36, u37, u38, u39, u40, u41, u42, u43, u44, u45, u46, u47, u48, u49, u50, u51, u52, u53, u54, u55, u56, rfl⟩ := hJ
    have HU := Lib.hid hu
    have HG := Lib.hid hg
    clear hu hg HR
    by_cases h1 : p + k < s.size
    · have hcc := byt_at s (p + k) h1
      have hc := byt_lt s (p + k)
      by_cases h9 : k = 9 ∧ 1 < byt s (p + k)
      · have HN := Lib.hid ((goN_ten (f := 9 - k) (u := u) (by omega) h9.1 h9.2).symm.trans HG.out)
        obtain ⟨h91, c1⟩ := h9
        have k9 : ((k : Int) + 1 == 10) = true := by simp; omega
        clear h91
        generalize byt s (p + k) = c at *
        go_wp2
        go_step3
        exact ⟨⟨rfl, _, _, _, _, _, ⟨_, _, _, _, _, _, _, _, _, _, _, _, _, _, _, _, _, _, _, _, _, _, _, _, _, _, _, _, _, _, _, _, _, _, _, _, _, _, _, _, _, _, _, _, _, _, rfl⟩, HN.out, by decide⟩, by simp [rdMeasure, intOf]; omega⟩
      · have hk9 : k < 9 ∨ k = 9 ∧ byt s (p + k) ≤ 1 := by omega
        have t9 : ((k : Int) + 1 == 10) = false ∨ ((k : Int) + 1 == 10) = true ∧ byt s (p + k) ≤ 1 := by
          rcases hk9 with z | z
          · left; simp; omega
          · right; exact ⟨by simp; omega, by omega⟩
        have HACC := Lib.hid (acc_impl u (byt s (p + k)) k hc HU.out hk9)
        have HLIM := Lib.hid (addU_all u (byt s (p + k)) k HU.out hk9)
        by_cases c128 : 128 ≤ byt s (p + k)
        · have hlt : k < 9 := by omega
          have k9 : ((k : Int) + 1 == 10) = false := by simp; omega
          have HN := Lib.hid ((goN_more (f := 9 - k) (u := u) (by omega) hlt c128).symm.trans HG.out)
          have HV := Lib.hid (addU_lt u (byt s (p + k)) k HU.out)
          clear t9 hk9 h9
          generalize addU u (byt s (p + k)) k = v at *
          generalize byt s (p + k) = c at *
          go_wp2
          go_step3
          rw [HACC.out]
          exact ⟨⟨rfl, k + 1, v, _, by omega, HV.out, by rw [show 9 - (k + 1) + 1 = 9 - k by omega]; exact HN.out, _, _, _, _, _, _, _, _, _, _, _, _, _, _, _, _, _, _, _, _, _, _, _, _, _, _, _, _, _, _, _, _, _, _, _, _, _, _, _, _, _, _, _, _, _, _, by go_num⟩, by simp [rdMeasure, intOf]; omega⟩
        · have HL := Lib.hid (fun h : byt s (p + k) = 0 ∧ 0 < k => (goN_long (f := 9 - k) (u := u) (by omega) h.1 h.2).symm.trans HG.out)
          have HM := Lib.hid (fun h : ¬ (byt s (p + k) = 0 ∧ 0 < k) => (goN_last (f := 9 - k) (u := u) (by omega) h9 (by omega) h).symm.trans HG.out)
          clear hk9 h9
          generalize addU u (byt s (p + k)) k = v at *
          generalize byt s (p + k) = c at *
          rcases t9 with k9 | ⟨k9, c9⟩
          all_goals go_wp2
          all_goals go_step3
          all_goals rw [HACC.out]
          all_goals exact ⟨⟨rfl, k, v, c, hk, HLIM.out, by omega, HL.out, HM.out, _, _, _, _, _, _, _, _, _, _, _, _, _, _, _, _, _, _, _, _, _, _, _, _, _, _, _, _, _, _, _, _, _, _, _, _, _, _, _, _, _, _, _, _, _, _, rfl⟩, by simp [rdMeasure, intOf]; omega⟩
    · have HN := Lib.hid ((goN_short (f := 9 - k) (u := u) (by omega)).symm.trans HG.out)
      go_wp2
      go_step3
      exact ⟨⟨rfl, _, _, _, _, _, ⟨_, _, _, _, _, _, _, _, _, _, _, _, _, _, _, _, _, _, _, _, _, _, _, _, _, _, _, _, _, _, _, _, _, _, _, _, _, _, _, _, _, _, _, _, _, _, rfl⟩, HN.out, by decide⟩, by simp [rdMeasure, intOf]; omega⟩
  · intro l a1 w1 hl hJ
    match l, hJ with
    | 0, hJ =>
      obtain ⟨rfl, q, u, b, n, code, ⟨u11, u12, u13, u14, u15, u16, u17, u18, u19, u20, u21, u22, u23, u24, u25, u26, u27, u28, u29, u30, u31, u32, u33, u34, u35, u36, u37, u38, u39, u40, u41, u42, u43, u44, u45, u46, u47, u48, u49, u50, u51, u52, u53, u54, u55, u56, rfl⟩, hc, hne⟩ := hJ
      refine ⟨_, rfl, ?_⟩
      have HC := Lib.hid hc
      have HV := Lib.hid (readV_bad code hne)
      clear hc HR
      go_wp2
      simp only [jumps]
      go_ret3
      exact ⟨by rw [← HC.out, HV.out]; rfl, rfl⟩
    | 1, hJ => exact absurd rfl hl
    | 2, hJ =>
      obtain ⟨rfl, k, v, c, hk, hv, hc, hA, hB, u11, u12, u13, u14, u15, u16, u17, u18, u19, u20, u21, u22, u23, u24, u25, u26, u27, u28, u29, u30, u31, u32, u33, u34, u35, u36, u37, u38, u39, u40, u41, u42, u43, u44, u45, u46, u47, u48, u49, u50, u51, u52, u53, u54, u55, u56, rfl⟩ := hJ
      refine ⟨_, rfl, ?_⟩
      have HB := Lib.hid hB
      have HF := Lib.hid (fin_impl v hv)
      by_cases h0 : c = 0 ∧ 0 < k
      · have HN := Lib.hid (hA h0)
        have e0 : ((c : Int) == 0) = true := by simp; omega
        have e1 : (1 : Int) < (k : Int) + 1 := by omega
        clear hA hB hv HR h0
        go_wp2
        go_step3
        exact ⟨⟨rfl, _, _, _, _, _, ⟨_, _, _, _, _, _, _, _, _, _, _, _, _, _, _, _, _, _, _, _, _, _, _, _, _, _, _, _, _, _, _, _, _, _, _, _, _, _, _, _, _, _, _, _, _, _, rfl⟩, HN.out, by decide⟩, Nat.zero_lt_one⟩
      · have HN := Lib.hid (hB h0)
        have HV := Lib.hid (readV_good (unz v) ((p : Int) + k + 1))
        have e0 : ((c : Int) == 0) = true ∧ (k : Int) + 1 ≤ 1 ∨ ((c : Int) == 0) = false := by
          by_cases z : c = 0
          · left; exact ⟨by simp [z], by omega⟩
          · right; simp; omega
        clear hA hB hv HR h0
        rcases e0 with ⟨e0, e1⟩ | e0
        all_goals go_wp2
        all_goals simp only [jumps]
        all_goals go_ret3
        all_goals exact ⟨by rw [← HN.out, HV.out, ← HF.out]; rfl, rfl⟩
    | n + 3, hJ => exact hJ.elim
end Go.Proofs.YthkbllkhomjmbaaDoor
