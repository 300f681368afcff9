/- FnExactNameRight: for every string, spec.NameRight and impl.NameRight return the same bool. No conditions. -/
import Derived.Test.YteboacnkjlmfkaaRows
import Derived.WalkKit
import Derived.WalkSpells
import Derived.WalkLawsBesides
import Derived.Lib.Hide
namespace Go.Proofs.Yteboacnkjlmfkaa
open Go.RowKit

theorem ret_bool {a b : Bool} (h : a = b) : Ending.returned (.bool a) = .returned (.bool b) := by rw [h]
def letB (c : Int) : Bool := decide (97 ≤ c) && decide (c ≤ 122)
def digB (c : Int) : Bool := decide (48 ≤ c) && decide (c ≤ 57)
def okC (c : Int) : Bool := letB c || digB c || c == 95
def bt (s : ByteArray) (j : Nat) : Int := (s.data.getD j 0).toNat
def nameB (s : ByteArray) : Bool := decide (1 ≤ s.size ∧ s.size ≤ 20 ∧ letB (bt s 0) = true ∧ ∀ j, j < s.size → okC (bt s j) = true)

theorem bt_at (s : ByteArray) (k : Nat) (h : k < s.size) : (s[k].toNat : Int) = bt s k := by
  unfold bt
  have : s.data.getD k 0 = s[k] := by
    have h' : k < s.data.size := h
    simp [Array.getD, h]; rfl
  rw [this]

theorem name_short (s : ByteArray) (h : s.size < 1 ∨ 20 < s.size) : nameB s = false := by
  unfold nameB; simp; omega
theorem name_bad0 (s : ByteArray) (h : letB (bt s 0) = false) : nameB s = false := by
  unfold nameB; simp [h]
theorem name_bad (s : ByteArray) (k : Nat) (hk : k < s.size) (h : okC (bt s k) = false) : nameB s = false := by
  unfold nameB; simp; intro _ _ _; exact ⟨k, hk, h⟩
theorem name_good (s : ByteArray) (h1 : 1 ≤ s.size) (h2 : s.size ≤ 20) (h0 : letB (bt s 0) = true) (h : ∀ j, j < s.size → okC (bt s j) = true) : nameB s = true := by
  unfold nameB; simp [h1, h2, h0]; exact h

set_option maxHeartbeats 400000 in
theorem isLetter_any (c : Int) (w : World) :
    Calls Try.prog 27 #[.int .u8 c] w fun e w' => e = .returned (.bool (letB c)) ∧ w = w' := by
  by_cases h : 97 ≤ c
  · by_cases h2 : c ≤ 122
    all_goals
      go_enter Try.func27, Try.ntmps27
      go_wp2
      go_ret
      exact ⟨by simp [letB, *], rfl⟩
  · go_enter Try.func27, Try.ntmps27
    go_wp2
    go_ret
    exact ⟨by simp [letB, *]; omega, rfl⟩

set_option maxHeartbeats 400000 in
theorem isDigit_any (c : Int) (w : World) :
    Calls Try.prog 28 #[.int .u8 c] w fun e w' => e = .returned (.bool (digB c)) ∧ w = w' := by
  by_cases h : 48 ≤ c
  · by_cases h2 : c ≤ 57
    all_goals
      go_enter Try.func28, Try.ntmps28
      go_wp2
      go_ret
      exact ⟨by simp [digB, *], rfl⟩
  · go_enter Try.func28, Try.ntmps28
    go_wp2
    go_ret
    exact ⟨by simp [digB, *]; omega, rfl⟩

theorem specKinds (c : Int) (k : Nat) :
    (97 ≤ c ∧ c ≤ 122) ∨ (c < 97 ∧ k = 0) ∨ (122 < c ∧ k = 0) ∨ (48 ≤ c ∧ c ≤ 57 ∧ 0 < k) ∨ (c = 95 ∧ 0 < k) ∨ (c < 48 ∧ 0 < k) ∨ (57 < c ∧ c < 97 ∧ ¬ c = 95 ∧ 0 < k) ∨ (122 < c ∧ 0 < k) := by omega

set_option maxHeartbeats 400000 in
theorem specName_any (s : ByteArray) (w : World) (hs : s.size ≤ maxLen) :
    Calls Try.prog 14 #[.string s] w fun e w' => e = .returned (.bool (nameB s)) ∧ w = w' := by
  unfold maxLen at hs
  by_cases h1 : s.size < 1
  · have hn := Lib.hid (name_short s (.inl h1))
    go_enter Try.func14, Try.ntmps14
    go_wp2
    go_ret
    exact ⟨ret_bool hn.out.symm, rfl⟩
  by_cases h2 : 20 < s.size
  · have hn := Lib.hid (name_short s (.inr h2))
    go_enter Try.func14, Try.ntmps14
    go_wp2
    go_ret
    exact ⟨ret_bool hn.out.symm, rfl⟩
  go_enter Try.func14, Try.ntmps14
  go_wp2
  go_loop [3] (fun i => ∃ k : Nat, k ≤ s.size ∧ i = .int .i64 k ∧ (0 < k → letB (bt s 0) = true) ∧ ∀ j, j < k → okC (bt s j) = true) (fun i => s.size - (intOf i).toNat)
  case atStart => exact ⟨0, Nat.zero_le _, rfl, by omega, by omega⟩
  case round =>
    obtain ⟨k, hk, rfl, h0, hj⟩ := hrel
    have H0 := Lib.hid h0
    have HJ := Lib.hid hj
    clear h0 hj
    by_cases hlt : k < s.size
    · have hb := Lib.hid (bt_at s k hlt)
      have good : okC (bt s k) = true → (0 < k + 1 → letB (bt s 0) = true) → Hid ((0 < k + 1 → letB (bt s 0) = true) ∧ ∀ j, j < k + 1 → okC (bt s j) = true) := fun a b => Lib.hid ⟨b, fun j hj => by
        by_cases e : j = k
        · rw [e]; exact a
        · exact HJ.out j (by omega)⟩
      rcases specKinds (s[k].toNat : Int) k with ⟨a1, a2⟩ | ⟨a1, rfl⟩ | ⟨a1, rfl⟩ | ⟨a1, a2, a3⟩ | ⟨a1, a3⟩ | ⟨a1, a3⟩ | ⟨a1, a2, a4, a3⟩ | ⟨a1, a3⟩
      · have HG := good (by rw [← hb.out]; simp [okC, letB, a1, a2]) (fun _ => by
          by_cases e : k = 0
          · subst e; rw [← hb.out]; simp [letB, a1, a2]
          · exact H0.out (by omega))
        clear good
        go_wp2
        go_round
        case rel => exact ⟨k + 1, by omega, by go_num, HG.out.1, HG.out.2⟩
        case measure => simp [intOf]; omega
      · have hn := Lib.hid (name_bad0 s (by rw [← hb.out]; simp [letB]; omega))
        clear good
        go_wp2
        go_ret
        exact ⟨ret_bool hn.out.symm, rfl⟩
      · have hn := Lib.hid (name_bad0 s (by rw [← hb.out]; simp [letB]; omega))
        have b1 : decide ((s[0].toNat : Int) ≤ 122) = false := by simp; omega
        clear good
        go_wp2
        go_ret
        exact ⟨ret_bool hn.out.symm, rfl⟩
      all_goals have k0 : ((k : Int) == 0) = false := beq_eq_false_iff_ne.2 (by omega)
      · have HG := good (by rw [← hb.out]; simp [okC, digB, a1, a2]) (fun _ => H0.out a3)
        clear good
        go_wp2
        go_round
        case rel => exact ⟨k + 1, by omega, by go_num, HG.out.1, HG.out.2⟩
        case measure => simp [intOf]; omega
      · have HG := good (by rw [← hb.out, a1]; simp [okC]) (fun _ => H0.out a3)
        have b1 : ((s[k].toNat : Int) != 95) = false := by simp [a1]
        have b2 : (s[k].toNat : Int) < 97 := by omega
        have b3 : 57 < (s[k].toNat : Int) := by omega
        clear good a1
        go_wp2
        go_round
        case rel => exact ⟨k + 1, by omega, by go_num, HG.out.1, HG.out.2⟩
        case measure => simp [intOf]; omega
      all_goals have b1 : ((s[k].toNat : Int) != 95) = true := by simp; omega
      all_goals have hn := Lib.hid (name_bad s k hlt (by rw [← hb.out]; simp [okC, letB, digB]; omega))
      all_goals clear good
      all_goals try clear a4
      all_goals try have b2 : decide ((s[k].toNat : Int) ≤ 57) = false := by simp; omega
      all_goals try have b3 : decide ((s[k].toNat : Int) ≤ 122) = false := by simp; omega
      all_goals go_wp2
      all_goals go_ret
      all_goals exact ⟨ret_bool hn.out.symm, rfl⟩
    · have hz := Lib.hid (name_good s (by omega) (by omega) (H0.out (by omega)) (fun j h => HJ.out j (by omega)))
      go_wp2
      go_ret
      exact ⟨ret_bool hz.out.symm, rfl⟩
set_option maxHeartbeats 400000 in
theorem implName_any (s : ByteArray) (w : World) (hs : s.size ≤ maxLen) :
    Calls Try.prog 15 #[.string s] w fun e w' => e = .returned (.bool (nameB s)) ∧ w = w' := by
  unfold maxLen at hs
  by_cases h1 : s.size < 1
  · have hn := Lib.hid (name_short s (.inl h1))
    have d1 : decide (s.size < 1) = true := decide_eq_true h1
    go_enter Try.func15, Try.ntmps15
    go_wp2_with fail
    go_ret
    exact ⟨ret_bool hn.out.symm, rfl⟩
  by_cases h2 : 20 < s.size
  · have hn := Lib.hid (name_short s (.inr h2))
    have d1 : decide (s.size < 1) = false := decide_eq_false h1
    have d2 : decide (20 < s.size) = true := by simp; omega
    go_enter Try.func15, Try.ntmps15
    go_wp2_with fail
    go_ret
    exact ⟨ret_bool hn.out.symm, rfl⟩
  have d1 : decide (s.size < 1) = false := decide_eq_false h1
  have d2 : decide (20 < s.size) = false := by simp; omega
  have p0 : 0 < s.size := by omega
  have hb0 := Lib.hid (bt_at s 0 p0)
  cases hl : letB (s[0].toNat : Int)
  · have hn := Lib.hid (name_bad0 s (by rw [← hb0.out]; exact hl))
    go_enter Try.func15, Try.ntmps15
    go_wp2_with (go_at_call 27; refine (isLetter_any _ _).mono ?_; rintro e w' ⟨rfl, rfl⟩)
    go_ret
    exact ⟨ret_bool hn.out.symm, rfl⟩
  have HL := Lib.hid (show letB (bt s 0) = true by rw [← hb0.out]; exact hl)
  go_enter Try.func15, Try.ntmps15
  go_wp2_with (go_at_call 27; refine (isLetter_any _ _).mono ?_; rintro e w' ⟨rfl, rfl⟩)
  go_loop [20] (fun i => ∃ k : Nat, k ≤ s.size ∧ i = .int .i64 k ∧ ∀ j, j < k → okC (bt s j) = true) (fun i => s.size - (intOf i).toNat)
  case atStart => exact ⟨0, Nat.zero_le _, rfl, by omega⟩
  case round =>
    obtain ⟨k, hk, rfl, hj⟩ := hrel
    have HJ := Lib.hid hj
    clear hj hl
    by_cases hlt : k < s.size
    · have hb := Lib.hid (bt_at s k hlt)
      have good : okC (bt s k) = true → Hid (∀ j, j < k + 1 → okC (bt s j) = true) := fun a => Lib.hid (fun j hj => by
        by_cases e : j = k
        · rw [e]; exact a
        · exact HJ.out j (by omega))
      cases a1 : letB (s[k].toNat : Int)
      · cases a2 : digB (s[k].toNat : Int)
        · cases a3 : ((s[k].toNat : Int) != 95)
          · have HG := good (by rw [← hb.out]; simp [bne_eq_false_iff_eq] at a3; simp [okC, a3])
            clear good
            go_wp2_with (first | (go_at_call 27; refine (isLetter_any _ _).mono ?_; rintro e w' ⟨rfl, rfl⟩) | (go_at_call 28; refine (isDigit_any _ _).mono ?_; rintro e w' ⟨rfl, rfl⟩))
            go_round
            case rel => exact ⟨k + 1, by omega, by go_num, HG.out⟩
            case measure => simp [intOf]; omega
          · have hn := Lib.hid (name_bad s k hlt (by rw [← hb.out]; simp at a3; simp [okC, a1, a2, a3]))
            clear good
            go_wp2_with (first | (go_at_call 27; refine (isLetter_any _ _).mono ?_; rintro e w' ⟨rfl, rfl⟩) | (go_at_call 28; refine (isDigit_any _ _).mono ?_; rintro e w' ⟨rfl, rfl⟩))
            go_ret
            exact ⟨ret_bool hn.out.symm, rfl⟩
        · have HG := good (by rw [← hb.out]; simp [okC, a2])
          clear good
          go_wp2_with (first | (go_at_call 27; refine (isLetter_any _ _).mono ?_; rintro e w' ⟨rfl, rfl⟩) | (go_at_call 28; refine (isDigit_any _ _).mono ?_; rintro e w' ⟨rfl, rfl⟩))
          go_round
          case rel => exact ⟨k + 1, by omega, by go_num, HG.out⟩
          case measure => simp [intOf]; omega
      · have HG := good (by rw [← hb.out]; simp [okC, a1])
        clear good
        go_wp2_with (first | (go_at_call 27; refine (isLetter_any _ _).mono ?_; rintro e w' ⟨rfl, rfl⟩) | (go_at_call 28; refine (isDigit_any _ _).mono ?_; rintro e w' ⟨rfl, rfl⟩))
        go_round
        case rel => exact ⟨k + 1, by omega, by go_num, HG.out⟩
        case measure => simp [intOf]; omega
    · have hz := Lib.hid (name_good s (by omega) (by omega) HL.out (fun j h => HJ.out j (by omega)))
      go_wp2
      go_ret
      exact ⟨ret_bool hz.out.symm, rfl⟩

set_option maxHeartbeats 400000 in
theorem nameLaw (s : ByteArray) (w : World) (hs : s.size ≤ maxLen) :
    Calls Try.prog 5 #[.string s] w fun e w' => e = .returned (.bool true) ∧ w = w' := by
  by_cases h : 1048576 < s.size
  · unfold maxLen at hs
    go_enter Try.func5, Try.ntmps5
    go_wp2_with fail
    go_ret
    exact ⟨rfl, rfl⟩
  · have HS := Lib.hid hs
    unfold maxLen at hs
    have hx : (nameB s != nameB s) = false := by simp
    go_enter Try.func5, Try.ntmps5
    go_wp2_with fail
    refine (specName_any s _ HS.out).mono ?_
    rintro e w' ⟨rfl, rfl⟩
    go_wp2_with fail
    refine (implName_any s _ HS.out).mono ?_
    rintro e w' ⟨rfl, rfl⟩
    go_wp2_with fail
    go_ret
    exact ⟨rfl, rfl⟩
end Go.Proofs.Yteboacnkjlmfkaa
