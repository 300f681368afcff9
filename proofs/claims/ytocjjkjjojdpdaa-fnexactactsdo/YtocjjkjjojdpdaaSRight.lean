/- The model's FlashRight: whether a flash is valid. -/
import Derived.Test.YtocjjkjjojdpdaaLFlash
namespace Go.Proofs.Ytocjjkjjojdpdaa
open Go.RowKit

/-- A valid flash. -/
structure Right (F : FM) : Prop where
  least : 1 ≤ F.sec.length
  most : F.sec.length ≤ 40
  dirty : F.dir.length ≤ F.sec.length
  fits : ∀ j (h : j < F.sec.length), F.sec[j].size ≤ 96
  at0 : ∀ j (h : j < F.dir.length), 0 ≤ F.dir[j].1
  at1 : ∀ j (h : j < F.dir.length), F.dir[j].1 ≤ (F.sec.length : Int) - 1
  data : ∀ j (h : j < F.dir.length), F.dir[j].2.size ≤ 96
  once : ∀ i j (h : j < F.dir.length) (hi : i < j), F.dir[i].1 ≠ F.dir[j].1
def RightPost (F : FM) (w : World) (e : Ending) (w' : World) : Prop := ∃ b : Bool, e = .returned (.bool b) ∧ (b = true ↔ Right F) ∧ Below w.heap.size w w'

set_option maxRecDepth 100000 in
set_option maxHeartbeats 400000 in
theorem is_yes (n lo hi : Int) (w : World) (h0 : lo ≤ n) (h1 : n ≤ hi) :
    Calls Try.prog 20 #[.int .i64 n, .int .i64 lo, .int .i64 hi] w fun e w' => e = .returned (.bool true) ∧ w' = w := by
  go_enter Try.func20, Try.ntmps20
  go_wp2
  go_ret
  exact ⟨rfl, rfl⟩
set_option maxRecDepth 100000 in
set_option maxHeartbeats 400000 in
theorem is_no (n lo hi : Int) (w : World) (h : n < lo ∨ lo ≤ n ∧ hi < n) :
    Calls Try.prog 20 #[.int .i64 n, .int .i64 lo, .int .i64 hi] w fun e w' => e = .returned (.bool false) ∧ w' = w := by
  rcases h with h | ⟨h0, h⟩
  · have d0 : decide (lo ≤ n) = false := decide_eq_false (by omega)
    go_enter Try.func20, Try.ntmps20
    go_wp2
    go_ret
    exact ⟨rfl, rfl⟩
  · have d0 : decide (n ≤ hi) = false := decide_eq_false (by omega)
    go_enter Try.func20, Try.ntmps20
    go_wp2
    go_ret
    exact ⟨rfl, rfl⟩

def SecRel (F : FM) (i : Value) : Prop := ∃ k : Nat, k ≤ F.sec.length ∧ i = .int .i64 k ∧ ∀ j (h : j < F.sec.length), j < k → F.sec[j].size ≤ 96
/-- What has been seen of the first k elements of Dirty. -/
structure Seen (F : FM) (k : Nat) : Prop where
  at0 : ∀ j (h : j < F.dir.length), j < k → 0 ≤ F.dir[j].1
  at1 : ∀ j (h : j < F.dir.length), j < k → F.dir[j].1 ≤ (F.sec.length : Int) - 1
  data : ∀ j (h : j < F.dir.length), j < k → F.dir[j].2.size ≤ 96
  once : ∀ i j (h : j < F.dir.length) (hi : i < j), j < k → F.dir[i].1 ≠ F.dir[j].1
def DirRel (F : FM) (W : World) (i : Value) (wr : World) : Prop := ∃ k : Nat, k ≤ F.dir.length ∧ i = .int .i64 k ∧ Seen F k ∧ Still W wr
def OnceRel (F : FM) (k : Nat) (h : k < F.dir.length) (W : World) (i : Value) (wr : World) : Prop := ∃ m : Nat, m ≤ k ∧ i = .int .i64 m ∧ (∀ j (hj : j < k), j < m → F.dir[j].1 ≠ F.dir[k].1) ∧ Still W wr

set_option maxHeartbeats 2000000 in
set_option maxRecDepth 100000 in
theorem specRight (sv dv : Value) (F : FM) (w : World) (h : FRd w sv dv F) (hf : FFits F) (hs : ∀ s ∈ F.sec, s.size ≤ 1048576) (hd : ∀ d ∈ F.dir, d.2.size ≤ 1048576) :
    Calls Try.prog 32 #[.agg #[sv, dv]] w (RightPost F w) := by
  obtain ⟨f1, f2⟩ := hf
  have hb := (Below.refl w.heap.size w).alloc (Nat.le_refl _) (.cells #[sv, dv] 33)
  have H := Lib.hid (h.below hb (Nat.le_refl _))
  obtain ⟨⟨-, a, c, rfl, h1⟩, ⟨-, a', c', rfl, h2⟩⟩ := h
  have HB := Lib.hid hb
  have HS := Lib.hid hs
  have HD := Lib.hid hd
  clear h1 h2 hb hs hd
  by_cases hA : 1 ≤ F.sec.length ∧ F.sec.length ≤ 40 ∧ F.dir.length ≤ F.sec.length
  · obtain ⟨g1, g2, g3⟩ := hA
    have d1 : decide ((F.sec.length : Int) < 1) = false := decide_eq_false (by omega)
    have d2 : decide ((40 : Int) < (F.sec.length : Int)) = false := decide_eq_false (by omega)
    have d3 : decide (F.sec.length < F.dir.length) = false := decide_eq_false (by omega)
    go_enter Try.func32, Try.ntmps32
    go_wp2_with fail
    have c0 : (w.alloc (.cells #[.slice a F.sec.length c, .slice a' F.dir.length c'] 33)).cell? ⟨w.heap.size, 0, none⟩ = some (.slice a F.sec.length c) := by rw [World.cell?_alloc_new]; rfl
    have c1 : (w.alloc (.cells #[.slice a F.sec.length c, .slice a' F.dir.length c'] 33)).cell? ⟨w.heap.size, 1, none⟩ = some (.slice a' F.dir.length c') := by rw [World.cell?_alloc_new]; rfl
    have hzW : w.heap.size < (w.alloc (.cells #[.slice a F.sec.length c, .slice a' F.dir.length c'] 33)).heap.size := by simp
    generalize w.alloc (.cells #[.slice a F.sec.length c, .slice a' F.dir.length c'] 33) = W at *
    go_loop [3] (fun i => SecRel F i) (fun i => F.sec.length - (intOf i).toNat)
    case atStart => exact ⟨0, by omega, rfl, fun j _ hj => absurd hj (by omega)⟩
    case round =>
      obtain ⟨k, hk, rfl, hseen⟩ := hrel
      have SEEN := Lib.hid hseen
      clear hseen
      by_cases hlt : k < F.sec.length
      · obtain ⟨b, off, rfl, hbl, hc⟩ := H.out.1.get (by omega)
        have hcell : W.cell? ⟨b, off + k, none⟩ = some (.string F.sec[k]) := by rw [hc k (by omega), strs_at _ k hlt]
        have hsk := HS.out F.sec[k] (List.getElem_mem hlt)
        clear hc
        by_cases hbig : 96 < F.sec[k].size
        · go_wp2_with fail
          go_ret
          exact ⟨false, rfl, ⟨(fun e => by cases e), fun r => absurd (r.fits k hlt) (by omega)⟩, HB.out⟩
        · go_wp2_with fail
          go_round
          case rel =>
            refine ⟨k + 1, by omega, by go_num, fun j h hj => ?_⟩
            by_cases hjk : j = k
            · subst hjk; omega
            · exact SEEN.out j h (by omega)
          case measure => simp [intOf]; omega
      · obtain rfl : k = F.sec.length := by omega
        have FITS := Lib.hid (show ∀ j (h : j < F.sec.length), F.sec[j].size ≤ 96 from fun j h => SEEN.out j h h)
        clear SEEN hlt hk
        go_wp2_with fail
        go_loopw [4] (fun i wr => DirRel F W i wr) (fun i _ => F.dir.length - (intOf i).toNat)
        case atStart => exact ⟨0, by omega, rfl, ⟨fun j _ hj => absurd hj (by omega), fun j _ hj => absurd hj (by omega), fun j _ hj => absurd hj (by omega), fun i j _ _ hj => absurd hj (by omega)⟩, Still.refl W⟩
        case round =>
          obtain ⟨k, hk, rfl, hseen, hst⟩ := hrel
          have SEEN := Lib.hid hseen
          have c0' : wr.cell? ⟨w.heap.size, 0, none⟩ = _ := ((hst.below W.heap.size).cell (p := ⟨w.heap.size, 0, none⟩) hzW).trans c0
          have c1' : wr.cell? ⟨w.heap.size, 1, none⟩ = _ := ((hst.below W.heap.size).cell (p := ⟨w.heap.size, 1, none⟩) hzW).trans c1
          clear hseen
          by_cases hlt : k < F.dir.length
          · obtain ⟨b, off, rfl, hbl, hc⟩ := H.out.2.get (by omega)
            have hcW0 : W.cell? ⟨b, off + k * 2, none⟩ = some (.int .i64 F.dir[k].1) := by rw [hc (k * 2) (by omega), dirs_even _ k hlt]
            have hcW1 : W.cell? ⟨b, off + k * 2 + 1, none⟩ = some (.string F.dir[k].2) := by rw [Nat.add_assoc, hc (k * 2 + 1) (by omega), dirs_odd _ k hlt]
            have hc0 := ((hst.below W.heap.size).cell (p := ⟨b, off + k * 2, none⟩) hbl).trans hcW0
            have hc1 := ((hst.below W.heap.size).cell (p := ⟨b, off + k * 2 + 1, none⟩) hbl).trans hcW1
            have hsk := HD.out F.dir[k] (List.getElem_mem hlt)
            have HC := Lib.hid hc
            have HST := Lib.hid hst
            clear hc hst hcW0 hcW1
            have e0 : (k : Int) < (F.dir.length : Int) := by omega
            have e1 : (0 : Int) ≤ (k : Int) := by omega
            have m0 : IntKind.i64.wrap ((F.sec.length : Int) - 1) = (F.sec.length : Int) - 1 := IntWalk.i64_in _ (by omega)
            by_cases hin : 0 ≤ F.dir[k].1 ∧ F.dir[k].1 ≤ (F.sec.length : Int) - 1
            · obtain ⟨i0, i1⟩ := hin
              by_cases hbig : 96 < F.dir[k].2.size
              · go_wp2_with fail
                go_quiet ((go_at_call 20; exact Calls.quiet_of_same (is_yes _ _ _ _ i0 i1)))
                go_wp2_with fail
                go_ret
                exact ⟨false, rfl, ⟨(fun e => by cases e), fun r => absurd (r.data k hlt) (by omega)⟩, HB.out.trans ((below_drewN (HST.out.below _) _).mono (Nat.le_of_lt hzW))⟩
              · go_wp2_with fail
                go_quiet ((go_at_call 20; exact Calls.quiet_of_same (is_yes _ _ _ _ i0 i1)))
                have HST2 := Lib.hid (show Still W (wr.drewN nq) from HST.out.trans ⟨nq, rfl⟩)
                clear c0' c1' hc0 hc1 m0 HST
                go_wp2_with fail
                go_loopw [5] (fun i wr => OnceRel F k hlt W i wr) (fun i _ => k - (intOf i).toNat)
                case atStart => exact ⟨0, by omega, rfl, fun j _ hj => absurd hj (by omega), HST2.out⟩
                case round =>
                  clear HST2
                  obtain ⟨m, hm, rfl, honce, hst⟩ := hrel
                  have ONCE := Lib.hid honce
                  clear honce
                  have c0' : wr.cell? ⟨w.heap.size, 0, none⟩ = _ := ((hst.below W.heap.size).cell (p := ⟨w.heap.size, 0, none⟩) hzW).trans c0
                  have c1' : wr.cell? ⟨w.heap.size, 1, none⟩ = _ := ((hst.below W.heap.size).cell (p := ⟨w.heap.size, 1, none⟩) hzW).trans c1
                  by_cases hmk : m < k
                  · have hcm : wr.cell? ⟨b, off + m * 2, none⟩ = some (.int .i64 F.dir[m].1) := by
                      rw [(hst.below W.heap.size).cell (p := ⟨b, off + m * 2, none⟩) hbl, HC.out (m * 2) (by omega), dirs_even _ m (by omega)]
                    have hck : wr.cell? ⟨b, off + k * 2, none⟩ = some (.int .i64 F.dir[k].1) := by
                      rw [(hst.below W.heap.size).cell (p := ⟨b, off + k * 2, none⟩) hbl, HC.out (k * 2) (by omega), dirs_even _ k hlt]
                    have HST := Lib.hid hst
                    clear hst
                    have e2 : (m : Int) < (F.dir.length : Int) := by omega
                    have e3 : (0 : Int) ≤ (m : Int) := by omega
                    by_cases heq : F.dir[m].1 = F.dir[k].1
                    · have d4 : (F.dir[m].1 == F.dir[k].1) = true := by simpa using heq
                      have HEQ := Lib.hid heq
                      clear heq
                      go_wp2_with fail
                      go_quiet (fail)
                      go_wp2_with fail
                      go_ret
                      exact ⟨false, rfl, ⟨(fun e => by cases e), fun r => absurd HEQ.out (r.once m k hlt hmk)⟩, HB.out.trans ((below_drewN (HST.out.below _) _).mono (Nat.le_of_lt hzW))⟩
                    · have d4 : (F.dir[m].1 == F.dir[k].1) = false := by simpa using heq
                      have HEQ := Lib.hid heq
                      clear heq
                      go_wp2_with fail
                      go_quiet (fail)
                      go_wp2_with fail
                      go_roundw
                      case rel =>
                        have fin : OnceRel F k hlt W (.int .i64 ((m : Int) + 1)) (wr.drewN nq) := by
                          refine ⟨m + 1, by omega, by go_num, fun j hj hjm => ?_, HST.out.trans ⟨_, rfl⟩⟩
                          by_cases hjm' : j = m
                          · subst hjm'; exact HEQ.out
                          · exact ONCE.out j hj (by omega)
                        first | exact fin | ((repeat apply Exists.intro); exact ⟨fin, rfl⟩)
                      case measure => simp [intOf]; omega
                  · obtain rfl : m = k := by omega
                    have HST := Lib.hid hst
                    clear hst c0' c1'
                    go_wp2_with fail
                    go_roundw
                    case rel =>
                      have fin : DirRel F W (.int .i64 ((m : Int) + 1)) wr := by
                        refine ⟨m + 1, by omega, by go_num, ?_, HST.out⟩
                        have S := SEEN.out
                        refine ⟨fun j h hj => ?_, fun j h hj => ?_, fun j h hj => ?_, fun i j h hi hj => ?_⟩ <;> (by_cases hjk : j = m)
                        · subst hjk; exact i0
                        · exact S.at0 j h (by omega)
                        · subst hjk; exact i1
                        · exact S.at1 j h (by omega)
                        · subst hjk; omega
                        · exact S.data j h (by omega)
                        · subst hjk; exact ONCE.out i hi hi
                        · exact S.once i j h hi (by omega)
                      first | exact fin | ((repeat apply Exists.intro); exact ⟨fin, rfl⟩)
                    case measure => simp [intOf]; omega
            · have hout : F.dir[k].1 < 0 ∨ 0 ≤ F.dir[k].1 ∧ (F.sec.length : Int) - 1 < F.dir[k].1 := by omega
              have HOUT := Lib.hid hout
              have HIN := Lib.hid hin
              clear hout hin
              go_wp2_with fail
              go_quiet ((go_at_call 20; exact Calls.quiet_of_same (is_no _ _ _ _ HOUT.out)))
              go_wp2_with fail
              go_ret
              exact ⟨false, rfl, ⟨(fun e => by cases e), fun r => absurd ⟨r.at0 k hlt, r.at1 k hlt⟩ HIN.out⟩, HB.out.trans ((below_drewN (HST.out.below _) _).mono (Nat.le_of_lt hzW))⟩
          · obtain rfl : k = F.dir.length := by omega
            have HST := Lib.hid hst
            clear hst
            go_wp2_with fail
            go_ret
            have S := SEEN.out
            exact ⟨true, rfl, ⟨fun _ => ⟨g1, g2, g3, FITS.out, fun j h => S.at0 j h h, fun j h => S.at1 j h h, fun j h => S.data j h h, fun i j h hi => S.once i j h hi h⟩, fun _ => rfl⟩, HB.out.trans ((HST.out.below _).mono (Nat.le_of_lt hzW))⟩
  · have HA := Lib.hid hA
    have nope : ∀ r : Right F, False := fun r => HA.out ⟨r.least, r.most, r.dirty⟩
    have NO := Lib.hid nope
    clear nope
    by_cases h1 : F.sec.length < 1
    · clear hA HA
      go_enter Try.func32, Try.ntmps32
      go_wp2_with fail
      go_ret
      exact ⟨false, rfl, ⟨(fun e => by cases e), fun r => (NO.out r).elim⟩, HB.out⟩
    · by_cases h2 : 40 < F.sec.length
      · clear hA HA
        have d1 : decide ((F.sec.length : Int) < 1) = false := decide_eq_false (by omega)
        go_enter Try.func32, Try.ntmps32
        go_wp2_with fail
        go_ret
        exact ⟨false, rfl, ⟨(fun e => by cases e), fun r => (NO.out r).elim⟩, HB.out⟩
      · have h3 : F.sec.length < F.dir.length := by omega
        have d1 : decide ((F.sec.length : Int) < 1) = false := decide_eq_false (by omega)
        have d2 : decide ((40 : Int) < (F.sec.length : Int)) = false := decide_eq_false (by omega)
        clear hA HA
        go_enter Try.func32, Try.ntmps32
        go_wp2_with fail
        go_ret
        exact ⟨false, rfl, ⟨(fun e => by cases e), fun r => (NO.out r).elim⟩, HB.out⟩
end Go.Proofs.Ytocjjkjjojdpdaa
