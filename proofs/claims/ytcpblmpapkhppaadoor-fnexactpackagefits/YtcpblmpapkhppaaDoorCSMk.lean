/- The specification's l07Make, l07Other, MadeBy. -/
import Derived.Test.YtcpblmpapkhppaaDoorCSImg
import Derived.Test.YtcpblmpapkhppaaDoorM1
namespace Go.Proofs.YtcpblmpapkhppaaDoor
open Go.RowKit

set_option maxRecDepth 100000 in
set_option maxHeartbeats 1000000 in
theorem specMake (k t f : Int) (d src : ByteArray) (w : World) (hd : d.size ≤ maxLen) (hs : src.size ≤ maxLen) :
    Calls Tryd.prog 124 #[.agg #[.int .i64 k, .int .i64 t, .int .i64 f, .string d], .string src] w fun e w' => e = .returned (.string (makeS (k, t, f, d) src)) ∧ Below w.heap.size w w' := by
  obtain ⟨R, hR⟩ : ∃ R, R = makeS (k, t, f, d) src := ⟨_, rfl⟩
  rw [← hR]
  unfold makeS at hR
  simp only at hR
  have HB := Lib.hid (below_alloc1 w (.cells #[.int .i64 k, .int .i64 t, .int .i64 f, .string d] 48))
  have HX := Lib.hid (bx_new w 48 #[.int .i64 k, .int .i64 t, .int .i64 f, .string d])
  by_cases h1 : k = 1
  · subst h1
    rw [if_pos rfl] at hR
    subst hR
    go_enter Tryd.func124, Tryd.ntmps124
    go_wp2_with fail
    refine (specZero _).mono ?_
    rintro e w1 ⟨rfl, hb⟩
    have HB2 := Lib.hid (below_more HB.out hb)
    clear hb
    go_wp2_with fail
    go_ret
    exact ⟨rfl, HB2.out⟩
  rw [if_neg h1] at hR
  have d1 : (k == 1) = false := by simpa using h1
  by_cases h2 : k = 2
  · subst h2
    rw [if_pos rfl] at hR
    subst hR
    go_enter Tryd.func124, Tryd.ntmps124
    go_wp2_with fail
    go_ret
    exact ⟨rfl, HB.out⟩
  rw [if_neg h2] at hR
  have d2 : (k == 2) = false := by simpa using h2
  by_cases h3 : k = 3
  · subst h3
    rw [if_pos rfl] at hR
    subst hR
    go_enter Tryd.func124, Tryd.ntmps124
    go_wp2_with fail
    go_ret
    exact ⟨rfl, HB.out⟩
  rw [if_neg h3] at hR
  have d3 : (k == 3) = false := by simpa using h3
  have HR := Lib.hid hR
  clear hR h1 h2 h3
  go_enter Tryd.func124, Tryd.ntmps124
  go_wp2_with fail
  have hc := specXored src d (w.alloc (.cells #[.int .i64 k, .int .i64 t, .int .i64 f, .string d] 48)) hs hd
  rw [← HR.out] at hc
  refine hc.mono ?_
  clear hc
  rintro e w1 ⟨rfl, hb⟩
  have HB2 := Lib.hid (below_more HB.out hb)
  clear hb
  go_wp2_with fail
  go_ret
  exact ⟨rfl, HB2.out⟩

def OtRel (a b : ByteArray) (w : World) (x i : Value) (wr : World) : Prop := ∃ k : Nat, k ≤ 8 ∧ i = .int .i64 k ∧ x = .int .i64 (diffT a b k) ∧ Still w wr
set_option maxRecDepth 100000 in
set_option maxHeartbeats 1000000 in
theorem specOther (a b : ByteArray) (w : World) (ha : a.size = 8) (hb : b.size = 8) :
    Calls Tryd.prog 142 #[.string a, .string b] w fun e w' => e = .returned (.int .i64 (diffN a b)) ∧ Still w w' := by
  obtain ⟨R, hR⟩ : ∃ R, R = diffN a b := ⟨_, rfl⟩
  rw [← hR]
  have HR := Lib.hid hR
  have HA8 := Lib.hid ha
  have HB8 := Lib.hid hb
  clear hR ha hb
  go_enter Tryd.func142, Tryd.ntmps142
  go_wp2_with fail
  go_loopw [5, 6] (fun x i wr => OtRel a b w x i wr) (fun _ i _ => 8 - (intOf i).toNat)
  case atStart => exact ⟨0, by omega, rfl, rfl, Still.refl _⟩
  case round =>
    obtain ⟨k, hk, rfl, rfl, hst⟩ := hrel
    have HST := Lib.hid hst
    clear hst
    have hle := diffT_le a b k
    by_cases hlt : k < 8
    · have ga : k < a.size := by rw [HA8.out]; exact hlt
      have gb : k < b.size := by rw [HB8.out]; exact hlt
      have ea := bat_int a k ga
      have eb := bat_int b k gb
      by_cases he : bat a k = bat b k
      · have HX := Lib.hid (diffT_yes he)
        have dx : (((bat a k).toNat : Int) != ((bat b k).toNat : Int)) = false := by rw [B_ne]; simpa using he
        clear he
        go_wp2_with fail
        go_quiet (fail)
        go_wp2_with fail
        go_roundw
        case rel =>
          have fin : OtRel a b w (.int .i64 (diffT a b k)) (.int .i64 ((k : Int) + 1)) (wr.drewN nq) := ⟨k + 1, by omega, by go_num, by rw [HX.out], HST.out.trans ⟨_, rfl⟩⟩
          first | exact fin | ((repeat apply Exists.intro); exact ⟨fin, rfl⟩)
        case measure => simp [intOf]; omega
      · have HX := Lib.hid (diffT_no he)
        have dx : (((bat a k).toNat : Int) != ((bat b k).toNat : Int)) = true := by rw [B_ne]; simpa using he
        clear he
        go_wp2_with fail
        go_quiet (fail)
        go_wp2_with fail
        go_roundw
        case rel =>
          have fin : OtRel a b w (.int .i64 ((diffT a b k : Int) + 1)) (.int .i64 ((k : Int) + 1)) (wr.drewN nq) := ⟨k + 1, by omega, by go_num, by rw [HX.out]; go_num, HST.out.trans ⟨_, rfl⟩⟩
          first | exact fin | ((repeat apply Exists.intro); exact ⟨fin, rfl⟩)
        case measure => simp [intOf]; omega
    · obtain rfl : k = 8 := by omega
      have hr : diffT a b 8 = R := by rw [HR.out]; exact diffT_all a b
      rw [hr]
      clear hle hr
      go_wp2_with fail
      go_ret
      exact ⟨rfl, HST.out⟩

/-- What a step gives to its block. -/
def madeS (l : List ByteArray) (x : stpT) : ByteArray := if imgB l = true ∧ x.1 ≠ 5 ∧ stepB (l.length : Int) x.1 x.2.1 x.2.2.1 x.2.2.2 = true then makeS x (l.getD x.2.2.1.toNat ⟨#[]⟩) else ⟨#[]⟩
theorem ok_from {n k t f : Int} {d : ByteArray} (h : stepB n k t f d = true) (h5 : k ≠ 5) : 0 ≤ f ∧ f < n ∧ 0 ≤ t ∧ t < n ∧ d.size ≤ 8 ∧ 1 ≤ k ∧ k ≤ 4 := by
  obtain ⟨hn, h⟩ := (stepB_iff ..).1 h
  rcases h with ⟨rfl, h1, rfl, h2⟩ | ⟨rfl, h1, rfl, h2⟩ | ⟨rfl, h1, h3, h2⟩ | ⟨rfl, h1, h3, h2⟩ | ⟨rfl, -⟩
  · have := (inB_iff _ _).1 h1; omega
  · have := (inB_iff _ _).1 h1; omega
  · have := (inB_iff _ _).1 h1; have := (inB_iff _ _).1 h3; omega
  · have := (inB_iff _ _).1 h1; have := (inB_iff _ _).1 h3; omega
  · exact absurd rfl h5

end Go.Proofs.YtcpblmpapkhppaaDoor
