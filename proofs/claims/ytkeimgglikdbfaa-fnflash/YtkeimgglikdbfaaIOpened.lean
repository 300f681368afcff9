/- The program's opened. -/
import Derived.Test.YtkeimgglikdbfaaIOpen
import Derived.Test.YtkeimgglikdbfaaIClone
import Derived.Carry
namespace Go.Proofs.Ytkeimgglikdbfaa
open Go.RowKit

/-- The unsynced writes as a function. -/
def mapOf (l : List D) : Int → Option ByteArray := l.foldl (fun m d => upd m d.1 d.2) (fun _ => none)
theorem mapOf_snoc (l : List D) (d : D) : mapOf (l ++ [d]) = upd (mapOf l) d.1 d.2 := by unfold mapOf; rw [List.foldl_append]; rfl
theorem mapOf_take (l : List D) (k : Nat) (h : k < l.length) : mapOf (l.take (k + 1)) = upd (mapOf (l.take k)) l[k].1 l[k].2 := by
  rw [List.take_succ_eq_append_getElem h, mapOf_snoc]
theorem mapOf_miss (l : List D) (x : Int) (h : ∀ d ∈ l, d.1 ≠ x) : mapOf l x = none := by
  have : ∀ (l : List D) (m : Int → Option ByteArray), (∀ d ∈ l, d.1 ≠ x) → (l.foldl (fun m d => upd m d.1 d.2) m) x = m x := by
    intro l
    induction l with
    | nil => intro m _; rfl
    | cons d l ih =>
      intro m h
      rw [List.foldl_cons, ih _ (fun d hd => h d (List.mem_cons_of_mem _ hd))]
      unfold upd
      rw [if_neg (fun e => h d (by simp) e.symm)]
  exact this l _ h
theorem mapOf_hit (l : List D) (h : ∀ i j (hj : j < l.length) (hi : i < j), l[i].1 ≠ l[j].1) (k : Nat) (hk : k < l.length) : mapOf l l[k].1 = some l[k].2 := by
  have : ∀ n, n ≤ l.length → k < n → mapOf (l.take n) l[k].1 = some l[k].2 := by
    intro n
    induction n with
    | zero => intro _ h; omega
    | succ n ih =>
      intro hn hkn
      rw [mapOf_take l n (by omega)]
      unfold upd
      by_cases e : k = n
      · subst e; rw [if_pos rfl]
      · rw [if_neg (h k n (by omega) (by omega))]
        exact ih (by omega) (by omega)
  have := this l.length (Nat.le_refl _) hk
  rwa [List.take_length] at this
theorem keys_take (l : List D) (k : Nat) (h : k < l.length) : (l.take (k + 1)).map (·.1) = (l.take k).map (·.1) ++ [l[k].1] := by
  rw [List.take_succ_eq_append_getElem h, List.map_append]; rfl
/-- What opened gives. -/
def Opened (w : World) (F : FM) (e : Ending) (w' : World) : Prop := ∃ pb mb sv ov, e = .returned (.pointer (some ⟨pb, 0, none⟩)) ∧ OF w' w.heap.size pb mb F.dir.length sv ov F.sec (mapOf F.dir) (F.dir.map (·.1)) ∧ Below w.heap.size w w'
def OpRel (F : FM) (w : World) (pb mb : Nat) (sv : Value) (i : Value) (wr : World) : Prop :=
  ∃ k ov, k ≤ F.dir.length ∧ i = .int .i64 (k : Nat) ∧ OF wr w.heap.size pb mb k sv ov F.sec (mapOf (F.dir.take k)) ((F.dir.take k).map (·.1)) ∧ Below w.heap.size w wr

set_option maxHeartbeats 2000000 in
set_option maxRecDepth 100000 in
theorem implOpened (sv dv : Value) (F : FM) (w : World) (h : FRd w sv dv F) (hr : Right F) :
    Calls Try.prog 31 #[.agg #[sv, dv]] w (Opened w F) := by
  obtain ⟨a, c, rfl, -⟩ := id h.1.2
  obtain ⟨a', c', rfl, -⟩ := id h.2.2
  have hmm := @run_makeMap Try.prog
  have HR := Lib.hid h
  have HRT := Lib.hid hr
  obtain ⟨l0, l1, l2⟩ : 1 ≤ F.sec.length ∧ F.sec.length ≤ 40 ∧ F.dir.length ≤ 40 := ⟨hr.least, hr.most, Nat.le_trans hr.dirty hr.most⟩
  clear h hr
  go_enter Try.func31, Try.ntmps31
  go_wp2_with fail
  have x0 := bx_new w 26 #[.slice a F.sec.length c, .slice a' F.dir.length c']
  have b0 := below_alloc1 w (.cells #[.slice a F.sec.length c, .slice a' F.dir.length c'] 26)
  have z0 := size_alloc1 w (.cells #[.slice a F.sec.length c, .slice a' F.dir.length c'] 26)
  generalize w.alloc (.cells #[.slice a F.sec.length c, .slice a' F.dir.length c'] 26) = W0 at *
  have X0 := Lib.hid x0
  have B0 := Lib.hid b0
  clear x0 b0
  refine (cloneS _ F.sec W0 (HR.out.1.below B0.out (Nat.le_refl _)) (by omega)).mono ?_
  rintro e w1 ⟨v, rfl, ho, hb⟩
  obtain ⟨a1, p1, rfl, -⟩ := id ho.2
  have g1 : W0.heap.size ≤ w1.heap.size := hb.size
  have bm := below_alloc1 w1 (.map #[] 0)
  have zm := size_alloc1 w1 (.map #[] 0)
  have bp := below_alloc1 (w1.alloc (.map #[] 0)) (.cells #[.slice a1 F.sec.length p1, .map (some w1.heap.size), .slice none 0 0] 79)
  have zp := size_alloc1 (w1.alloc (.map #[] 0)) (.cells #[.slice a1 F.sec.length p1, .map (some w1.heap.size), .slice none 0 0] 79)
  have hxp : Bx ((w1.alloc (.map #[] 0)).alloc (.cells #[.slice a1 F.sec.length p1, .map (some w1.heap.size), .slice none 0 0] 79)) (w1.heap.size + 1) 79 #[.slice a1 F.sec.length p1, .map (some w1.heap.size), .slice none 0 0] := by
    have := bx_new (w1.alloc (.map #[] 0)) 79 #[.slice a1 F.sec.length p1, .map (some w1.heap.size), .slice none 0 0]
    rwa [zm] at this
  have b1p : Below w1.heap.size w1 ((w1.alloc (.map #[] 0)).alloc (.cells #[.slice a1 F.sec.length p1, .map (some w1.heap.size), .slice none 0 0] 79)) := bm.trans (bp.mono (by omega))
  have hof : OF ((w1.alloc (.map #[] 0)).alloc (.cells #[.slice a1 F.sec.length p1, .map (some w1.heap.size), .slice none 0 0] 79)) w.heap.size (w1.heap.size + 1) w1.heap.size 0 (.slice a1 F.sec.length p1) (.slice none 0 0) F.sec (mapOf (F.dir.take 0)) ((F.dir.take 0).map (·.1)) := by
    refine ⟨hxp, (ho.below b1p (Nat.le_refl _)).lower (by omega), (mapAt_new w1).next bp, ⟨rfl, .inl ⟨rfl, rfl⟩⟩, by omega, by omega, fun k hk => ?_, fun k hk => by simp [Value.ownBlock] at hk⟩
    have := (ho.blk k hk).2
    omega
  have hbw : Below w.heap.size w ((w1.alloc (.map #[] 0)).alloc (.cells #[.slice a1 F.sec.length p1, .map (some w1.heap.size), .slice none 0 0] 79)) := B0.out.trans ((hb.trans (b1p.mono g1)).mono (by omega))
  have c1 := ((X0.out.next hb).next b1p).c1
  have HO := Lib.hid hof
  have HB := Lib.hid hbw
  clear hof hbw b1p hxp bm bp ho hb X0 B0
  go_wp2_with fail
  generalize (w1.alloc (.map #[] 0)).alloc (.cells #[.slice a1 F.sec.length p1, .map (some w1.heap.size), .slice none 0 0] 79) = W1 at *
  generalize w1.heap.size = mb at *
  clear zm zp hmm
  clear w1
  go_loopw [15] (fun i wr => OpRel F w (mb + 1) mb (.slice a1 F.sec.length p1) i wr) (fun i _ => F.dir.length - (intOf i).toNat)
  case atStart => exact ⟨0, _, by omega, rfl, HO.out, HB.out⟩
  case round =>
    clear c1
    obtain ⟨k, ov, hk, rfl, hof, hbw⟩ := hrel
    by_cases hlt : k < F.dir.length
    · obtain ⟨b, off, rfl, hbl, hc⟩ := HR.out.2.get (by omega)
      have hc0 : wr.cell? ⟨b, off + k * 2, none⟩ = some (.int .i64 F.dir[k].1) := by rw [hbw.cell (p := ⟨b, off + k * 2, none⟩) hbl, hc (k * 2) (by omega), dirs_even _ k hlt]
      have hc1 : wr.cell? ⟨b, off + k * 2 + 1, none⟩ = some (.string F.dir[k].2) := by rw [hbw.cell (p := ⟨b, off + k * 2 + 1, none⟩) hbl, Nat.add_assoc, hc (k * 2 + 1) (by omega), dirs_odd _ k hlt]
      have e0 : (k : Int) < (F.dir.length : Int) := by omega
      have e1 : (0 : Int) ≤ (k : Int) := by omega
      have bA := below_alloc1 wr (.cells #[.int .i64 F.dir[k].1, .string F.dir[k].2] 63)
      have OA := Lib.hid (hof.next bA)
      have gw := hbw.size
      have BA := Lib.hid (hbw.trans (bA.mono gw))
      clear hc hof hbw bA
      go_wp2_with fail
      have t0 := HRT.out.at0 k hlt
      have t1 := HRT.out.at1 k hlt
      have t2 := HRT.out.data k hlt
      refine (write_miss _ _ _ _ _ _ _ _ _ F.dir[k].1 F.dir[k].2 _ OA.out (mapOf_miss _ _ (fun d hd e => ?_)) (by omega) (by omega) (by unfold maxLen; omega) (by unfold maxLen; omega) (by simp; omega)).mono ?_
      · obtain ⟨i, hi, rfl⟩ := List.mem_take_iff_getElem.1 hd
        exact HRT.out.once i k hlt (by omega) e
      rintro e w2 ⟨rfl, ⟨ov', ho⟩, hb⟩
      have HO2 := Lib.hid ho
      have HB2 := Lib.hid (BA.out.trans hb)
      clear ho hb
      go_wp2_with fail
      go_roundw
      case rel =>
        have fin : OpRel F w (mb + 1) mb (.slice a1 F.sec.length p1) (.int .i64 ((k : Int) + 1)) w2 := by
          refine ⟨k + 1, ov', by omega, by go_num, ?_, HB2.out⟩
          rw [mapOf_take F.dir k hlt, keys_take F.dir k hlt]
          exact HO2.out
        first | exact fin | ((repeat apply Exists.intro); exact ⟨fin, rfl⟩)
      case measure => simp [intOf]; omega
    · obtain rfl : k = F.dir.length := by omega
      rw [List.take_length] at hof
      have HO2 := Lib.hid hof
      have HB2 := Lib.hid hbw
      clear hof hbw
      go_wp2_with fail
      go_ret
      exact ⟨_, _, _, _, rfl, HO2.out, HB2.out⟩
end Go.Proofs.Ytkeimgglikdbfaa
