/- impl.isWrongSync, and the search for one in a list of acts. -/
import Derived.Test.YtocjjkjjojdpdaaSActsDo
namespace Go.Proofs.Ytocjjkjjojdpdaa
open Go.RowKit

def badB (a : actT) : Bool := a.1 && (a.2.1 != 0 || !a.2.2.toList.isEmpty)
theorem badB_iff (a : actT) : badB a = true ↔ badAct a := by
  unfold badB badAct
  simp

set_option maxHeartbeats 1000000 in
set_option maxRecDepth 100000 in
theorem wrong_any (s : Bool) (p : Int) (d : ByteArray) (w : World) :
    Calls Try.prog 39 #[.agg #[.bool s, .int .i64 p, .string d]] w fun e w' => e = .returned (.bool (badB (s, p, d))) ∧ Below w.heap.size w w' := by
  cases s with
  | false =>
    go_enter Try.func39, Try.ntmps39
    go_wp2_with fail
    go_ret
    exact ⟨rfl, (Below.refl _ _).alloc (Nat.le_refl _) _⟩
  | true =>
    by_cases hp : p = 0
    · subst hp
      by_cases hd : d = ⟨#[]⟩
      · subst hd
        have hb : badB (true, 0, ⟨#[]⟩) = false := by simp [badB, ByteArray.toList_eq]
        rw [hb]
        go_enter Try.func39, Try.ntmps39
        go_wp2_with fail
        go_ret
        exact ⟨rfl, (Below.refl _ _).alloc (Nat.le_refl _) _⟩
      · have hb : badB (true, 0, d) = true := by
          rw [badB_iff]; refine ⟨rfl, .inr ?_⟩
          cases he : d.toList.isEmpty with
          | false => rfl
          | true => exact absurd (ByteArray.ext (by simpa [ByteArray.toList_eq] using he)) hd
        rw [hb]
        have hd' : ¬ d.toList = [] := fun he => hd (ByteArray.ext (by simpa [ByteArray.toList_eq] using he))
        clear hb hd
        go_enter Try.func39, Try.ntmps39
        go_wp2_with fail
        go_ret
        exact ⟨rfl, (Below.refl _ _).alloc (Nat.le_refl _) _⟩
    · have hb : badB (true, p, d) = true := by rw [badB_iff]; exact ⟨rfl, .inl hp⟩
      rw [hb]
      clear hb
      go_enter Try.func39, Try.ntmps39
      go_wp2_with fail
      go_ret
      exact ⟨rfl, (Below.refl _ _).alloc (Nat.le_refl _) _⟩

def FindRel (l : List actT) (w : World) (i : Value) (wr : World) : Prop := ∃ k : Nat, k ≤ l.length ∧ i = .int .i64 k ∧ (∀ j (h : j < l.length), j < k → badB l[j] = false) ∧ Below w.heap.size w wr
/-- What IndexFunc gives: whether there is one, by the sign. -/
def Found (l : List actT) (w : World) (e : Ending) (w' : World) : Prop := ∃ r : Int, e = .returned (.int .i64 r) ∧ (0 ≤ r ↔ ∃ a ∈ l, badAct a) ∧ -1 ≤ r ∧ r ≤ 1048576 ∧ Below w.heap.size w w'

set_option maxHeartbeats 2000000 in
set_option maxRecDepth 100000 in
theorem index_any (vl : Value) (l : List actT) (w : World) (hl : Rd w vl l.length 3 (actCs l)) (hn : l.length ≤ 1048576) :
    Calls Try.prog 60 #[vl, .func (.func 39) #[] #[]] w (Found l w) := by
  obtain ⟨al, cl, rfl, -⟩ := id hl.2
  have HV := Lib.hid hl
  clear hl
  go_enter Try.func60, Try.ntmps60
  go_wp2_with fail
  go_loopw [8] (fun i wr => FindRel l w i wr) (fun i _ => l.length - (intOf i).toNat)
  case atStart => exact ⟨0, by omega, rfl, fun j _ hj => absurd hj (by omega), Below.refl _ _⟩
  case round =>
    obtain ⟨k, hk, rfl, hseen, hb⟩ := hrel
    have HSEEN := Lib.hid hseen
    have HB := Lib.hid hb
    clear hseen hb
    by_cases hlt : k < l.length
    · obtain ⟨b, off, rfl, hbl, hcell⟩ := HV.out.get (by omega)
      have r0 : wr.cell? ⟨b, off + k * 3, none⟩ = some (.bool l[k].1) := by rw [HB.out.cell (p := ⟨b, off + k * 3, none⟩) hbl, hcell (k * 3) (by omega), actCs_0 l k hlt]
      have r1 : wr.cell? ⟨b, off + k * 3 + 1, none⟩ = some (.int .i64 l[k].2.1) := by rw [HB.out.cell (p := ⟨b, off + k * 3 + 1, none⟩) hbl, Nat.add_assoc, hcell (k * 3 + 1) (by omega), actCs_1 l k hlt]
      have r2 : wr.cell? ⟨b, off + k * 3 + 2, none⟩ = some (.string l[k].2.2) := by rw [HB.out.cell (p := ⟨b, off + k * 3 + 2, none⟩) hbl, Nat.add_assoc, hcell (k * 3 + 2) (by omega), actCs_2 l k hlt]
      have e0 : (k : Int) < (l.length : Int) := by omega
      have e1 : (0 : Int) ≤ (k : Int) := by omega
      have hsz := HB.out.size
      clear hcell
      go_wp2_with fail
      refine (wrong_any l[k].1 l[k].2.1 l[k].2.2 _).mono ?_
      rintro e w2 ⟨rfl, hb2⟩
      have HB2 := Lib.hid (HB.out.trans (hb2.mono hsz))
      clear hb2
      obtain ⟨q, hq⟩ : ∃ q, badB (l[k].1, l[k].2.1, l[k].2.2) = q := ⟨_, rfl⟩
      have hq' : badB l[k] = q := hq
      rw [hq]
      have HQ := Lib.hid hq'
      clear hq hq'
      cases q with
      | true =>
        go_wp2_with fail
        go_ret
        exact ⟨k, rfl, ⟨fun _ => ⟨_, List.getElem_mem hlt, (badB_iff _).1 HQ.out⟩, fun _ => by omega⟩, by omega, by omega, HB2.out⟩
      | false =>
        go_wp2_with fail
        go_roundw
        case rel =>
          refine ⟨k + 1, by omega, by go_num, fun j h hj => ?_, HB2.out⟩
          by_cases hjk : j = k
          · subst hjk; exact HQ.out
          · exact HSEEN.out j h (by omega)
        case measure => simp [intOf]; omega
    · obtain rfl : k = l.length := by omega
      have d1 : decide ((l.length : Int) < (l.length : Int)) = false := decide_eq_false (by omega)
      go_wp2_with fail
      go_ret
      refine ⟨-1, rfl, ⟨fun h => by omega, fun ⟨a, ha, hbad⟩ => ?_⟩, by omega, by omega, HB.out⟩
      obtain ⟨j, hj, rfl⟩ := List.mem_iff_getElem.1 ha
      have := HSEEN.out j hj hj
      rw [(badB_iff _).2 hbad] at this
      cases this
end Go.Proofs.Ytocjjkjjojdpdaa
