/- The model's FlashRight: whether a flash is valid. -/
import Derived.Test.YtcckpkcjekcajaaDoorLFlash
namespace Go.Proofs.YtcckpkcjekcajaaDoor
open Go.RowKit

/-- A valid flash. -/
structure Right (F : FM) : Prop where
  least : 1 ≤ F.sec.length
  most : F.sec.length ≤ 40
  dirty : F.dir.length ≤ F.sec.length
  fits : ∀ j (h : j < F.sec.length), F.sec[j].size ≤ 96
  at0 : ∀ j (h : j < F.dir.length), 0 ≤ F.dir[j].1
  at1 : ∀ j (h : j < F.dir.length), F.dir[j].1 ≤ (F.sec.length : Int) - 1
  data : ∀ j (h : j < F.dir.length), F.dir[j].2.size ≤ 96
  once : ∀ i j (h : j < F.dir.length) (hi : i < j), F.dir[i].1 ≠ F.dir[j].1
def RightPost (F : FM) (w : World) (e : Ending) (w' : World) : Prop := ∃ b : Bool, e = .returned (.bool b) ∧ (b = true ↔ Right F) ∧ Below w.heap.size w w'

set_option maxRecDepth 100000 in
set_option maxHeartbeats 400000 in
theorem is_yes (n lo hi : Int) (w : World) (h0 : lo ≤ n) (h1 : n ≤ hi) :
    Calls Tryd.prog 69 #[.int .i64 n, .int .i64 lo, .int .i64 hi] w fun e w' => e = .returned (.bool true) ∧ w' = w := by
  go_enter Tryd.func69, Tryd.ntmps69
  go_wp2
  go_ret
  exact ⟨rfl, rfl⟩
set_option maxRecDepth 100000 in
set_option maxHeartbeats 400000 in
theorem is_no (n lo hi : Int) (w : World) (h : n < lo ∨ lo ≤ n ∧ hi < n) :
    Calls Tryd.prog 69 #[.int .i64 n, .int .i64 lo, .int .i64 hi] w fun e w' => e = .returned (.bool false) ∧ w' = w := by
  rcases h with h | ⟨h0, h⟩
  · have d0 : decide (lo ≤ n) = false := decide_eq_false (by omega)
    go_enter Tryd.func69, Tryd.ntmps69
    go_wp2
    go_ret
    exact ⟨rfl, rfl⟩
  · have d0 : decide (n ≤ hi) = false := decide_eq_false (by omega)
    go_enter Tryd.func69, Tryd.ntmps69
    go_wp2
    go_ret
    exact ⟨rfl, rfl⟩

def SecRel (F : FM) (i : Value) : Prop := ∃ k : Nat, k ≤ F.sec.length ∧ i = .int .i64 k ∧ ∀ j (h : j < F.sec.length), j < k → F.sec[j].size ≤ 96
/-- What has been seen of the first k elements of Dirty. -/
structure Seen (F : FM) (k : Nat) : Prop where
  at0 : ∀ j (h : j < F.dir.length), j < k → 0 ≤ F.dir[j].1
  at1 : ∀ j (h : j < F.dir.length), j < k → F.dir[j].1 ≤ (F.sec.length : Int) - 1
  data : ∀ j (h : j < F.dir.length), j < k → F.dir[j].2.size ≤ 96
  once : ∀ i j (h : j < F.dir.length) (hi : i < j), j < k → F.dir[i].1 ≠ F.dir[j].1
def DirRel (F : FM) (W : World) (i : Value) (wr : World) : Prop := ∃ k : Nat, k ≤ F.dir.length ∧ i = .int .i64 k ∧ Seen F k ∧ Still W wr
def OnceRel (F : FM) (k : Nat) (h : k < F.dir.length) (W : World) (i : Value) (wr : World) : Prop := ∃ m : Nat, m ≤ k ∧ i = .int .i64 m ∧ (∀ j (hj : j < k), j < m → F.dir[j].1 ≠ F.dir[k].1) ∧ Still W wr

end Go.Proofs.YtcckpkcjekcajaaDoor
