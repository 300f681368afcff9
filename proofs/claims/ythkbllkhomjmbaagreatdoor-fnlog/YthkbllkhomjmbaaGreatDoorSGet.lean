/- The model's l03Ill, FlashNew, l03Get. -/
import Derived.Test.YthkbllkhomjmbaaGreatDoorSTorn
import Derived.Test.YthkbllkhomjmbaaGreatDoorSCopy
namespace Go.Proofs.YthkbllkhomjmbaaGreatDoor
open Go.RowKit

/-- An answer over a flash. -/
structure OM where
  fl : FM
  data : ByteArray
  code : Int
def OMade (w : World) (O : OM) (e : Ending) (w' : World) : Prop := ∃ sv dv, e = .returned (.agg #[sv, dv, .string O.data, .int .i64 O.code]) ∧ FOwn w' w.heap.size sv dv O.fl ∧ Below w.heap.size w w'
def noFlash : FM := ⟨[], []⟩
def illOf (code : Int) : OM := ⟨noFlash, ByteArray.empty, code⟩
theorem own_nil (w : World) (lo sz : Nat) (a : Option Addr) (c : Nat) : Own w lo (.slice a 0 c) 0 sz [] := ⟨by simp, _, _, rfl, fun h => absurd h (Nat.lt_irrefl 0)⟩
theorem noFlash_own (w : World) (lo : Nat) : FOwn w lo (.slice none 0 0) (.slice none 0 0) noFlash := ⟨own_nil w lo 1 none 0, own_nil w lo 2 none 0, fun k hk => by simp [blk, noFlash] at hk⟩

def freshOf (n : Int) : FM := if 1 ≤ n ∧ n ≤ 40 then ⟨List.replicate n.toNat ByteArray.empty, []⟩ else noFlash
/-- What is read of a sector that is there. -/
def getOf (F : FM) (at_ : Int) : ByteArray := match F.dir.find? (fun d => d.1 == at_) with
  | some d => d.2
  | none => F.sec.getD at_.toNat ByteArray.empty
theorem get_hit {F : FM} {at_ : Int} {k : Nat} (h : k < F.dir.length) (hb : ∀ j (hj : j < F.dir.length), j < k → F.dir[j].1 ≠ at_) (he : F.dir[k].1 = at_) : getOf F at_ = F.dir[k].2 := by
  have e : F.dir.find? (fun d => d.1 == at_) = some F.dir[k] := List.find?_eq_some_iff_getElem.2 ⟨by simpa using he, k, h, rfl, fun j hj => by simpa using hb j (by omega) hj⟩
  unfold getOf
  rw [e]
theorem get_miss {F : FM} {at_ : Int} (hb : ∀ j (hj : j < F.dir.length), F.dir[j].1 ≠ at_) (h0 : at_.toNat < F.sec.length) : getOf F at_ = F.sec[at_.toNat] := by
  have e : F.dir.find? (fun d => d.1 == at_) = none := List.find?_eq_none.2 fun d hd => by
    obtain ⟨j, hj, rfl⟩ := List.getElem_of_mem hd
    simpa using hb j hj
  unfold getOf
  rw [e]
  simp [h0]
def GetRel (F : FM) (at_ : Int) (W : World) (i : Value) (wr : World) : Prop := ∃ k : Nat, k ≤ F.dir.length ∧ i = .int .i64 k ∧ (∀ j (hj : j < F.dir.length), j < k → F.dir[j].1 ≠ at_) ∧ Still W wr

end Go.Proofs.YthkbllkhomjmbaaGreatDoor
