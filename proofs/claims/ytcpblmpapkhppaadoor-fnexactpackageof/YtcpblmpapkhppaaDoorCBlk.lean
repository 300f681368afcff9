/- Blocks as arrays and strings in a walk; plain facts. -/
import Derived.Test.YtcpblmpapkhppaaDoorM1
import Derived.Test.YtcpblmpapkhppaaDoorCImM
namespace Go.Proofs.YtcpblmpapkhppaaDoor
open Go.RowKit

theorem u8_lt (x : UInt8) : x.toNat < 256 := UInt8.toNat_lt x
theorem u8_xor (x y : UInt8) : bits BinOp.xor IntKind.u8 (x.toNat : Int) (y.toNat : Int) = ((x ^^^ y).toNat : Int) := by
  show IntKind.u8.wrap ((BitVec.ofInt 8 (x.toNat : Int) ^^^ BitVec.ofInt 8 (y.toNat : Int)).toNat : Int) = _
  have h := u8_lt (x ^^^ y)
  have hx : x.toNat % 2 ^ 8 = x.toNat := Nat.mod_eq_of_lt (u8_lt x)
  have hy : y.toNat % 2 ^ 8 = y.toNat := Nat.mod_eq_of_lt (u8_lt y)
  rw [BitVec.toNat_xor, BitVec.ofInt_natCast, BitVec.ofInt_natCast, BitVec.toNat_ofNat, BitVec.toNat_ofNat, hx, hy, IntKind.wrap_u8, ← UInt8.toNat_xor]
  omega
/-- A block as an array's cells. -/
def blkA (s : ByteArray) : Array Value := #[B (bat s 0), B (bat s 1), B (bat s 2), B (bat s 3), B (bat s 4), B (bat s 5), B (bat s 6), B (bat s 7)]
theorem blkA_size (s : ByteArray) : (blkA s).size = 8 := rfl
theorem blkA_at (s : ByteArray) (j : Nat) (h : j < 8) : (blkA s)[j]? = some (B (bat s j)) := by
  match j, h with
  | 0, _ | 1, _ | 2, _ | 3, _ | 4, _ | 5, _ | 6, _ | 7, _ => rfl
  | j + 8, h => omega
theorem bat_get (s : ByteArray) (k : Nat) (h : k < s.size) : s[k] = bat s k := by
  unfold bat
  have h' : k < s.data.size := h
  rw [Array.getD_eq_getD_getElem?, Array.getElem?_eq_getElem h']; rfl
theorem bat_int (s : ByteArray) (k : Nat) (h : k < s.size) : (s[k].toNat : Int) = ((bat s k).toNat : Int) := by rw [bat_get s k h]
theorem B_ne {x y : UInt8} : ((x.toNat : Int) != (y.toNat : Int)) = (x != y) := by
  by_cases h : x = y
  · subst h; simp
  · have h1 : (x.toNat : Int) ≠ (y.toNat : Int) := fun e => h (UInt8.toNat_inj.1 (by omega))
    rw [bne_iff_ne.2 h1, bne_iff_ne.2 h]
/-- The bytes of a block. -/
theorem bytes_block {s : ByteArray} (h : s.size = 8) : s.data.toList = [bat s 0, bat s 1, bat s 2, bat s 3, bat s 4, bat s 5, bat s 6, bat s 7] := by
  have h' : s.data.toList.length = 8 := by rw [Array.length_toList]; exact h
  apply List.ext_getElem
  · simpa using h'
  · intro j h1 h2
    have hj : j < 8 := by omega
    have e : s.data.toList[j] = bat s j := by
      unfold bat
      rw [Array.getD_eq_getD_getElem?, Array.getElem?_eq_getElem (by simpa using h1)]; simp
    rw [e]
    match j, hj with
    | 0, _ | 1, _ | 2, _ | 3, _ | 4, _ | 5, _ | 6, _ | 7, _ => rfl
    | j + 8, h => omega
theorem block_bytes {s : ByteArray} (h : s.size = 8) : (⟨[bat s 0, bat s 1, bat s 2, bat s 3, bat s 4, bat s 5, bat s 6, bat s 7].toArray⟩ : ByteArray) = s := by
  rw [← bytes_block h]
/-- Eight bytes as a block. -/
def ofB (f : Nat → UInt8) : ByteArray := ⟨((List.range 8).map f).toArray⟩
theorem ofB_size (f : Nat → UInt8) : (ofB f).size = 8 := by simp [ofB, ByteArray.size]
theorem ofB_at (f : Nat → UInt8) (i : Nat) (h : i < 8) : bat (ofB f) i = f i := by
  unfold bat ofB
  rw [Array.getD_eq_getD_getElem?]
  simp [h]
theorem xor8_ofB (a b : ByteArray) : xor8 a b = ofB fun i => bat a i ^^^ bat b i := rfl
theorem zero8_ofB : zero8 = ofB fun _ => 0 := by
  refine block_ext zero8_size (ofB_size _) fun i hi => ?_
  rw [ofB_at _ i hi]
  unfold bat zero8
  match i, hi with
  | 0, _ | 1, _ | 2, _ | 3, _ | 4, _ | 5, _ | 6, _ | 7, _ => rfl
  | j + 8, h => omega
/-- In how many of the first k bytes two blocks differ. -/
def diffT (a b : ByteArray) : Nat → Nat
  | 0 => 0
  | k + 1 => if bat a k = bat b k then diffT a b k else diffT a b k + 1
theorem diffT_le (a b : ByteArray) : ∀ k, diffT a b k ≤ k
  | 0 => Nat.le_refl _
  | k + 1 => by have := diffT_le a b k; simp only [diffT]; split <;> omega
theorem diffT_eq (a b : ByteArray) : ∀ k, diffT a b k = ((List.range k).filter fun i => bat a i != bat b i).length
  | 0 => rfl
  | k + 1 => by
    rw [List.range_succ, List.filter_append, List.length_append, ← diffT_eq a b k]
    simp only [diffT]
    by_cases h : bat a k = bat b k
    · rw [if_pos h]; simp [h]
    · rw [if_neg h]; simp [h]
theorem diffT_all (a b : ByteArray) : diffT a b 8 = diffN a b := diffT_eq a b 8
theorem diffT_yes {a b : ByteArray} {k : Nat} (h : bat a k = bat b k) : diffT a b (k + 1) = diffT a b k := by simp only [diffT]; rw [if_pos h]
theorem diffT_no {a b : ByteArray} {k : Nat} (h : bat a k ≠ bat b k) : diffT a b (k + 1) = diffT a b k + 1 := by simp only [diffT]; rw [if_neg h]
theorem diffN_comm (a b : ByteArray) : diffN a b = diffN b a := by
  unfold diffN; congr 2; funext i
  by_cases h : bat a i = bat b i
  · rw [h]
  · rw [bne_iff_ne.2 h, bne_iff_ne.2 (fun e => h e.symm)]
theorem xorS_comm (a b : ByteArray) : xorS a b = xorS b a := by
  unfold xorS
  by_cases h : a.size = 8 ∧ b.size = 8
  · rw [if_pos h, if_pos ⟨h.2, h.1⟩]
    refine block_ext (xor8_size _ _) (xor8_size _ _) fun i hi => ?_
    rw [bat_xor8 _ _ i hi, bat_xor8 _ _ i hi, UInt8.xor_comm]
  · rw [if_neg h, if_neg (fun h' => h ⟨h'.2, h'.1⟩)]
instance (l : List ByteArray) : Decidable (ImgOk l) := by unfold ImgOk; infer_instance
def imgB (l : List ByteArray) : Bool := decide (ImgOk l)
theorem imgB_iff (l : List ByteArray) : imgB l = true ↔ ImgOk l := by unfold imgB; simp
theorem imgB_yes {l : List ByteArray} (h : ImgOk l) : imgB l = true := (imgB_iff l).2 h
theorem imgB_no {l : List ByteArray} (h : ¬ ImgOk l) : imgB l = false := by unfold imgB; exact decide_eq_false h
end Go.Proofs.YtcpblmpapkhppaaDoor
