/- Ground texts of this claim, in one. -/
import Derived.ArgAppend
import Derived.Below
import Derived.Lib.ConvBytes
import Derived.Lib.Hide
import Derived.Stop.BytesEq
import Derived.Test.YtcckpkcjekcajaaDoorBCodeM
import Derived.Test.YtcckpkcjekcajaaDoorBIKind
import Derived.Test.YtcckpkcjekcajaaDoorBIRight
import Derived.Test.YtcckpkcjekcajaaDoorBSCode
import Derived.Test.YtcckpkcjekcajaaDoorBSRight
import Derived.Test.YtcckpkcjekcajaaDoorBStepM
import Derived.Test.YtcckpkcjekcajaaDoorBase
import Derived.Test.YtcckpkcjekcajaaDoorLBox
import Derived.Test.YtcckpkcjekcajaaDoorLStr
import Derived.Test.YtcckpkcjekcajaaDoorM1
import Derived.Test.YtcckpkcjekcajaaDoorM2
import Derived.Test.YtcckpkcjekcajaaDoorRowz
import Derived.WalkKit
import Derived.WalkSpells
namespace Go.Proofs.YtcckpkcjekcajaaDoor
open Go.RowKit

/-- Byte i of a block. -/
def bat (a : ByteArray) (i : Nat) : UInt8 := a.data.getD i 0
def zero8 : ByteArray := ⟨(List.replicate 8 (0 : UInt8)).toArray⟩
def xor8 (a b : ByteArray) : ByteArray := ⟨((List.range 8).map fun i => bat a i ^^^ bat b i).toArray⟩
/-- Two blocks put together. -/
def xorS (a b : ByteArray) : ByteArray := if a.size = 8 ∧ b.size = 8 then xor8 a b else ⟨#[]⟩
theorem xor8_size (a b : ByteArray) : (xor8 a b).size = 8 := by simp [xor8, ByteArray.size]
theorem zero8_size : zero8.size = 8 := by simp [zero8, ByteArray.size]
theorem bat_xor8 (a b : ByteArray) (i : Nat) (h : i < 8) : bat (xor8 a b) i = bat a i ^^^ bat b i := by
  unfold xor8
  show (Array.getD _ i 0) = _
  rw [Array.getD_eq_getD_getElem?]
  simp [h]
theorem block_ext {a b : ByteArray} (ha : a.size = 8) (hb : b.size = 8) (h : ∀ i, i < 8 → bat a i = bat b i) : a = b := by
  apply ByteArray.ext
  have ha' : a.data.size = 8 := ha
  have hb' : b.data.size = 8 := hb
  apply Array.ext (by omega)
  intro i h1 h2
  have := h i (by omega)
  unfold bat at this
  rw [Array.getD_eq_getD_getElem?, Array.getD_eq_getD_getElem?, Array.getElem?_eq_getElem h1, Array.getElem?_eq_getElem h2] at this
  simpa using this
theorem xor8_back {a b : ByteArray} (hb : b.size = 8) : xor8 a (xor8 a b) = b := by
  refine block_ext (xor8_size _ _) hb fun i hi => ?_
  rw [bat_xor8 _ _ i hi, bat_xor8 _ _ i hi, ← UInt8.xor_assoc, UInt8.xor_self, UInt8.zero_xor]
theorem xorS_size (a b : ByteArray) : (xorS a b).size ≤ 8 := by
  unfold xorS; split
  · rw [xor8_size]; omega
  · exact Nat.zero_le _
/-- A valid image. -/
def ImgOk (l : List ByteArray) : Prop := (1 ≤ l.length ∧ l.length ≤ 8) ∧ ∀ s ∈ l, s.size = 8
/-- What a step makes, of what its source is. -/
def makeS (x : stpT) (src : ByteArray) : ByteArray := if x.1 = 1 then zero8 else if x.1 = 2 then x.2.2.2 else if x.1 = 3 then src else xorS src x.2.2.2
/-- One step applied: what it reads is the first image. -/
def put1 (image out : List ByteArray) (x : stpT) : List ByteArray := if x.1 = 5 then out else out.set x.2.1.toNat (makeS x (image.getD x.2.2.1.toNat ⟨#[]⟩))
def applyL (image : List ByteArray) (l : List stpT) : List ByteArray := l.foldl (put1 image) image
theorem put1_length (image out : List ByteArray) (x : stpT) : (put1 image out x).length = out.length := by unfold put1; split <;> simp
theorem fold_length (image : List ByteArray) : ∀ (l : List stpT) (out : List ByteArray), (l.foldl (put1 image) out).length = out.length
  | [], _ => rfl
  | x :: l, out => by rw [List.foldl_cons, fold_length image l, put1_length]
theorem applyL_length (image : List ByteArray) (l : List stpT) : (applyL image l).length = image.length := fold_length image l image
theorem applyL_snoc (image : List ByteArray) (l : List stpT) (x : stpT) : applyL image (l ++ [x]) = put1 image (applyL image l) x := by simp [applyL]
/-- In how many bytes two blocks differ. -/
def diffN (a b : ByteArray) : Nat := ((List.range 8).filter fun i => bat a i != bat b i).length
/-- The step that makes a block of an old image. -/
def stepForS (old : List ByteArray) (tgt : Nat) (fresh : ByteArray) : stpT :=
  if fresh = zero8 then (1, (tgt : Int), 0, ⟨#[]⟩)
  else match old.findIdx? (fun s => decide (s = fresh)) with
    | some i => (3, (tgt : Int), (i : Int), ⟨#[]⟩)
    | none => match old.findIdx? (fun s => decide (diffN s fresh ≤ 2)) with
      | some i => (4, (tgt : Int), (i : Int), xorS (old.getD i ⟨#[]⟩) fresh)
      | none => (2, (tgt : Int), 0, fresh)
def forT (old fresh : List ByteArray) : Nat → List stpT
  | 0 => []
  | k + 1 => if old.getD k ⟨#[]⟩ = fresh.getD k ⟨#[]⟩ then forT old fresh k else forT old fresh k ++ [stepForS old k (fresh.getD k ⟨#[]⟩)]
theorem stepFor_to (old : List ByteArray) (tgt : Nat) (fresh : ByteArray) : (stepForS old tgt fresh).2.1 = (tgt : Int) ∧ (stepForS old tgt fresh).1 ≠ 5 := by
  unfold stepForS
  split
  · exact ⟨rfl, by simp⟩
  · split
    · exact ⟨rfl, by simp⟩
    · split
      · exact ⟨rfl, by simp⟩
      · exact ⟨rfl, by simp⟩
theorem stepFor_makes {old : List ByteArray} (ho : ImgOk old) (tgt : Nat) {fresh : ByteArray} (hf : fresh.size = 8) :
    makeS (stepForS old tgt fresh) (old.getD (stepForS old tgt fresh).2.2.1.toNat ⟨#[]⟩) = fresh := by
  unfold stepForS
  by_cases h : fresh = zero8
  · rw [if_pos h]; simp [makeS, h]
  · rw [if_neg h]
    cases h1 : old.findIdx? (fun s => decide (s = fresh)) with
    | some i =>
      obtain ⟨hl, hp, -⟩ := List.findIdx?_eq_some_iff_getElem.1 h1
      have he : old[i] = fresh := by simpa using hp
      simp [makeS, List.getElem?_eq_getElem hl, he]
    | none =>
      cases h2 : old.findIdx? (fun s => decide (diffN s fresh ≤ 2)) with
      | some i =>
        obtain ⟨hl, -, -⟩ := List.findIdx?_eq_some_iff_getElem.1 h2
        have hs : old[i].size = 8 := ho.2 _ (List.getElem_mem hl)
        have hg : old.getD i ⟨#[]⟩ = old[i] := by rw [List.getD_eq_getElem?_getD, List.getElem?_eq_getElem hl]; rfl
        show makeS (4, (tgt : Int), (i : Int), xorS (old.getD i ⟨#[]⟩) fresh) (old.getD ((i : Int).toNat) ⟨#[]⟩) = fresh
        rw [Int.toNat_natCast, hg]
        show xorS old[i] (xorS old[i] fresh) = fresh
        have e : xorS old[i] fresh = xor8 old[i] fresh := by unfold xorS; rw [if_pos ⟨hs, hf⟩]
        rw [e]
        unfold xorS
        rw [if_pos ⟨hs, xor8_size _ _⟩, xor8_back hf]
      | none => simp [makeS]
/-- The first k blocks are the fresh ones, the others the old ones. -/
theorem apply_for {old fresh : List ByteArray} (ho : ImgOk old) (hf : ImgOk fresh) (hl : old.length = fresh.length) : ∀ k, k ≤ old.length → applyL old (forT old fresh k) = fresh.take k ++ old.drop k
  | 0, _ => by simp [forT, applyL]
  | k + 1, hk => by
    have ih := apply_for ho hf hl k (by omega)
    have hko : k < old.length := by omega
    have hkf : k < fresh.length := by omega
    have go : old.getD k ⟨#[]⟩ = old[k] := by rw [List.getD_eq_getElem?_getD, List.getElem?_eq_getElem hko]; rfl
    have gf : fresh.getD k ⟨#[]⟩ = fresh[k] := by rw [List.getD_eq_getElem?_getD, List.getElem?_eq_getElem hkf]; rfl
    have e1 : fresh.take (k + 1) = fresh.take k ++ [fresh[k]] := List.take_succ_eq_append_getElem hkf
    have e2 : old.drop k = old[k] :: old.drop (k + 1) := List.drop_eq_getElem_cons hko
    simp only [forT]
    rw [go, gf]
    split
    · rename_i h
      rw [ih, e1, e2, h, List.append_assoc]; rfl
    · rw [applyL_snoc, ih]
      unfold put1
      rw [if_neg (stepFor_to _ _ _).2, (stepFor_to _ _ _).1, stepFor_makes ho k (hf.2 _ (List.getElem_mem hkf))]
      rw [Int.toNat_natCast, List.set_append_right _ _ (by simp; omega)]
      have : k - (fresh.take k).length = 0 := by simp; omega
      rw [this, e1, e2, List.append_assoc]; rfl
theorem apply_all {old fresh : List ByteArray} (ho : ImgOk old) (hf : ImgOk fresh) (hl : old.length = fresh.length) : applyL old (forT old fresh old.length) = fresh := by
  rw [apply_for ho hf hl old.length (Nat.le_refl _), List.drop_length, List.append_nil, hl, List.take_length]
theorem for_same (old : List ByteArray) : ∀ k, forT old old k = []
  | 0 => rfl
  | k + 1 => by simp [forT, for_same old k]
/-- What block i is to be. -/
def want1 (image : List ByteArray) (i : Nat) (w : ByteArray) (x : stpT) : ByteArray := if x.1 ≠ 5 ∧ x.2.1 = (i : Int) then makeS x (image.getD x.2.2.1.toNat ⟨#[]⟩) else w
theorem put1_at (image out : List ByteArray) (x : stpT) (i : Nat) (hx : x.1 ≠ 5 → 0 ≤ x.2.1) (w : ByteArray) (h : out[i]? = some w) : (put1 image out x)[i]? = some (want1 image i w x) := by
  have hi : i < out.length := (List.getElem?_eq_some_iff.1 h).1
  unfold put1 want1
  by_cases h5 : x.1 = 5
  · rw [if_pos h5, if_neg (fun h' => h'.1 h5)]; exact h
  · rw [if_neg h5]
    have h0 := hx h5
    by_cases ht : x.2.1 = (i : Int)
    · rw [if_pos ⟨h5, ht⟩, ht, Int.toNat_natCast, List.getElem?_set_self hi]
    · rw [if_neg (fun h' => ht h'.2), List.getElem?_set_ne (by omega)]; exact h
theorem fold_at (image : List ByteArray) (i : Nat) : ∀ (l : List stpT) (out : List ByteArray) (w : ByteArray), (∀ x ∈ l, x.1 ≠ 5 → 0 ≤ x.2.1) → out[i]? = some w → (l.foldl (put1 image) out)[i]? = some (l.foldl (want1 image i) w)
  | [], _, _, _, h => h
  | x :: l, out, w, hl, h => by
    rw [List.foldl_cons, List.foldl_cons]
    exact fold_at image i l _ _ (fun y hy => hl y (List.mem_cons_of_mem _ hy)) (put1_at image out x i (hl x (List.mem_cons_self ..)) w h)
theorem stepFor_ok {old : List ByteArray} (ho : ImgOk old) {tgt : Nat} (ht : tgt < old.length) {fresh : ByteArray} (hf : fresh.size = 8) : wrongS (old.length : Int) (stepForS old tgt fresh) = false := by
  obtain ⟨⟨n0, n1⟩, hs⟩ := ho
  have hto : inB (tgt : Int) (old.length : Int) = true := (inB_iff _ _).2 ⟨by omega, by omega⟩
  have hn : (1 : Int) ≤ (old.length : Int) ∧ (old.length : Int) ≤ 8 := ⟨by omega, by omega⟩
  have he : (⟨#[]⟩ : ByteArray).size = 0 := rfl
  unfold wrongS
  have key : ∀ x : stpT, StepOk (old.length : Int) x.1 x.2.1 x.2.2.1 x.2.2.2 → (!stepB (old.length : Int) x.1 x.2.1 x.2.2.1 x.2.2.2) = false := fun x h => by rw [stepB_yes h]; rfl
  refine key _ ?_
  unfold stepForS
  by_cases h : fresh = zero8
  · rw [if_pos h]; exact ⟨hn, .inl ⟨rfl, hto, rfl, he⟩⟩
  · rw [if_neg h]
    cases h1 : old.findIdx? (fun s => decide (s = fresh)) with
    | some i =>
      obtain ⟨hl, -, -⟩ := List.findIdx?_eq_some_iff_getElem.1 h1
      exact ⟨hn, .inr (.inr (.inl ⟨rfl, hto, (inB_iff _ _).2 ⟨by simp only; omega, by simp only; omega⟩, he⟩))⟩
    | none =>
      cases h2 : old.findIdx? (fun s => decide (diffN s fresh ≤ 2)) with
      | some i =>
        obtain ⟨hl, -, -⟩ := List.findIdx?_eq_some_iff_getElem.1 h2
        have hg : old.getD i ⟨#[]⟩ = old[i] := by rw [List.getD_eq_getElem?_getD, List.getElem?_eq_getElem hl]; rfl
        refine ⟨hn, .inr (.inr (.inr (.inl ⟨rfl, hto, (inB_iff _ _).2 ⟨by simp only; omega, by simp only; omega⟩, ?_⟩)))⟩
        show (xorS (old.getD i ⟨#[]⟩) fresh).size = 8
        rw [hg]
        unfold xorS
        rw [if_pos ⟨hs _ (List.getElem_mem hl), hf⟩, xor8_size]
      | none => exact ⟨hn, .inr (.inl ⟨rfl, hto, rfl, hf⟩)⟩
theorem forT_mem {old fresh : List ByteArray} : ∀ {k : Nat} {x : stpT}, x ∈ forT old fresh k → ∃ tgt, tgt < k ∧ x = stepForS old tgt (fresh.getD tgt ⟨#[]⟩)
  | 0, _, h => by simp [forT] at h
  | k + 1, x, h => by
    simp only [forT] at h
    split at h
    · obtain ⟨tgt, h1, h2⟩ := forT_mem h; exact ⟨tgt, by omega, h2⟩
    · rcases List.mem_append.1 h with h' | h'
      · obtain ⟨tgt, h1, h2⟩ := forT_mem h'; exact ⟨tgt, by omega, h2⟩
      · exact ⟨k, by omega, List.mem_singleton.1 h'⟩
theorem forT_len (old fresh : List ByteArray) : ∀ k, (forT old fresh k).length ≤ k
  | 0 => Nat.le_refl _
  | k + 1 => by
    have := forT_len old fresh k
    simp only [forT]
    split
    · omega
    · simp; omega
theorem forT_apart (old fresh : List ByteArray) : ∀ k, Apart (forT old fresh k) (forT old fresh k).length
  | 0 => fun i j hi _ => absurd hi (by simp [forT])
  | k + 1 => by
    have ih := forT_apart old fresh k
    simp only [forT]
    split
    · exact ih
    · rintro i j hi hj ⟨h1, h2, h3, h4, h5⟩
      have hlen : (forT old fresh k ++ [stepForS old k (fresh.getD k ⟨#[]⟩)]).length = (forT old fresh k).length + 1 := by simp
      rw [hlen] at hi h1 h2
      have hj2 : j < (forT old fresh k).length := by omega
      by_cases hik : i < (forT old fresh k).length
      · rw [List.getElem_append_left hik] at h3 h5
        rw [List.getElem_append_left hj2] at h4 h5
        exact ih i j hik hj ⟨hik, hj2, h3, h4, h5⟩
      · have hi2 : i = (forT old fresh k).length := by omega
        subst hi2
        rw [List.getElem_append_right (Nat.le_refl _), List.getElem_append_left hj2] at h5
        simp only [Nat.sub_self, List.getElem_cons_zero] at h5
        obtain ⟨tgt, ht, hx⟩ := forT_mem (List.getElem_mem hj2)
        rw [hx, (stepFor_to _ _ _).1, (stepFor_to _ _ _).1] at h5
        omega
/-- The steps of a difference may stand together. -/
theorem forT_code {old fresh : List ByteArray} (ho : ImgOk old) (hf : ImgOk fresh) (hl : old.length = fresh.length) : codeS (forT old fresh old.length) (old.length : Int) = 0 := by
  have hn := ho.1
  refine codeS_ok ?_ (apart_all (forT_apart old fresh _)) ?_
  · rintro (h | h | ⟨s, hs, hw⟩)
    · exact h ⟨by omega, by omega⟩
    · have := forT_len old fresh old.length; omega
    · obtain ⟨tgt, ht, rfl⟩ := forT_mem hs
      have hg : fresh.getD tgt ⟨#[]⟩ = fresh[tgt] := by rw [List.getD_eq_getElem?_getD, List.getElem?_eq_getElem (by omega)]; rfl
      rw [stepFor_ok ho ht (by rw [hg]; exact hf.2 _ (List.getElem_mem (by omega)))] at hw
      cases hw
  · rintro ⟨k, hk, hkl, h5, -⟩
    obtain ⟨tgt, -, hx⟩ := forT_mem (List.getElem_mem hkl)
    rw [hx] at h5
    exact (stepFor_to _ _ _).2 h5
end Go.Proofs.YtcckpkcjekcajaaDoor

namespace Go.Proofs.YtcckpkcjekcajaaDoor
open Go.RowKit

theorem u8_lt (x : UInt8) : x.toNat < 256 := UInt8.toNat_lt x
theorem u8_xor (x y : UInt8) : bits BinOp.xor IntKind.u8 (x.toNat : Int) (y.toNat : Int) = ((x ^^^ y).toNat : Int) := by
  show IntKind.u8.wrap ((BitVec.ofInt 8 (x.toNat : Int) ^^^ BitVec.ofInt 8 (y.toNat : Int)).toNat : Int) = _
  have h := u8_lt (x ^^^ y)
  have hx : x.toNat % 2 ^ 8 = x.toNat := Nat.mod_eq_of_lt (u8_lt x)
  have hy : y.toNat % 2 ^ 8 = y.toNat := Nat.mod_eq_of_lt (u8_lt y)
  rw [BitVec.toNat_xor, BitVec.ofInt_natCast, BitVec.ofInt_natCast, BitVec.toNat_ofNat, BitVec.toNat_ofNat, hx, hy, IntKind.wrap_u8, ← UInt8.toNat_xor]
  omega
/-- A block as an array's cells. -/
def blkA (s : ByteArray) : Array Value := #[B (bat s 0), B (bat s 1), B (bat s 2), B (bat s 3), B (bat s 4), B (bat s 5), B (bat s 6), B (bat s 7)]
theorem blkA_size (s : ByteArray) : (blkA s).size = 8 := rfl
theorem blkA_at (s : ByteArray) (j : Nat) (h : j < 8) : (blkA s)[j]? = some (B (bat s j)) := by
  match j, h with
  | 0, _ | 1, _ | 2, _ | 3, _ | 4, _ | 5, _ | 6, _ | 7, _ => rfl
  | j + 8, h => omega
theorem bat_get (s : ByteArray) (k : Nat) (h : k < s.size) : s[k] = bat s k := by
  unfold bat
  have h' : k < s.data.size := h
  rw [Array.getD_eq_getD_getElem?, Array.getElem?_eq_getElem h']; rfl
theorem bat_int (s : ByteArray) (k : Nat) (h : k < s.size) : (s[k].toNat : Int) = ((bat s k).toNat : Int) := by rw [bat_get s k h]
theorem B_ne {x y : UInt8} : ((x.toNat : Int) != (y.toNat : Int)) = (x != y) := by
  by_cases h : x = y
  · subst h; simp
  · have h1 : (x.toNat : Int) ≠ (y.toNat : Int) := fun e => h (UInt8.toNat_inj.1 (by omega))
    rw [bne_iff_ne.2 h1, bne_iff_ne.2 h]
/-- The bytes of a block. -/
theorem bytes_block {s : ByteArray} (h : s.size = 8) : s.data.toList = [bat s 0, bat s 1, bat s 2, bat s 3, bat s 4, bat s 5, bat s 6, bat s 7] := by
  have h' : s.data.toList.length = 8 := by rw [Array.length_toList]; exact h
  apply List.ext_getElem
  · simpa using h'
  · intro j h1 h2
    have hj : j < 8 := by omega
    have e : s.data.toList[j] = bat s j := by
      unfold bat
      rw [Array.getD_eq_getD_getElem?, Array.getElem?_eq_getElem (by simpa using h1)]; simp
    rw [e]
    match j, hj with
    | 0, _ | 1, _ | 2, _ | 3, _ | 4, _ | 5, _ | 6, _ | 7, _ => rfl
    | j + 8, h => omega
theorem block_bytes {s : ByteArray} (h : s.size = 8) : (⟨[bat s 0, bat s 1, bat s 2, bat s 3, bat s 4, bat s 5, bat s 6, bat s 7].toArray⟩ : ByteArray) = s := by
  rw [← bytes_block h]
/-- Eight bytes as a block. -/
def ofB (f : Nat → UInt8) : ByteArray := ⟨((List.range 8).map f).toArray⟩
theorem ofB_size (f : Nat → UInt8) : (ofB f).size = 8 := by simp [ofB, ByteArray.size]
theorem ofB_at (f : Nat → UInt8) (i : Nat) (h : i < 8) : bat (ofB f) i = f i := by
  unfold bat ofB
  rw [Array.getD_eq_getD_getElem?]
  simp [h]
theorem xor8_ofB (a b : ByteArray) : xor8 a b = ofB fun i => bat a i ^^^ bat b i := rfl
theorem zero8_ofB : zero8 = ofB fun _ => 0 := by
  refine block_ext zero8_size (ofB_size _) fun i hi => ?_
  rw [ofB_at _ i hi]
  unfold bat zero8
  match i, hi with
  | 0, _ | 1, _ | 2, _ | 3, _ | 4, _ | 5, _ | 6, _ | 7, _ => rfl
  | j + 8, h => omega
/-- In how many of the first k bytes two blocks differ. -/
def diffT (a b : ByteArray) : Nat → Nat
  | 0 => 0
  | k + 1 => if bat a k = bat b k then diffT a b k else diffT a b k + 1
theorem diffT_le (a b : ByteArray) : ∀ k, diffT a b k ≤ k
  | 0 => Nat.le_refl _
  | k + 1 => by have := diffT_le a b k; simp only [diffT]; split <;> omega
theorem diffT_eq (a b : ByteArray) : ∀ k, diffT a b k = ((List.range k).filter fun i => bat a i != bat b i).length
  | 0 => rfl
  | k + 1 => by
    rw [List.range_succ, List.filter_append, List.length_append, ← diffT_eq a b k]
    simp only [diffT]
    by_cases h : bat a k = bat b k
    · rw [if_pos h]; simp [h]
    · rw [if_neg h]; simp [h]
theorem diffT_all (a b : ByteArray) : diffT a b 8 = diffN a b := diffT_eq a b 8
theorem diffT_yes {a b : ByteArray} {k : Nat} (h : bat a k = bat b k) : diffT a b (k + 1) = diffT a b k := by simp only [diffT]; rw [if_pos h]
theorem diffT_no {a b : ByteArray} {k : Nat} (h : bat a k ≠ bat b k) : diffT a b (k + 1) = diffT a b k + 1 := by simp only [diffT]; rw [if_neg h]
theorem diffN_comm (a b : ByteArray) : diffN a b = diffN b a := by
  unfold diffN; congr 2; funext i
  by_cases h : bat a i = bat b i
  · rw [h]
  · rw [bne_iff_ne.2 h, bne_iff_ne.2 (fun e => h e.symm)]
theorem xorS_comm (a b : ByteArray) : xorS a b = xorS b a := by
  unfold xorS
  by_cases h : a.size = 8 ∧ b.size = 8
  · rw [if_pos h, if_pos ⟨h.2, h.1⟩]
    refine block_ext (xor8_size _ _) (xor8_size _ _) fun i hi => ?_
    rw [bat_xor8 _ _ i hi, bat_xor8 _ _ i hi, UInt8.xor_comm]
  · rw [if_neg h, if_neg (fun h' => h ⟨h'.2, h'.1⟩)]
instance (l : List ByteArray) : Decidable (ImgOk l) := by unfold ImgOk; infer_instance
def imgB (l : List ByteArray) : Bool := decide (ImgOk l)
theorem imgB_iff (l : List ByteArray) : imgB l = true ↔ ImgOk l := by unfold imgB; simp
theorem imgB_yes {l : List ByteArray} (h : ImgOk l) : imgB l = true := (imgB_iff l).2 h
theorem imgB_no {l : List ByteArray} (h : ¬ ImgOk l) : imgB l = false := by unfold imgB; exact decide_eq_false h
end Go.Proofs.YtcckpkcjekcajaaDoor

namespace Go.Proofs.YtcckpkcjekcajaaDoor
open Go.RowKit

def ImgRel (l : List ByteArray) (i : Value) : Prop := ∃ k : Nat, k ≤ l.length ∧ i = .int .i64 k ∧ ∀ j (h : j < l.length), j < k → l[j].size = 8
set_option maxRecDepth 100000 in
set_option maxHeartbeats 1000000 in
theorem specImg (v : Value) (l : List ByteArray) (w : World) (h : Rd w v l.length 1 (strs l)) (hn : l.length ≤ 1048576) :
    Calls Tryd.prog 19 #[v] w fun e w' => e = .returned (.bool (imgB l)) ∧ w = w' := by
  obtain ⟨_, a, c, rfl, hc⟩ := h
  have HC := Lib.hid hc
  clear hc
  obtain ⟨R, hR⟩ : ∃ R, R = imgB l := ⟨_, rfl⟩
  rw [← hR]
  have HR := Lib.hid hR
  clear hR
  by_cases h1 : (l.length : Int) < 1
  · have hr : R = false := by rw [HR.out]; exact imgB_no (fun h => by have := h.1; omega)
    subst hr
    clear HR
    have d0 : decide ((l.length : Int) < 1) = true := decide_eq_true h1
    go_enter Tryd.func19, Tryd.ntmps19
    go_wp2_with fail
    go_ret
    exact ⟨rfl, rfl⟩
  have d1 : decide ((l.length : Int) < 1) = false := decide_eq_false h1
  by_cases h8 : (8 : Int) < (l.length : Int)
  · have hr : R = false := by rw [HR.out]; exact imgB_no (fun h => by have := h.1; omega)
    subst hr
    clear HR
    have d2 : decide ((8 : Int) < (l.length : Int)) = true := decide_eq_true h8
    go_enter Tryd.func19, Tryd.ntmps19
    go_wp2_with fail
    go_ret
    exact ⟨rfl, rfl⟩
  have d2 : decide ((8 : Int) < (l.length : Int)) = false := decide_eq_false h8
  go_enter Tryd.func19, Tryd.ntmps19
  go_wp2_with fail
  go_loop [3] (fun i => ImgRel l i) (fun i => l.length - (intOf i).toNat)
  case atStart => exact ⟨0, by omega, rfl, fun j _ hj => absurd hj (by omega)⟩
  case round =>
    obtain ⟨k, hk, rfl, hsz⟩ := hrel
    have HSZ := Lib.hid hsz
    clear hsz
    by_cases hlt : k < l.length
    · obtain ⟨b, off, rfl, hbl, hcell⟩ := HC.out (by omega)
      have hc1 : w.cell? ⟨b, off + k, none⟩ = some (.string l[k]) := by rw [hcell k (by omega), strs_at l k hlt]
      clear hcell
      by_cases hs : l[k].size = 8
      · have ds : ((l[k].size : Int) != 8) = false := by simp [hs]
        have HS := Lib.hid hs
        clear hs
        go_wp2_with fail
        go_round
        case rel =>
          refine ⟨k + 1, by omega, by go_num, fun j h hj => ?_⟩
          by_cases hjk : j = k
          · subst hjk; exact HS.out
          · exact HSZ.out j h (by omega)
        case measure => simp [intOf]; omega
      · have hr : R = false := by rw [HR.out]; exact imgB_no (fun h => hs (h.2 _ (List.getElem_mem hlt)))
        subst hr
        have ds : ((l[k].size : Int) != 8) = true := by simp; omega
        clear HR hs
        go_wp2_with fail
        go_ret
        exact ⟨rfl, rfl⟩
    · obtain rfl : k = l.length := by omega
      have hr : R = true := by
        rw [HR.out]; refine imgB_yes ⟨by omega, fun s hs => ?_⟩
        obtain ⟨j, hj, rfl⟩ := List.getElem_of_mem hs
        exact HSZ.out j hj hj
      subst hr
      clear HR
      go_wp2_with fail
      go_ret
      exact ⟨rfl, rfl⟩

theorem made_bytes {w1 : World} {g n : Nat} (h : w1.heap[g]? = some (.cells (List.replicate n (Value.int IntKind.u8 0)).toArray 5 (0, 0))) : CellsAt w1 g 5 n (fun _ => B 0) :=
  cellsAt_list h n _ (by simp) (fun j hj => by simp [hj, B])
theorem zero_conv (w1 : World) (g c : Nat) (f : Nat → UInt8) (h : CellsAt w1 g 5 8 (fun j => B (f j))) :
    (convert 22 9 (.slice (some ⟨g, 0, none⟩) 8 c)).run Tryd.prog w1 = .ok (.string (ofB f)) w1 := by
  have := conv_block (c := c) (w := w1) (g := g) (e := 5) (xs := (List.range 8).map fun j => B (f j)) (h := by
    unfold CellsAt at h; rw [h]; rfl) ((List.range 8).map f) 8 (by simp) (by simp)
  exact this

set_option maxRecDepth 100000 in
set_option maxHeartbeats 1000000 in
theorem specZero (w : World) :
    Calls Tryd.prog 71 #[] w fun e w' => e = .returned (.string zero8) ∧ Below w.heap.size w w' := by
  obtain ⟨i0, hi, hz0, hz1, hz2⟩ := info_parts Tryd.info5
  rw [zero8_ofB]
  go_enter Tryd.func71, Tryd.ntmps71
  go_wp2_with (at_make; refine wpList_make_full _ rfl _ _ 22 rfl w.heap.size 5 i0 (.int .u8 0) 1 Tryd.underlying22 hi hz0 hz1 .i64 .i64 _ _ 8 rfl rfl (by omega) (by omega) (by rw [hz2]; omega) (by unfold maxLen; omega) (Nat.le_refl _) ?_)
  intro w1 hown1 hgrow1
  have hb1 : Below w.heap.size w w1 := (Below.refl _ w).grown hgrow1 (Nat.le_refl _) (by simp)
  have hg1 := own_block hown1
  rw [toList_madeCells_one] at hg1
  have hcs : CellsAt w1 w.heap.size 5 8 (fun _ => B 0) := made_bytes hg1
  have conv := zero_conv w1 w.heap.size 8 (fun _ => 0) hcs
  have HB1 := Lib.hid hb1
  clear hown1 hgrow1 hg1 hb1 hi hz0 hz1 hz2 hcs
  go_wp2_with fail
  go_ret
  exact ⟨rfl, HB1.out⟩

def XorRel (a b : ByteArray) (w : World) (i : Value) (wr : World) : Prop :=
  ∃ k : Nat, k ≤ 8 ∧ i = .int .i64 k ∧ CellsAt wr w.heap.size 5 8 (fun j => B (if j < k then bat a j ^^^ bat b j else 0)) ∧ Below w.heap.size w wr
set_option maxRecDepth 100000 in
set_option maxHeartbeats 1000000 in
theorem specXored (a b : ByteArray) (w : World) (ha : a.size ≤ maxLen) (hb : b.size ≤ maxLen) :
    Calls Tryd.prog 13 #[.string a, .string b] w fun e w' => e = .returned (.string (xorS a b)) ∧ Below w.heap.size w w' := by
  obtain ⟨R, hR⟩ : ∃ R, R = xorS a b := ⟨_, rfl⟩
  rw [← hR]
  have HR := Lib.hid hR
  clear hR
  unfold maxLen at ha hb
  by_cases ha8 : a.size = 8
  rotate_left
  · have hr : R = ⟨#[]⟩ := by rw [HR.out]; unfold xorS; rw [if_neg (fun h => ha8 h.1)]
    subst hr
    clear HR
    have da : ((a.size : Int) != 8) = true := by simp; omega
    go_enter Tryd.func13, Tryd.ntmps13
    go_wp2_with fail
    go_ret
    exact ⟨rfl, Below.refl _ _⟩
  have da : ((a.size : Int) != 8) = false := by simp [ha8]
  by_cases hb8 : b.size = 8
  rotate_left
  · have hr : R = ⟨#[]⟩ := by rw [HR.out]; unfold xorS; rw [if_neg (fun h => hb8 h.2)]
    subst hr
    clear HR
    have db : ((b.size : Int) != 8) = true := by simp; omega
    clear ha8
    go_enter Tryd.func13, Tryd.ntmps13
    go_wp2_with fail
    go_ret
    exact ⟨rfl, Below.refl _ _⟩
  have db : ((b.size : Int) != 8) = false := by simp [hb8]
  have hr : R = ofB (fun i => bat a i ^^^ bat b i) := by rw [HR.out]; unfold xorS; rw [if_pos ⟨ha8, hb8⟩]; rfl
  subst hr
  have HA8 := Lib.hid ha8
  have HB8 := Lib.hid hb8
  clear HR ha8 hb8
  obtain ⟨i0, hi, hz0, hz1, hz2⟩ := info_parts Tryd.info5
  go_enter Tryd.func13, Tryd.ntmps13
  go_wp2_with (at_make; refine wpList_make_full _ rfl _ _ 22 rfl w.heap.size 5 i0 (.int .u8 0) 1 Tryd.underlying22 hi hz0 hz1 .i64 .i64 _ _ 8 rfl rfl (by omega) (by omega) (by rw [hz2]; omega) (by unfold maxLen; omega) (Nat.le_refl _) ?_)
  intro w1 hown1 hgrow1
  have hb1 : Below w.heap.size w w1 := (Below.refl _ w).grown hgrow1 (Nat.le_refl _) (by simp)
  have hg1 := own_block hown1
  rw [toList_madeCells_one] at hg1
  have HC := Lib.hid (show CellsAt w1 w.heap.size 5 8 (fun _ => B 0) from made_bytes hg1)
  have HB1 := Lib.hid hb1
  clear hown1 hgrow1 hg1 hb1 hi hz0 hz1 hz2
  go_wp2_with fail
  go_loopw [6] (fun i wr => XorRel a b w i wr) (fun i _ => 8 - (intOf i).toNat)
  case atStart => exact ⟨0, by omega, rfl, HC.out, HB1.out⟩
  case round =>
    clear HC HB1
    obtain ⟨k, hk, rfl, hcs, hbel⟩ := hrel
    by_cases hlt : k < 8
    · have sa := HA8.out
      have sb := HB8.out
      have hc2 := hcs.cell k hlt
      have hf2 := hcs.frozen k
      have ga : k < a.size := by omega
      have gb : k < b.size := by omega
      have ea := bat_int a k ga
      have eb := bat_int b k gb
      have ex := u8_xor (bat a k) (bat b k)
      have HCS := Lib.hid hcs
      have HBEL := Lib.hid hbel
      clear hcs hbel sa sb
      go_wp2_with fail
      go_region
      go_wp2_with fail
      go_roundw
      case rel =>
        refine ⟨k + 1, by omega, by go_num, CellsAt.drew (HCS.out.set k _ ?_ ?_), (HBEL.out.setCell (p := ⟨w.heap.size, k, none⟩) (Nat.le_refl _) _).drew⟩
        · show B (if k < k + 1 then _ else _) = _
          rw [if_pos (by omega)]
          unfold B
          rw [UInt8.toNat_xor]
        · intro i hi
          show B (if i < k + 1 then _ else _) = B (if i < k then _ else _)
          by_cases h1 : i < k
          · rw [if_pos h1, if_pos (by omega)]
          · rw [if_neg h1, if_neg (by omega)]
      case measure => simp [intOf]; omega
    · obtain rfl : k = 8 := by omega
      have conv := zero_conv wr w.heap.size 8 (fun i => bat a i ^^^ bat b i) (hcs.congr fun j hj => by rw [if_pos hj])
      have HBEL := Lib.hid hbel
      clear hcs hbel
      go_wp2_with fail
      go_ret
      exact ⟨rfl, HBEL.out⟩
end Go.Proofs.YtcckpkcjekcajaaDoor

namespace Go.Proofs.YtcckpkcjekcajaaDoor
open Go.RowKit

set_option maxRecDepth 100000 in
set_option maxHeartbeats 1000000 in
theorem specMake (k t f : Int) (d src : ByteArray) (w : World) (hd : d.size ≤ maxLen) (hs : src.size ≤ maxLen) :
    Calls Tryd.prog 50 #[.agg #[.int .i64 k, .int .i64 t, .int .i64 f, .string d], .string src] w fun e w' => e = .returned (.string (makeS (k, t, f, d) src)) ∧ Below w.heap.size w w' := by
  obtain ⟨R, hR⟩ : ∃ R, R = makeS (k, t, f, d) src := ⟨_, rfl⟩
  rw [← hR]
  unfold makeS at hR
  simp only at hR
  have HB := Lib.hid (below_alloc1 w (.cells #[.int .i64 k, .int .i64 t, .int .i64 f, .string d] 33))
  have HX := Lib.hid (bx_new w 33 #[.int .i64 k, .int .i64 t, .int .i64 f, .string d])
  by_cases h1 : k = 1
  · subst h1
    rw [if_pos rfl] at hR
    subst hR
    go_enter Tryd.func50, Tryd.ntmps50
    go_wp2_with fail
    refine (specZero _).mono ?_
    rintro e w1 ⟨rfl, hb⟩
    have HB2 := Lib.hid (below_more HB.out hb)
    clear hb
    go_wp2_with fail
    go_ret
    exact ⟨rfl, HB2.out⟩
  rw [if_neg h1] at hR
  have d1 : (k == 1) = false := by simpa using h1
  by_cases h2 : k = 2
  · subst h2
    rw [if_pos rfl] at hR
    subst hR
    go_enter Tryd.func50, Tryd.ntmps50
    go_wp2_with fail
    go_ret
    exact ⟨rfl, HB.out⟩
  rw [if_neg h2] at hR
  have d2 : (k == 2) = false := by simpa using h2
  by_cases h3 : k = 3
  · subst h3
    rw [if_pos rfl] at hR
    subst hR
    go_enter Tryd.func50, Tryd.ntmps50
    go_wp2_with fail
    go_ret
    exact ⟨rfl, HB.out⟩
  rw [if_neg h3] at hR
  have d3 : (k == 3) = false := by simpa using h3
  have HR := Lib.hid hR
  clear hR h1 h2 h3
  go_enter Tryd.func50, Tryd.ntmps50
  go_wp2_with fail
  have hc := specXored src d (w.alloc (.cells #[.int .i64 k, .int .i64 t, .int .i64 f, .string d] 33)) hs hd
  rw [← HR.out] at hc
  refine hc.mono ?_
  clear hc
  rintro e w1 ⟨rfl, hb⟩
  have HB2 := Lib.hid (below_more HB.out hb)
  clear hb
  go_wp2_with fail
  go_ret
  exact ⟨rfl, HB2.out⟩

def OtRel (a b : ByteArray) (w : World) (x i : Value) (wr : World) : Prop := ∃ k : Nat, k ≤ 8 ∧ i = .int .i64 k ∧ x = .int .i64 (diffT a b k) ∧ Still w wr
/-- What a step gives to its block. -/
def madeS (l : List ByteArray) (x : stpT) : ByteArray := if imgB l = true ∧ x.1 ≠ 5 ∧ stepB (l.length : Int) x.1 x.2.1 x.2.2.1 x.2.2.2 = true then makeS x (l.getD x.2.2.1.toNat ⟨#[]⟩) else ⟨#[]⟩
theorem ok_from {n k t f : Int} {d : ByteArray} (h : stepB n k t f d = true) (h5 : k ≠ 5) : 0 ≤ f ∧ f < n ∧ 0 ≤ t ∧ t < n ∧ d.size ≤ 8 ∧ 1 ≤ k ∧ k ≤ 4 := by
  obtain ⟨hn, h⟩ := (stepB_iff ..).1 h
  rcases h with ⟨rfl, h1, rfl, h2⟩ | ⟨rfl, h1, rfl, h2⟩ | ⟨rfl, h1, h3, h2⟩ | ⟨rfl, h1, h3, h2⟩ | ⟨rfl, -⟩
  · have := (inB_iff _ _).1 h1; omega
  · have := (inB_iff _ _).1 h1; omega
  · have := (inB_iff _ _).1 h1; have := (inB_iff _ _).1 h3; omega
  · have := (inB_iff _ _).1 h1; have := (inB_iff _ _).1 h3; omega
  · exact absurd rfl h5

set_option maxRecDepth 100000 in
set_option maxHeartbeats 2000000 in
theorem specMadeBy (v : Value) (l : List ByteArray) (k t f : Int) (d : ByteArray) (w : World) (h : Rd w v l.length 1 (strs l)) (hn : l.length ≤ 1048576) (hs : ∀ s ∈ l, s.size ≤ maxLen) (hd : d.size ≤ maxLen) :
    Calls Tryd.prog 15 #[v, .agg #[.int .i64 k, .int .i64 t, .int .i64 f, .string d]] w fun e w' => e = .returned (.string (madeS l (k, t, f, d))) ∧ Below w.heap.size w w' := by
  obtain ⟨R, hR⟩ : ∃ R, R = madeS l (k, t, f, d) := ⟨_, rfl⟩
  rw [← hR]
  have HR := Lib.hid hR
  clear hR
  obtain ⟨a, c, rfl, -⟩ := id h.2
  have HV := Lib.hid h
  clear h
  have HB := Lib.hid (below_alloc1 w (.cells #[.int .i64 k, .int .i64 t, .int .i64 f, .string d] 33))
  have HX := Lib.hid (bx_new w 33 #[.int .i64 k, .int .i64 t, .int .i64 f, .string d])
  have RV := Lib.hid (HV.out.below HB.out (Nat.le_refl _))
  cases hi : imgB l with
  | false =>
    have hr : R = ⟨#[]⟩ := by rw [HR.out]; unfold madeS; rw [if_neg (fun h => by rw [hi] at h; exact absurd h.1 (by simp))]
    subst hr
    have HI := Lib.hid hi
    clear HR hi
    go_enter Tryd.func15, Tryd.ntmps15
    go_wp2_with fail
    refine (specImg _ l _ RV.out hn).mono ?_
    rintro e w1 ⟨rfl, rfl⟩
    rw [HI.out]
    go_wp2_with fail
    go_ret
    exact ⟨rfl, HB.out⟩
  | true =>
    have HI := Lib.hid hi
    clear hi
    by_cases h5 : k = 5
    · have hr : R = ⟨#[]⟩ := by rw [HR.out]; unfold madeS; rw [if_neg (fun h => h.2.1 h5)]
      subst hr
      have d5 : (k == 5) = true := by simpa using h5
      clear HR h5
      have c0 := HX.out.q0
      go_enter Tryd.func15, Tryd.ntmps15
      go_wp2_with fail
      refine (specImg _ l _ RV.out hn).mono ?_
      rintro e w1 ⟨rfl, rfl⟩
      rw [HI.out]
      go_wp2_with fail
      go_ret
      exact ⟨rfl, HB.out⟩
    have d5 : (k == 5) = false := by simpa using h5
    have H5 := Lib.hid h5
    clear h5
    have c0 := HX.out.q0
    have c1 := HX.out.q1
    have c2 := HX.out.q2
    have c3 := HX.out.q3
    cases hst : stepB (l.length : Int) k t f d with
    | false =>
      have hr : R = ⟨#[]⟩ := by rw [HR.out]; unfold madeS; rw [if_neg (fun h => by have := h.2.2; simp only at this; rw [hst] at this; cases this)]
      subst hr
      have HST := Lib.hid hst
      clear HR hst
      go_enter Tryd.func15, Tryd.ntmps15
      go_wp2_with fail
      refine (specImg _ l _ RV.out hn).mono ?_
      rintro e w1 ⟨rfl, rfl⟩
      rw [HI.out]
      go_wp2_with fail
      refine (specRightS k t f _ d _).mono ?_
      rintro e w1 ⟨rfl, hb⟩
      have HB2 := Lib.hid (below_more HB.out hb)
      clear hb
      rw [HST.out]
      go_wp2_with fail
      go_ret
      exact ⟨rfl, HB2.out⟩
    | true =>
      obtain ⟨f0, f1, -⟩ := ok_from hst H5.out
      have HST := Lib.hid hst
      have hr : R = makeS (k, t, f, d) (l.getD f.toNat ⟨#[]⟩) := by rw [HR.out]; unfold madeS; rw [if_pos ⟨HI.out, H5.out, hst⟩]
      obtain ⟨m, rfl⟩ : ∃ m : Nat, f = m := ⟨f.toNat, by omega⟩
      have hm : m < l.length := by omega
      have hg : l.getD ((m : Int)).toNat ⟨#[]⟩ = l[m] := by rw [Int.toNat_natCast, List.getD_eq_getElem?_getD, List.getElem?_eq_getElem hm]; rfl
      rw [hg] at hr
      have HR2 := Lib.hid hr
      have hsm := hs _ (List.getElem_mem hm)
      obtain ⟨b, off, rfl, hbl, hcell⟩ := RV.out.get (by omega)
      have HC := Lib.hid (show (w.alloc (.cells #[.int .i64 k, .int .i64 t, .int .i64 m, .string d] 33)).cell? ⟨b, off + m, none⟩ = some (.string l[m]) by rw [hcell m (by omega), strs_at l m hm])
      clear HR hst hr hg hcell
      go_enter Tryd.func15, Tryd.ntmps15
      go_wp2_with fail
      refine (specImg _ l _ RV.out hn).mono ?_
      rintro e w1 ⟨rfl, rfl⟩
      rw [HI.out]
      go_wp2_with fail
      refine (specRightS k t m _ d _).mono ?_
      rintro e w1 ⟨rfl, hb⟩
      have hx := HX.out.next hb
      replace c0 := hx.q0
      replace c1 := hx.q1
      replace c2 := hx.q2
      replace c3 := hx.q3
      have r0 : w1.cell? ⟨b, off + m, none⟩ = some (.string l[m]) := (hb.cell (p := ⟨b, off + m, none⟩) hbl).trans HC.out
      have HB2 := Lib.hid (below_more HB.out hb)
      have hsz : w.heap.size ≤ w1.heap.size := HB2.out.size
      clear hb hx
      rw [HST.out]
      generalize l[m] = src at *
      go_wp2_with fail
      have hc := specMake k t m d src w1.drew hd hsm
      rw [← HR2.out] at hc
      go_region_with ((go_at_call 50; refine hc.mono ?_; rintro e w2 ⟨rfl, hb2⟩))
      all_goals (
        have HB3 := Lib.hid (HB2.out.drew.trans (hb2.mono hsz))
        clear hb2
        go_wp2_with fail
        go_ret
        exact ⟨rfl, HB3.out⟩)
end Go.Proofs.YtcckpkcjekcajaaDoor

namespace Go.Proofs.YtcckpkcjekcajaaDoor
open Go.RowKit

structure RowM (w : World) (base : Nat) (v : Value) (n : Nat) (xs : List Value) (g cap : Nat) : Prop where
  val : v = .slice (some ⟨g, 0, none⟩) n cap
  low : base ≤ g
  lt : g < w.heap.size
  fits : n ≤ cap
  len : xs.length = n
  cell : ∀ j, j < n → w.cell? ⟨g, j, none⟩ = xs[j]?
  there : ∀ j, j < cap → (w.cell? ⟨g, j, none⟩).isSome = true
  soft : ∀ j, j < cap → w.frozen? ⟨g, j, none⟩ = false
/-- v is such a row. -/
def RowA (w : World) (base : Nat) (v : Value) (n : Nat) (xs : List Value) : Prop := ∃ g cap, RowM w base v n xs g cap

theorem RowM.drew {w : World} {base n g cap : Nat} {v : Value} {xs : List Value} (h : RowM w base v n xs g cap) : RowM w.drew base v n xs g cap := ⟨h.val, h.low, h.lt, h.fits, h.len, h.cell, h.there, h.soft⟩
theorem RowM.below {w w' : World} {base n g cap B : Nat} {v : Value} {xs : List Value} (h : RowM w base v n xs g cap) (hb : Below B w w') (hg : g < B) : RowM w' base v n xs g cap :=
  ⟨h.val, h.low, Nat.lt_of_lt_of_le h.lt hb.size, h.fits, h.len, fun j hj => (hb.cell (p := ⟨g, j, none⟩) hg).trans (h.cell j hj), fun j hj => (hb.cell (p := ⟨g, j, none⟩) hg).symm ▸ h.there j hj, fun j hj => (hb.frozen (p := ⟨g, j, none⟩) hg).trans (h.soft j hj)⟩
theorem RowM.alloc {w : World} {base n g cap : Nat} {v : Value} {xs : List Value} (h : RowM w base v n xs g cap) (o : Obj) : RowM (w.alloc o) base v n xs g cap :=
  h.below ((Below.refl w.heap.size w).alloc (Nat.le_refl _) o) h.lt
theorem rowA_own {w : World} {base e n : Nat} {v : Value} {xs : List Value} (h : w.ownsRow base e 1 v n xs) (hn : 0 < n) : RowA w base v n xs := by
  rcases h.2 with ⟨_, h0⟩ | ⟨g, cap, cur, rfl, h1, h2, h3, h4, h5, h6⟩
  · omega
  · refine ⟨g, cap, rfl, h1, (Array.getElem?_eq_some_iff.1 h2).1, h3, by simpa using h.1, fun j hj => h.cellAt j (by omega), fun j hj => ?_, fun j _ => frozen_of_row w g j _ e h2⟩
    rw [cell_of_row w g j _ e (0, 0) h2, Array.getElem?_eq_getElem (by omega)]; rfl
theorem rowA_conv (w : World) (e : TypeId) (s : ByteArray) :
    RowM (Lib.bytesWorld w e s) w.heap.size (.slice (some ⟨w.heap.size, 0, none⟩) s.size (grownCap w s.size 0 e)) s.size (s.data.toList.map fun b => Value.int .u8 b.toNat) w.heap.size (grownCap w s.size 0 e) := by
  have hsz : (Lib.bytesCells w e s).size = grownCap w s.size 0 e := by
    have := grownCap_ge w s.size 0 e
    have hs : s.data.size = s.size := rfl
    simp [Lib.bytesCells, hs]; omega
  refine ⟨rfl, Nat.le_refl _, by rw [Lib.bytesWorld_size]; omega, grownCap_ge w s.size 0 e, by rw [List.length_map, Array.length_toList]; rfl, fun j hj => ?_, fun j hj => ?_, fun j hj => ?_⟩
  · rw [Lib.bytesWorld_cell w e s j hj, List.getElem?_map, List.getD_eq_getElem?_getD]
    have : j < s.data.toList.length := by rw [Array.length_toList]; exact hj
    rw [List.getElem?_eq_getElem this]; rfl
  · simp only [World.cell?, Lib.bytesWorld_at_new]
    rw [Array.getElem?_eq_getElem (by omega)]; rfl
  · simp only [World.frozen?, Lib.bytesWorld_at_new]
    simp; omega
theorem conv_below (w : World) (e : TypeId) (s : ByteArray) : Below w.heap.size w (Lib.bytesWorld w e s) :=
  ⟨rfl, rfl, rfl, by rw [Lib.bytesWorld_size]; omega, fun k hk => Lib.bytesWorld_at_old w e s k hk⟩

theorem other_cell (w : World) (g n j : Nat) (u : Value) (h : ¬ j = n) : (w.setCell ⟨g, n, none⟩ u).cell? ⟨g, j, none⟩ = w.cell? ⟨g, j, none⟩ :=
  World.cell?_setCell_other (h := fun e => h (Addr.mk.inj e).2.1.symm) ..
/-- One value appended to such a row; the world behind it under a name of its own. -/
theorem wpList_append_M {P : Program} (w : World) {ops : Array Oper} {rest : List Oper} {o : Oper} {a : Act} {Q : Exit → Act → World → Prop}
    (hgd : o.guard = none) (s x : Operand) (t : TypeId) (hop : o.op = Op.call { callee := Callee.builtin Builtin.append, args := #[s, x], argTypes := #[t, t] })
    (e : TypeId) (i : TypeInfo) (z : Value) (bytes : Nat) (h1 : P.underlying t = some (.slice e)) (h2 : P.info? e = some i) (h3 : i.zero = some z) (h4 : i.size = 1) (h5 : i.bytes = bytes) (h6 : z.cells.size = 1)
    (base n : Nat) (v : Value) (xs : List Value) (hs : a.eval s = v) (hrow : RowA w base v n xs)
    (ad : Addr) (c : Nat) (u : Value) (hx : a.eval x = .slice (some ad) 1 c) (hc : w.cell? ad = some u) (hu : u.oneCell' = true)
    (b1 : n + 1 ≤ maxLen) (b2 : (n + 1) * bytes ≤ 140737488355328) (B : Nat) (w0 : World) (hb : Below B w0 w) (hB : B ≤ base) (hbz : base ≤ w.heap.size)
    (h : ∀ v' w', RowA w' base v' (n + 1) (xs ++ [u]) → Below B w0 w' → wpList P ops Q rest (a.put o.dst v') w') :
    wpList P ops Q (o :: rest) a w := by
  obtain ⟨g, cap, r⟩ := hrow
  obtain rfl := r.val
  have hz1 : ∀ j u', [u][j]? = some u' → j = 0 ∧ u' = u := by
    intro j u' hj
    match j, hj with
    | 0, hj => simp at hj; exact ⟨rfl, hj.symm⟩
  refine wpList_append_arg w hgd s x t hop e i z 1 bytes h1 h2 h3 h4 h5 h6 (by decide) g 0 n cap xs hs (by rw [r.len]; omega) (fun j u' hj => ?_) ad 1 c [u] hx rfl (fun j u' hj => ?_) (fun u' hu' => ?_) (fun hr j hj => ?_) b1 b2 (fun hr => ?_) (fun hg v' w' hown hgrow => ?_)
  · have hj' : j < n := by
      have := (List.getElem?_eq_some_iff.1 hj).1
      rw [r.len] at this; exact this
    rw [Nat.zero_add, r.cell j hj', hj]
  · obtain ⟨rfl, rfl⟩ := hz1 j u' hj
    have : ad.add 0 = ad := by simp [Addr.add]
    rw [this]; exact hc
  · simp at hu'; subst hu'; exact hu
  · have : j = 0 := by simp at hj; omega
    subst this
    simp only [Nat.zero_add, Nat.mul_one, Nat.add_zero]
    exact ⟨r.there n (by omega), r.soft n (by omega)⟩
  · have e1 : w.setCells g (0 + n * 1) [u] = w.setCell ⟨g, n, none⟩ u := by simp [World.setCells]
    rw [e1]
    refine h _ _ ⟨g, cap, rfl, r.low, by simpa using r.lt, by omega, by simp [r.len], fun j hj => ?_, fun j hj => ?_, fun j hj => ?_⟩ (hb.setCell (p := ⟨g, n, none⟩) (Nat.le_trans hB r.low) u)
    · by_cases hjn : j = n
      · subst hjn
        rw [World.cell?_setCell_same' w ⟨g, j, none⟩ u (r.there j (by omega)), List.getElem?_append_right (by rw [r.len]; omega), r.len]; simp
      · rw [other_cell w g n j u hjn, r.cell j (by omega), List.getElem?_append_left (by rw [r.len]; omega)]
    · by_cases hjn : j = n
      · subst hjn
        rw [World.cell?_setCell_same' w ⟨g, j, none⟩ u (r.there j (by omega))]; rfl
      · rw [other_cell w g n j u hjn]; exact r.there j hj
    · rw [World.frozen?_setCell]; exact r.soft j hj
  · obtain ⟨g', cap', r'⟩ := rowA_own hown (by omega)
    exact h v' w' ⟨g', cap', r'.val, Nat.le_trans hbz r'.low, r'.lt, r'.fits, r'.len, r'.cell, r'.there, r'.soft⟩ (hb.grown hgrow (Nat.le_trans hB hbz) (by simp))
end Go.Proofs.YtcckpkcjekcajaaDoor

namespace Go.Proofs.YtcckpkcjekcajaaDoor
open Go.RowKit

theorem Bx.blk0 {w : World} {g : Nat} {T : TypeId} {s : ByteArray} (h : Bx w g T (blkA s)) : w.cell? ⟨g, 0, none⟩ = some (B (bat s 0)) := h.cell 0
theorem Bx.blk1 {w : World} {g : Nat} {T : TypeId} {s : ByteArray} (h : Bx w g T (blkA s)) : w.cell? ⟨g, 1, none⟩ = some (B (bat s 1)) := h.cell 1
theorem Bx.blk2 {w : World} {g : Nat} {T : TypeId} {s : ByteArray} (h : Bx w g T (blkA s)) : w.cell? ⟨g, 2, none⟩ = some (B (bat s 2)) := h.cell 2
theorem Bx.blk3 {w : World} {g : Nat} {T : TypeId} {s : ByteArray} (h : Bx w g T (blkA s)) : w.cell? ⟨g, 3, none⟩ = some (B (bat s 3)) := h.cell 3
theorem Bx.blk4 {w : World} {g : Nat} {T : TypeId} {s : ByteArray} (h : Bx w g T (blkA s)) : w.cell? ⟨g, 4, none⟩ = some (B (bat s 4)) := h.cell 4
theorem Bx.blk5 {w : World} {g : Nat} {T : TypeId} {s : ByteArray} (h : Bx w g T (blkA s)) : w.cell? ⟨g, 5, none⟩ = some (B (bat s 5)) := h.cell 5
theorem Bx.blk6 {w : World} {g : Nat} {T : TypeId} {s : ByteArray} (h : Bx w g T (blkA s)) : w.cell? ⟨g, 6, none⟩ = some (B (bat s 6)) := h.cell 6
theorem Bx.blk7 {w : World} {g : Nat} {T : TypeId} {s : ByteArray} (h : Bx w g T (blkA s)) : w.cell? ⟨g, 7, none⟩ = some (B (bat s 7)) := h.cell 7
theorem conv_cell (W : World) (s : ByteArray) (h : s.size = 8) (j : Nat) (hj : j < 8) : (Lib.bytesWorld W 5 s).cell? ⟨W.heap.size, j, none⟩ = some (B (bat s j)) := by
  rw [Lib.bytesWorld_cell W 5 s j (by omega)]
  unfold B bat
  rw [List.getD_eq_getElem?_getD, Array.getD_eq_getD_getElem?, Array.getElem?_toList]
theorem eight_set {w w' : World} {B g : Nat} (h : Below B w w') (hB : B ≤ g) (a b c d e f i k : Value) : Below B w ((((((((w'.setCell ⟨g, 0, none⟩ a).setCell ⟨g, 1, none⟩ b).setCell ⟨g, 2, none⟩ c).setCell ⟨g, 3, none⟩ d).setCell ⟨g, 4, none⟩ e).setCell ⟨g, 5, none⟩ f).setCell ⟨g, 6, none⟩ i).setCell ⟨g, 7, none⟩ k) :=
  (((((((h.setCell (p := ⟨g, 0, none⟩) hB a).setCell (p := ⟨g, 1, none⟩) hB b).setCell (p := ⟨g, 2, none⟩) hB c).setCell (p := ⟨g, 3, none⟩) hB d).setCell (p := ⟨g, 4, none⟩) hB e).setCell (p := ⟨g, 5, none⟩) hB f).setCell (p := ⟨g, 6, none⟩) hB i).setCell (p := ⟨g, 7, none⟩) hB k

theorem arr_at (p : Addr) (c : Nat) (w : World) : (Instr.arrayAt 65 (.slice (some p) 8 c)).run Tryd.prog w = .ok (.pointer (some p)) w := by kernel_rfl
set_option maxRecDepth 100000 in
set_option maxHeartbeats 1000000 in
theorem implOf (s : ByteArray) (w : World) (h : s.size = 8) :
    Calls Tryd.prog 46 #[.string s] w fun e w' => e = .returned (.agg (blkA s)) ∧ Below w.heap.size w w' := by
  have g0 := below_alloc1 w (.cells #[.int .u8 0, .int .u8 0, .int .u8 0, .int .u8 0, .int .u8 0, .int .u8 0, .int .u8 0, .int .u8 0] 65)
  have X0 := bx_new w 65 #[.int .u8 0, .int .u8 0, .int .u8 0, .int .u8 0, .int .u8 0, .int .u8 0, .int .u8 0, .int .u8 0]
  have hz := size_alloc1 w (.cells #[.int .u8 0, .int .u8 0, .int .u8 0, .int .u8 0, .int .u8 0, .int .u8 0, .int .u8 0, .int .u8 0] 65)
  obtain ⟨W0, hW0⟩ : ∃ W0, W0 = w.alloc (.cells #[.int .u8 0, .int .u8 0, .int .u8 0, .int .u8 0, .int .u8 0, .int .u8 0, .int .u8 0, .int .u8 0] 65) := ⟨_, rfl⟩
  rw [← hW0] at g0 X0 hz
  have hcv := Lib.run_convert_string_bytes (P := Tryd.prog) W0 9 22 5 s Tryd.underlying9 Tryd.underlying22 Tryd.underlying5
  have hb := conv_below W0 5 s
  rw [h] at hcv
  have q0 := conv_cell W0 s h 0 (by decide)
  have q1 := conv_cell W0 s h 1 (by decide)
  have q2 := conv_cell W0 s h 2 (by decide)
  have q3 := conv_cell W0 s h 3 (by decide)
  have q4 := conv_cell W0 s h 4 (by decide)
  have q5 := conv_cell W0 s h 5 (by decide)
  have q6 := conv_cell W0 s h 6 (by decide)
  have q7 := conv_cell W0 s h 7 (by decide)
  rw [hz] at hcv q0 q1 q2 q3 q4 q5 q6 q7
  rw [hW0] at hcv
  obtain ⟨W1, hW1⟩ : ∃ W1, W1 = Lib.bytesWorld W0 5 s := ⟨_, rfl⟩
  rw [← hW1] at hb q0 q1 q2 q3 q4 q5 q6 q7
  rw [hW0] at hW1
  rw [← hW1] at hcv
  have hat := fun c => arr_at ⟨w.heap.size + 1, 0, none⟩ c W1
  have hx := X0.next hb
  have c0 := hx.cell 0
  have c1 := hx.cell 1
  have c2 := hx.cell 2
  have c3 := hx.cell 3
  have c4 := hx.cell 4
  have c5 := hx.cell 5
  have c6 := hx.cell 6
  have c7 := hx.cell 7
  simp at c0 c1 c2 c3 c4 c5 c6 c7
  have z0 := hx.frozen 0
  have z1 := hx.frozen 1
  have z2 := hx.frozen 2
  have z3 := hx.frozen 3
  have z4 := hx.frozen 4
  have z5 := hx.frozen 5
  have z6 := hx.frozen 6
  have z7 := hx.frozen 7
  have HB := Lib.hid (g0.trans (hb.mono (by omega)))
  clear g0 X0 hb hx h hW0 hW1 hz
  unfold B at *
  go_enter Tryd.func46, Tryd.ntmps46
  go_wp2_with fail
  refine bodyPost_ret (v := .agg (blkA s)) (by simp [blkA, B, results, Tryd.results46, go_sem, c0, c1, c2, c3, c4, c5, c6, c7]) rfl ⟨rfl, ?_⟩
  exact eight_set HB.out (Nat.le_refl _) _ _ _ _ _ _ _ _

set_option maxRecDepth 100000 in
set_option maxHeartbeats 1000000 in
theorem implText8 (s : ByteArray) (w : World) (h : s.size = 8) :
    Calls Tryd.prog 35 #[.agg (blkA s)] w fun e w' => e = .returned (.string s) ∧ Below w.heap.size w w' := by
  have HB := Lib.hid (below_alloc1 w (.cells (blkA s) 65))
  have hcv := conv_block (c := 8) (w := w.alloc (.cells (blkA s) 65)) (g := w.heap.size) (e := 65) (xs := (blkA s).toList) (h := heap_alloc_new w _) [bat s 0, bat s 1, bat s 2, bat s 3, bat s 4, bat s 5, bat s 6, bat s 7] 8 rfl rfl
  rw [block_bytes h] at hcv
  unfold blkA B at *
  go_enter Tryd.func35, Tryd.ntmps35
  go_wp2_with fail
  go_ret
  exact ⟨rfl, HB.out⟩

/-- The first k bytes put together, the others as they were. -/
def mixB (a b : ByteArray) (k i : Nat) : UInt8 := if i < k then bat a i ^^^ bat b i else bat a i
def XdRel (a b : ByteArray) (w : World) (i : Value) (wr : World) : Prop :=
  ∃ k : Nat, k ≤ 8 ∧ i = .int .i64 k ∧ CellsAt wr w.heap.size 65 8 (fun j => B (mixB a b k j)) ∧ Bx wr (w.heap.size + 1) 65 (blkA b) ∧ Bx wr (w.heap.size + 2) 65 (blkA zero8) ∧ Below w.heap.size w wr
theorem blkA_cells (s : ByteArray) : blkA s = cellsV 8 fun j => B (bat s j) := rfl
theorem blkA_ofB (f : Nat → UInt8) : blkA (ofB f) = #[B (f 0), B (f 1), B (f 2), B (f 3), B (f 4), B (f 5), B (f 6), B (f 7)] := rfl

set_option maxRecDepth 100000 in
set_option maxHeartbeats 2000000 in
theorem implXd (a b : ByteArray) (w : World) :
    Calls Tryd.prog 47 #[.agg (blkA a), .agg (blkA b)] w fun e w' => e = .returned (.agg (blkA (xor8 a b))) ∧ Below w.heap.size w w' := by
  have b0 := below_alloc1 w (.cells (blkA a) 65)
  have b1 := b0.trans ((below_alloc1 (w.alloc (.cells (blkA a) 65)) (.cells (blkA b) 65)).mono b0.size)
  have b2 := b1.trans ((below_alloc1 ((w.alloc (.cells (blkA a) 65)).alloc (.cells (blkA b) 65)) (.cells (blkA zero8) 65)).mono b1.size)
  have X0 := Lib.hid (((bx_new w 65 (blkA a)).next (below_alloc1 _ (.cells (blkA b) 65))).next (below_alloc1 _ (.cells (blkA zero8) 65)))
  have X1 := Lib.hid ((bx_new (w.alloc (.cells (blkA a) 65)) 65 (blkA b)).next (below_alloc1 _ (.cells (blkA zero8) 65)))
  have X2 := Lib.hid (bx_new ((w.alloc (.cells (blkA a) 65)).alloc (.cells (blkA b) 65)) 65 (blkA zero8))
  rw [size_alloc1] at X1
  rw [size_alloc1, size_alloc1] at X2
  have B2 := Lib.hid b2
  clear b0 b1 b2
  obtain ⟨W, hW⟩ : ∃ W, W = ((w.alloc (.cells (blkA a) 65)).alloc (.cells (blkA b) 65)).alloc (.cells (blkA zero8) 65) := ⟨_, rfl⟩
  have hW2 := hW
  rw [← hW] at X0 X1 X2 B2
  unfold blkA B at hW2
  simp only [show bat zero8 0 = 0 from rfl, show bat zero8 1 = 0 from rfl, show bat zero8 2 = 0 from rfl, show bat zero8 3 = 0 from rfl, show bat zero8 4 = 0 from rfl, show bat zero8 5 = 0 from rfl, show bat zero8 6 = 0 from rfl, show bat zero8 7 = 0 from rfl] at hW2
  have hW3 : W = ((w.alloc (.cells #[.int .u8 (bat a 0).toNat, .int .u8 (bat a 1).toNat, .int .u8 (bat a 2).toNat, .int .u8 (bat a 3).toNat, .int .u8 (bat a 4).toNat, .int .u8 (bat a 5).toNat, .int .u8 (bat a 6).toNat, .int .u8 (bat a 7).toNat] 65)).alloc (.cells #[.int .u8 (bat b 0).toNat, .int .u8 (bat b 1).toNat, .int .u8 (bat b 2).toNat, .int .u8 (bat b 3).toNat, .int .u8 (bat b 4).toNat, .int .u8 (bat b 5).toNat, .int .u8 (bat b 6).toNat, .int .u8 (bat b 7).toNat] 65)).alloc (.cells #[.int .u8 0, .int .u8 0, .int .u8 0, .int .u8 0, .int .u8 0, .int .u8 0, .int .u8 0, .int .u8 0] 65) := hW2
  clear hW hW2
  show Calls Tryd.prog 47 #[.agg #[.int .u8 (bat a 0).toNat, .int .u8 (bat a 1).toNat, .int .u8 (bat a 2).toNat, .int .u8 (bat a 3).toNat, .int .u8 (bat a 4).toNat, .int .u8 (bat a 5).toNat, .int .u8 (bat a 6).toNat, .int .u8 (bat a 7).toNat], .agg #[.int .u8 (bat b 0).toNat, .int .u8 (bat b 1).toNat, .int .u8 (bat b 2).toNat, .int .u8 (bat b 3).toNat, .int .u8 (bat b 4).toNat, .int .u8 (bat b 5).toNat, .int .u8 (bat b 6).toNat, .int .u8 (bat b 7).toNat]] w _
  have HW3 := Lib.hid hW3
  clear hW3
  go_enter Tryd.func47, Tryd.ntmps47
  go_wp2_with fail
  rw [← HW3.out]
  clear HW3
  go_loopw [6] (fun i wr => XdRel a b w i wr) (fun i _ => 8 - (intOf i).toNat)
  case atStart =>
    exact ⟨0, by omega, rfl, X0.out, X1.out, X2.out, B2.out⟩
  case round =>
    clear X0 X1 X2 B2
    obtain ⟨k, hk, rfl, hcs, hx1, hx2, hbel⟩ := hrel
    have HCS := Lib.hid hcs
    have HX1 := Lib.hid hx1
    have HX2 := Lib.hid hx2
    have HB := Lib.hid hbel
    by_cases hlt : k < 8
    · have c0 := hcs.cell k hlt
      have f0 := hcs.frozen k
      have c1 : wr.cell? ⟨w.heap.size + 1, k, none⟩ = some (B (bat b k)) := (hx1.cell k).trans (blkA_at b k hlt)
      rw [show mixB a b k k = bat a k from if_neg (by omega)] at c0
      unfold B at c0 c1
      have ex := u8_xor (bat a k) (bat b k)
      clear hcs hx1 hx2 hbel
      go_wp2_with fail
      go_region
      go_wp2_with fail
      go_roundw
      case rel =>
        have fin : XdRel a b w (.int .i64 ((k : Int) + 1)) ((wr.setCell ⟨w.heap.size, k, none⟩ (.int .u8 (((bat a k).toNat ^^^ (bat b k).toNat : Nat) : Int))).drew) := by
          refine ⟨k + 1, by omega, by go_num, CellsAt.drew (HCS.out.set k _ ?_ ?_), (HX1.out.other ⟨w.heap.size, k, none⟩ _ (show w.heap.size + 1 ≠ w.heap.size by omega)).next (Below.refl _ _).drew, (HX2.out.other ⟨w.heap.size, k, none⟩ _ (show w.heap.size + 2 ≠ w.heap.size by omega)).next (Below.refl _ _).drew, (HB.out.setCell (p := ⟨w.heap.size, k, none⟩) (Nat.le_refl _) _).drew⟩
          · show B (if k < k + 1 then _ else _) = _
            rw [if_pos (by omega)]
            unfold B
            rw [UInt8.toNat_xor]
          · intro i hi
            show B (if i < k + 1 then _ else _) = B (if i < k then _ else _)
            by_cases h1 : i < k
            · rw [if_pos h1, if_pos (by omega)]
            · rw [if_neg h1, if_neg (by omega)]
        first | exact fin | ((repeat apply Exists.intro); exact ⟨fin, rfl⟩)
      case measure => simp [intOf]; omega
    · obtain rfl : k = 8 := by omega
      have c0 := hcs.cell 0 (by decide)
      have c1 := hcs.cell 1 (by decide)
      have c2 := hcs.cell 2 (by decide)
      have c3 := hcs.cell 3 (by decide)
      have c4 := hcs.cell 4 (by decide)
      have c5 := hcs.cell 5 (by decide)
      have c6 := hcs.cell 6 (by decide)
      have c7 := hcs.cell 7 (by decide)
      have y0 := hx2.blk0
      have y1 := hx2.blk1
      have y2 := hx2.blk2
      have y3 := hx2.blk3
      have y4 := hx2.blk4
      have y5 := hx2.blk5
      have y6 := hx2.blk6
      have y7 := hx2.blk7
      have z0 := hx2.frozen 0
      have z1 := hx2.frozen 1
      have z2 := hx2.frozen 2
      have z3 := hx2.frozen 3
      have z4 := hx2.frozen 4
      have z5 := hx2.frozen 5
      have z6 := hx2.frozen 6
      have z7 := hx2.frozen 7
      rw [show mixB a b 8 0 = bat (xor8 a b) 0 from rfl] at c0
      rw [show mixB a b 8 1 = bat (xor8 a b) 1 from rfl] at c1
      rw [show mixB a b 8 2 = bat (xor8 a b) 2 from rfl] at c2
      rw [show mixB a b 8 3 = bat (xor8 a b) 3 from rfl] at c3
      rw [show mixB a b 8 4 = bat (xor8 a b) 4 from rfl] at c4
      rw [show mixB a b 8 5 = bat (xor8 a b) 5 from rfl] at c5
      rw [show mixB a b 8 6 = bat (xor8 a b) 6 from rfl] at c6
      rw [show mixB a b 8 7 = bat (xor8 a b) 7 from rfl] at c7
      unfold B at c0 c1 c2 c3 c4 c5 c6 c7 y0 y1 y2 y3 y4 y5 y6 y7
      clear HCS HX1 HX2 hcs hx1 hx2 hbel
      go_wp2_with fail
      refine bodyPost_ret (v := .agg (blkA (xor8 a b))) (by simp [blkA, B, results, Tryd.results47, go_sem, c0, c1, c2, c3, c4, c5, c6, c7, y0, y1, y2, y3, y4, y5, y6, y7]) rfl ⟨rfl, ?_⟩
      exact eight_set HB.out (by omega) _ _ _ _ _ _ _ _
end Go.Proofs.YtcckpkcjekcajaaDoor

namespace Go.Proofs.YtcckpkcjekcajaaDoor
open Go.RowKit

theorem und_u8 : Tryd.prog.underlying 5 = some (.int .u8) := Tryd.underlying5
theorem size_u8 (w : World) : (sizeOf 5).run Tryd.prog w = .ok 1 w := by kernel_rfl
/-- Two blocks compared as arrays. -/
theorem blk_eq (a b : ByteArray) (ha : a.size = 8) (hb : b.size = 8) (w : World) : (Op.equalIn 10000 65 (.agg (blkA a)) (.agg (blkA b))).run Tryd.prog w = .ok (decide (a = b)) w := by
  have h := run_equalIn_bytes (P := Tryd.prog) w 9998 65 5 8 Tryd.underlying65 und_u8 size_u8 a.data.toList b.data.toList (by rw [Array.length_toList]; exact ha) (by rw [Array.length_toList]; exact hb)
  have ea : ((a.data.toList).map Extern.Stop.cell).toArray = blkA a := by rw [bytes_block ha]; rfl
  have eb : ((b.data.toList).map Extern.Stop.cell).toArray = blkA b := by rw [bytes_block hb]; rfl
  have hd : (a.data.toList == b.data.toList) = decide (a = b) := by
    by_cases e : a = b
    · subst e; simp
    · rw [decide_eq_false e, beq_eq_false_iff_ne]
      exact fun h => e (ByteArray.ext (Array.toList_inj.1 h))
  rw [ea, eb, hd] at h
  exact h

def DsRel (a b : ByteArray) (w : World) (x i : Value) (wr : World) : Prop :=
  ∃ k : Nat, k ≤ 8 ∧ i = .int .i64 k ∧ x = .int .i64 (diffT a b k) ∧ Bx wr w.heap.size 65 (blkA a) ∧ Bx wr (w.heap.size + 1) 65 (blkA b) ∧ Below w.heap.size w wr
/-- Byte m of block i among the first k; the others are 0. -/
def partB (l : List ByteArray) (k j : Nat) : Value := B (if j / 8 < k then bat (l.getD (j / 8) ⟨#[]⟩) (j % 8) else 0)
def blkCs (l : List ByteArray) : List Value := (List.range (l.length * 8)).map (partB l l.length)
theorem blkCs_length (l : List ByteArray) : (blkCs l).length = l.length * 8 := by simp [blkCs]
theorem blkCs_at (l : List ByteArray) (k m : Nat) (hk : k < l.length) (hm : m < 8) : (blkCs l)[k * 8 + m]? = some (B (bat l[k] m)) := by
  have e1 : (k * 8 + m) / 8 = k := by omega
  have e2 : (k * 8 + m) % 8 = m := by omega
  have h : k * 8 + m < l.length * 8 := by omega
  unfold blkCs
  rw [List.getElem?_map, List.getElem?_range h]
  simp only [Option.map_some, partB, e1, e2, if_pos hk, List.getD_eq_getElem?_getD, List.getElem?_eq_getElem hk, Option.getD_some]
theorem partB_all (l : List ByteArray) (j : Nat) (h : j < l.length * 8) : (blkCs l)[j]? = some (partB l l.length j) := by
  unfold blkCs
  rw [List.getElem?_map, List.getElem?_range h]; rfl
/-- Eight cells stored. -/
theorem cells8 {w : World} {g n k : Nat} {T : TypeId} {v : Nat → Value} (h : CellsAt w g T n v) (x0 x1 x2 x3 x4 x5 x6 x7 : Value) (v' : Nat → Value) (e0 : v' (k * 8) = x0) (e1 : v' (k * 8 + 1) = x1) (e2 : v' (k * 8 + 2) = x2) (e3 : v' (k * 8 + 3) = x3) (e4 : v' (k * 8 + 4) = x4) (e5 : v' (k * 8 + 5) = x5) (e6 : v' (k * 8 + 6) = x6) (e7 : v' (k * 8 + 7) = x7) (ho : ∀ j, j / 8 ≠ k → v' j = v j) :
    CellsAt ((((((((w.setCell ⟨g, k * 8, none⟩ x0).setCell ⟨g, k * 8 + 1, none⟩ x1).setCell ⟨g, k * 8 + 2, none⟩ x2).setCell ⟨g, k * 8 + 3, none⟩ x3).setCell ⟨g, k * 8 + 4, none⟩ x4).setCell ⟨g, k * 8 + 5, none⟩ x5).setCell ⟨g, k * 8 + 6, none⟩ x6).setCell ⟨g, k * 8 + 7, none⟩ x7) g T n v' := by
  have step : ∀ (m : Nat) (W : World), CellsAt W g T n (fun j => if k * 8 ≤ j ∧ j < k * 8 + m then v' j else v j) → CellsAt (W.setCell ⟨g, k * 8 + m, none⟩ (v' (k * 8 + m))) g T n (fun j => if k * 8 ≤ j ∧ j < k * 8 + (m + 1) then v' j else v j) := fun m W hW =>
    hW.set _ _ (if_pos ⟨by omega, by omega⟩) (fun i hi => by
      by_cases c : k * 8 ≤ i ∧ i < k * 8 + m
      · rw [if_pos c, if_pos ⟨c.1, by omega⟩]
      · rw [if_neg c, if_neg (by omega)])
  have s0 : CellsAt w g T n (fun j => if k * 8 ≤ j ∧ j < k * 8 + 0 then v' j else v j) := h.congr fun j _ => by rw [if_neg (by omega)]
  have s8 := step 7 _ (step 6 _ (step 5 _ (step 4 _ (step 3 _ (step 2 _ (step 1 _ (step 0 _ s0)))))))
  rw [Nat.add_zero, e0, e1, e2, e3, e4, e5, e6, e7] at s8
  refine s8.congr fun j _ => ?_
  by_cases c : k * 8 ≤ j ∧ j < k * 8 + (7 + 1)
  · rw [if_pos c]
  · rw [if_neg c]; exact ho j (by omega)
theorem Tryd.infoblk : (Tryd.prog.info? 65).map (fun i => (i.zero, i.size, i.bytes)) = some (some (.agg #[.int .u8 0, .int .u8 0, .int .u8 0, .int .u8 0, .int .u8 0, .int .u8 0, .int .u8 0, .int .u8 0]), 8, 8) := by kernel_rfl
theorem made_blk {w1 : World} {g n : Nat} {l : List ByteArray} (h : w1.heap[g]? = some (.cells (madeCells #[Value.int .u8 0, Value.int .u8 0, Value.int .u8 0, Value.int .u8 0, Value.int .u8 0, Value.int .u8 0, Value.int .u8 0, Value.int .u8 0] (n * 8)).toList.toArray 65 (0, 0))) : CellsAt w1 g 65 (n * 8) (partB l 0) := by
  refine cellsAt_list h (n * 8) _ (by simp [madeCells]) (fun j hj => ?_)
  have h2 : j % 8 = 0 ∨ j % 8 = 1 ∨ j % 8 = 2 ∨ j % 8 = 3 ∨ j % 8 = 4 ∨ j % 8 = 5 ∨ j % 8 = 6 ∨ j % 8 = 7 := by omega
  rcases h2 with h2 | h2 | h2 | h2 | h2 | h2 | h2 | h2 <;> simp [madeCells, hj, partB, h2, B]
def AcRel (w : World) (l : List ByteArray) (i : Value) (wr : World) : Prop :=
  ∃ k : Nat, k ≤ l.length ∧ i = .int .i64 k ∧ CellsAt wr w.heap.size 65 (l.length * 8) (partB l k) ∧ Below w.heap.size w wr
set_option maxRecDepth 100000 in
set_option maxHeartbeats 2000000 in
theorem implAll (v : Value) (l : List ByteArray) (w : World) (h : Rd w v l.length 1 (strs l)) (hi8 : ImgOk l) :
    Calls Tryd.prog 66 #[v] w (MadeRow w l.length 8 (blkCs l)) := by
  obtain ⟨⟨n0, n1⟩, hs⟩ := hi8
  have HS := Lib.hid hs
  clear hs
  obtain ⟨i0, hi, hz0, hz1, hz2⟩ := info_parts Tryd.infoblk
  obtain ⟨_, a, c, rfl, hc⟩ := h
  have HC := Lib.hid hc
  clear hc
  go_enter Tryd.func66, Tryd.ntmps66
  go_wp2_with (at_make; refine wpList_make_full _ rfl _ _ 91 rfl w.heap.size 65 i0 (.agg #[.int .u8 0, .int .u8 0, .int .u8 0, .int .u8 0, .int .u8 0, .int .u8 0, .int .u8 0, .int .u8 0]) 8 Tryd.underlying91 hi hz0 hz1 .i64 .i64 _ _ l.length rfl rfl (by omega) (by omega) (by rw [hz2]; omega) (by unfold maxLen; omega) (Nat.le_refl _) ?_)
  intro w1 hown1 hgrow1
  have hb1 : Below w.heap.size w w1 := (Below.refl _ w).grown hgrow1 (Nat.le_refl _) (by simp)
  have hg1 := own_block' hown1
  have HG1 := Lib.hid (made_blk (l := l) hg1)
  have HB1 := Lib.hid hb1
  clear hown1 hgrow1 hg1 hb1 hi hz0 hz1 hz2
  go_wp2_with fail
  go_loopw [11] (fun i wr => AcRel w l i wr) (fun i _ => l.length - (intOf i).toNat)
  case atStart => exact ⟨0, by omega, rfl, HG1.out, HB1.out⟩
  case round =>
    clear HG1 HB1
    obtain ⟨k, hk, rfl, hcs, hbel⟩ := hrel
    by_cases hlt : k < l.length
    · obtain ⟨b, off, rfl, hbl, hcell⟩ := HC.out (by omega)
      have hc0 : wr.cell? ⟨b, off + k, none⟩ = some (.string l[k]) := by
        rw [hbel.cell (p := ⟨b, off + k, none⟩) hbl, hcell k (by omega), strs_at l k hlt]
      have HCS := Lib.hid hcs
      have HBEL := Lib.hid hbel
      have hsz := hbel.size
      have hlw : w.heap.size < wr.heap.size := hcs.lt
      have hs8 := HS.out _ (List.getElem_mem hlt)
      have HX := Lib.hid (show l.getD k ⟨#[]⟩ = l[k] by rw [List.getD_eq_getElem?_getD, List.getElem?_eq_getElem hlt]; rfl)
      clear hcs hbel hcell
      generalize l[k] = s at *
      go_wp2_with fail
      refine (implOf s wr hs8).mono ?_
      rintro e w2 ⟨rfl, hb2⟩
      have hcs2 := HCS.out.below hb2 hlw
      have HCS2 := Lib.hid hcs2
      have HBEL2 := Lib.hid (HBEL.out.trans (hb2.mono hsz))
      have p0 := hcs2.cell (k * 8) (by omega)
      have p1 := hcs2.cell (k * 8 + 1) (by omega)
      have p2 := hcs2.cell (k * 8 + 2) (by omega)
      have p3 := hcs2.cell (k * 8 + 3) (by omega)
      have p4 := hcs2.cell (k * 8 + 4) (by omega)
      have p5 := hcs2.cell (k * 8 + 5) (by omega)
      have p6 := hcs2.cell (k * 8 + 6) (by omega)
      have p7 := hcs2.cell (k * 8 + 7) (by omega)
      have z0 := hcs2.frozen (k * 8)
      have z1 := hcs2.frozen (k * 8 + 1)
      have z2 := hcs2.frozen (k * 8 + 2)
      have z3 := hcs2.frozen (k * 8 + 3)
      have z4 := hcs2.frozen (k * 8 + 4)
      have z5 := hcs2.frozen (k * 8 + 5)
      have z6 := hcs2.frozen (k * 8 + 6)
      have z7 := hcs2.frozen (k * 8 + 7)
      clear hcs2 hb2 hc0
      unfold blkA B
      go_wp2_with fail
      go_roundw
      case rel =>
        refine ⟨k + 1, by omega, by go_num, ?_, ?_⟩
        · refine cells8 (k := k) HCS2.out _ _ _ _ _ _ _ _ _ ?_ ?_ ?_ ?_ ?_ ?_ ?_ ?_ ?_
          all_goals first
            | (intro j hj; unfold partB; by_cases h1 : j / 8 < k
               · rw [if_pos h1, if_pos (by omega)]
               · rw [if_neg h1, if_neg (by omega)])
            | (unfold partB; rw [if_pos (by omega)]; first | rw [show k * 8 / 8 = k by omega, show k * 8 % 8 = 0 by omega, HX.out]; rfl | rw [show (k * 8 + 1) / 8 = k by omega, show (k * 8 + 1) % 8 = 1 by omega, HX.out]; rfl | rw [show (k * 8 + 2) / 8 = k by omega, show (k * 8 + 2) % 8 = 2 by omega, HX.out]; rfl | rw [show (k * 8 + 3) / 8 = k by omega, show (k * 8 + 3) % 8 = 3 by omega, HX.out]; rfl | rw [show (k * 8 + 4) / 8 = k by omega, show (k * 8 + 4) % 8 = 4 by omega, HX.out]; rfl | rw [show (k * 8 + 5) / 8 = k by omega, show (k * 8 + 5) % 8 = 5 by omega, HX.out]; rfl | rw [show (k * 8 + 6) / 8 = k by omega, show (k * 8 + 6) % 8 = 6 by omega, HX.out]; rfl | rw [show (k * 8 + 7) / 8 = k by omega, show (k * 8 + 7) % 8 = 7 by omega, HX.out]; rfl)
        · exact (((((((HBEL2.out.setCell (p := ⟨w.heap.size, _, none⟩) (Nat.le_refl _) _).setCell (p := ⟨w.heap.size, _, none⟩) (Nat.le_refl _) _).setCell (p := ⟨w.heap.size, _, none⟩) (Nat.le_refl _) _).setCell (p := ⟨w.heap.size, _, none⟩) (Nat.le_refl _) _).setCell (p := ⟨w.heap.size, _, none⟩) (Nat.le_refl _) _).setCell (p := ⟨w.heap.size, _, none⟩) (Nat.le_refl _) _).setCell (p := ⟨w.heap.size, _, none⟩) (Nat.le_refl _) _).setCell (p := ⟨w.heap.size, _, none⟩) (Nat.le_refl _) _
      case measure => simp [intOf]; omega
    · obtain rfl : k = l.length := by omega
      have HCS := Lib.hid hcs
      have HBEL := Lib.hid hbel
      clear hcs hbel
      go_wp2_with fail
      go_ret
      refine ⟨_, rfl, ?_, HBEL.out⟩
      exact own_of_cells HCS.out (Nat.le_refl _) (Nat.le_refl _) (blkCs_length l) (fun j hj => partB_all l j hj)
end Go.Proofs.YtcckpkcjekcajaaDoor

namespace Go.Proofs.YtcckpkcjekcajaaDoor
open Go.RowKit

set_option maxRecDepth 100000 in
theorem wrongLen (s : ByteArray) (w : World) :
    Calls Tryd.prog 55 #[.string s] w fun e w' => e = .returned (.bool ((s.size : Int) != 8)) ∧ w = w' := by
  obtain ⟨q, hq⟩ : ∃ q, q = ((s.size : Int) != 8) := ⟨_, rfl⟩
  rw [← hq]
  have hq' := hq.symm
  clear hq
  go_enter Tryd.func55, Tryd.ntmps55
  go_wp2_with fail
  go_ret
  exact ⟨rfl, rfl⟩
def IsRel (l : List ByteArray) (i : Value) : Prop := ∃ k : Nat, k ≤ l.length ∧ i = .int .i64 k ∧ ∀ j (h : j < l.length), j < k → l[j].size = 8
def IsFound (l : List ByteArray) (w : World) (e : Ending) (w' : World) : Prop := ∃ r : Int, e = .returned (.int .i64 r) ∧ (0 ≤ r ↔ ¬ ∀ s ∈ l, s.size = 8) ∧ -1 ≤ r ∧ r ≤ 1048576 ∧ w = w'
set_option maxHeartbeats 2000000 in
set_option maxRecDepth 100000 in
theorem indexStr (vl : Value) (l : List ByteArray) (w : World) (hl : Rd w vl l.length 1 (strs l)) (hn : l.length ≤ 1048576) :
    Calls Tryd.prog 79 #[vl, .func (.func 55) #[] #[]] w (IsFound l w) := by
  obtain ⟨al, cl, rfl, -⟩ := id hl.2
  have HV := Lib.hid hl
  clear hl
  go_enter Tryd.func79, Tryd.ntmps79
  go_wp2_with fail
  go_loop [8] (fun i => IsRel l i) (fun i => l.length - (intOf i).toNat)
  case atStart => exact ⟨0, by omega, rfl, fun j _ hj => absurd hj (by omega)⟩
  case round =>
    obtain ⟨k, hk, rfl, hseen⟩ := hrel
    have HSEEN := Lib.hid hseen
    clear hseen
    by_cases hlk : k < l.length
    · obtain ⟨b, off, rfl, hbl, hcell⟩ := HV.out.get (by omega)
      have r0 : w.cell? ⟨b, off + k, none⟩ = some (.string l[k]) := by rw [hcell k (by omega), strs_at l k hlk]
      have e0 : (k : Int) < (l.length : Int) := by omega
      have e1 : (0 : Int) ≤ (k : Int) := by omega
      clear hcell
      go_wp2_with fail
      refine (wrongLen l[k] w).mono ?_
      rintro e w2 ⟨rfl, rfl⟩
      by_cases hs : l[k].size = 8
      · have ds : ((l[k].size : Int) != 8) = false := by simp [hs]
        have HQ := Lib.hid hs
        clear hs
        go_wp2_with fail
        go_round
        case rel =>
          refine ⟨k + 1, by omega, by go_num, fun j h hj => ?_⟩
          by_cases hjk : j = k
          · subst hjk; exact HQ.out
          · exact HSEEN.out j h (by omega)
        case measure => simp [intOf]; omega
      · have ds : ((l[k].size : Int) != 8) = true := by simp; omega
        have HQ := Lib.hid hs
        clear hs
        go_wp2_with fail
        go_ret
        exact ⟨k, rfl, ⟨fun _ h => HQ.out (h _ (List.getElem_mem hlk)), fun _ => by omega⟩, by omega, by omega, rfl⟩
    · obtain rfl : k = l.length := by omega
      have d1 : decide ((l.length : Int) < (l.length : Int)) = false := decide_eq_false (by omega)
      go_wp2_with fail
      go_ret
      refine ⟨-1, rfl, ⟨fun h => by omega, fun h => absurd (fun s hs => ?_) h⟩, by omega, by omega, rfl⟩
      obtain ⟨j, hj, rfl⟩ := List.getElem_of_mem hs
      exact HSEEN.out j hj hj
set_option maxHeartbeats 1000000 in
set_option maxRecDepth 100000 in
theorem containsStr (vl : Value) (l : List ByteArray) (w : World) (hl : Rd w vl l.length 1 (strs l)) (hn : l.length ≤ 1048576) :
    Calls Tryd.prog 57 #[vl, .func (.func 55) #[] #[]] w fun e w' => ∃ b : Bool, e = .returned (.bool b) ∧ (b = true ↔ ¬ ∀ s ∈ l, s.size = 8) ∧ w = w' := by
  obtain ⟨al, cl, rfl, -⟩ := id hl.2
  have HV := Lib.hid hl
  clear hl
  go_enter Tryd.func57, Tryd.ntmps57
  go_wp2_with fail
  refine (indexStr _ l w HV.out hn).mono ?_
  rintro e w1 ⟨r, rfl, hiff, h0, h1, rfl⟩
  have HI := Lib.hid hiff
  clear hiff
  by_cases hr : 0 ≤ r
  · have d0 : decide ((0 : Int) ≤ r) = true := decide_eq_true hr
    go_wp2_with fail
    go_ret
    exact ⟨true, rfl, ⟨fun _ => HI.out.1 hr, fun _ => rfl⟩, rfl⟩
  · have d0 : decide ((0 : Int) ≤ r) = false := decide_eq_false hr
    go_wp2_with fail
    go_ret
    exact ⟨false, rfl, ⟨fun h => absurd h (by simp), fun h => absurd (HI.out.2 h) (by omega)⟩, rfl⟩
set_option maxHeartbeats 1000000 in
set_option maxRecDepth 100000 in
theorem implImg (v : Value) (l : List ByteArray) (w : World) (h : Rd w v l.length 1 (strs l)) (hn : l.length ≤ 1048576) :
    Calls Tryd.prog 18 #[v] w fun e w' => e = .returned (.bool (imgB l)) ∧ w = w' := by
  obtain ⟨a, c, rfl, -⟩ := id h.2
  have HV := Lib.hid h
  clear h
  obtain ⟨R, hR⟩ : ∃ R, R = imgB l := ⟨_, rfl⟩
  rw [← hR]
  have HR := Lib.hid hR
  clear hR
  by_cases hc : 1 ≤ (l.length : Int) ∧ (l.length : Int) ≤ 8
  · obtain ⟨n0, n1⟩ := hc
    go_enter Tryd.func18, Tryd.ntmps18
    go_wp2_with fail
    refine (isCount_yes _ _ n0 n1).mono ?_
    rintro e w1 ⟨rfl, rfl⟩
    go_wp2_with fail
    refine (containsStr _ l w1 HV.out hn).mono ?_
    rintro e w2 ⟨b, rfl, hb, rfl⟩
    have hr : R = !b := by
      rw [HR.out]
      cases b with
      | true => exact imgB_no (fun h => (hb.1 rfl) h.2)
      | false => exact imgB_yes ⟨by omega, Classical.byContradiction fun h => by have := hb.2 h; cases this⟩
    subst hr
    clear HR hb
    go_wp2_with fail
    go_ret
    exact ⟨rfl, rfl⟩
  · have hr : R = false := by rw [HR.out]; exact imgB_no (fun h => hc (by have := h.1; omega))
    subst hr
    clear HR
    have HC := Lib.hid hc
    clear hc
    go_enter Tryd.func18, Tryd.ntmps18
    go_wp2_with fail
    refine (isCount_no _ _ HC.out).mono ?_
    rintro e w1 ⟨rfl, rfl⟩
    go_wp2_with fail
    go_ret
    exact ⟨rfl, rfl⟩
set_option maxHeartbeats 1000000 in
set_option maxRecDepth 100000 in
theorem implXored (a b : ByteArray) (w : World) (ha : a.size ≤ maxLen) (hb : b.size ≤ maxLen) :
    Calls Tryd.prog 12 #[.string a, .string b] w fun e w' => e = .returned (.string (xorS a b)) ∧ Below w.heap.size w w' := by
  obtain ⟨R, hR⟩ : ∃ R, R = xorS a b := ⟨_, rfl⟩
  rw [← hR]
  have HR := Lib.hid hR
  clear hR
  unfold maxLen at ha hb
  by_cases ha8 : a.size = 8
  rotate_left
  · have hr : R = ⟨#[]⟩ := by rw [HR.out]; unfold xorS; rw [if_neg (fun h => ha8 h.1)]
    subst hr
    clear HR
    have da : ((a.size : Int) != 8) = true := by simp; omega
    go_enter Tryd.func12, Tryd.ntmps12
    go_wp2_with fail
    go_ret
    exact ⟨rfl, Below.refl _ _⟩
  have da : ((a.size : Int) != 8) = false := by simp [ha8]
  by_cases hb8 : b.size = 8
  rotate_left
  · have hr : R = ⟨#[]⟩ := by rw [HR.out]; unfold xorS; rw [if_neg (fun h => hb8 h.2)]
    subst hr
    clear HR
    have db : ((b.size : Int) != 8) = true := by simp; omega
    clear ha8
    go_enter Tryd.func12, Tryd.ntmps12
    go_wp2_with fail
    go_ret
    exact ⟨rfl, Below.refl _ _⟩
  have db : ((b.size : Int) != 8) = false := by simp [hb8]
  have hr : R = xor8 a b := by rw [HR.out]; unfold xorS; rw [if_pos ⟨ha8, hb8⟩]
  have HR2 := Lib.hid hr
  have HA8 := Lib.hid ha8
  have HB8 := Lib.hid hb8
  clear HR ha8 hb8 hr
  go_enter Tryd.func12, Tryd.ntmps12
  go_wp2_with fail
  refine (implOf a w HA8.out).mono ?_
  rintro e w1 ⟨rfl, hb1⟩
  have B1 := Lib.hid hb1
  clear hb1
  go_wp2_with fail
  refine (implOf b w1 HB8.out).mono ?_
  rintro e w2 ⟨rfl, hb2⟩
  have B2 := Lib.hid (below_more B1.out hb2)
  clear hb2
  go_wp2_with fail
  refine (implXd a b w2).mono ?_
  rintro e w3 ⟨rfl, hb3⟩
  have B3 := Lib.hid (below_more B2.out hb3)
  clear hb3
  rw [← HR2.out]
  have hs : R.size = 8 := by rw [HR2.out]; exact xor8_size a b
  go_wp2_with fail
  refine (implText8 R w3 hs).mono ?_
  rintro e w4 ⟨rfl, hb4⟩
  have B4 := Lib.hid (below_more B3.out hb4)
  clear hb4
  go_wp2_with fail
  go_ret
  exact ⟨rfl, B4.out⟩

/-- What makerOver gives: a function that keeps the blocks. -/
structure Maker (w : World) (lo : Nat) (l : List ByteArray) (g : Nat) (v : Value) : Prop where
  cell : w.cell? ⟨g, 0, none⟩ = some v
  low : lo ≤ g
  lt : g < w.heap.size
  rd : Rd w v l.length 8 (blkCs l)
theorem Maker.below {w w' : World} {lo g B : Nat} {l : List ByteArray} {v : Value} (h : Maker w lo l g v) (hb : Below B w w') (hB : w.heap.size ≤ B) : Maker w' lo l g v :=
  ⟨(hb.cell (p := ⟨g, 0, none⟩) (Nat.lt_of_lt_of_le h.lt hB)).trans h.cell, h.low, Nat.lt_of_lt_of_le h.lt hb.size, h.rd.below hb hB⟩
set_option maxHeartbeats 1000000 in
set_option maxRecDepth 100000 in
theorem implOver (v : Value) (l : List ByteArray) (w : World) (h : Rd w v l.length 1 (strs l)) (hi8 : ImgOk l) :
    Calls Tryd.prog 32 #[v] w fun e w' => ∃ g u, e = .returned (.func (.func 67) #[] #[.pointer (some ⟨g, 0, none⟩)]) ∧ Maker w' w.heap.size l g u ∧ Below w.heap.size w w' := by
  obtain ⟨a, c, rfl, -⟩ := id h.2
  have HV := Lib.hid h
  clear h
  go_enter Tryd.func32, Tryd.ntmps32
  go_wp2_with fail
  refine (implAll _ l w HV.out hi8).mono ?_
  rintro e w1 ⟨v1, rfl, ho, hb⟩
  obtain ⟨a1, c1, rfl, -⟩ := id ho.2
  have HO := Lib.hid ho
  have B1 := Lib.hid hb
  have hsz := hb.size
  clear ho hb
  go_wp2_with fail
  go_ret
  exact ⟨_, _, rfl, ⟨by simp, hsz, by simp, HO.out.rd.below (below_more (below_alloc1 w1 _) (by first | exact (Below.refl _ _).setCell (p := ⟨w1.heap.size, 0, none⟩) (by simp) _ | exact Below.refl _ _)) (Nat.le_refl _)⟩, B1.out.trans ((below_alloc1 w1 _).mono hsz)⟩
end Go.Proofs.YtcckpkcjekcajaaDoor

namespace Go.Proofs.YtcckpkcjekcajaaDoor
open Go.RowKit

/-- What ImageApply answers. -/
noncomputable def applyR (image : List ByteArray) (l : List stpT) : List ByteArray × Int :=
  if 400 < image.length ∨ 400 < l.length then ([], 2) else if imgB image = false then ([], 1) else if codeS l (image.length : Int) ≠ 0 then ([], codeS l (image.length : Int)) else (applyL image l, 0)
theorem applyR_size {image : List ByteArray} {l : List stpT} (h : 400 < image.length ∨ 400 < l.length) : applyR image l = ([], 2) := by unfold applyR; rw [if_pos h]
theorem applyR_form {image : List ByteArray} {l : List stpT} (h : ¬ (400 < image.length ∨ 400 < l.length)) (h2 : imgB image = false) : applyR image l = ([], 1) := by unfold applyR; rw [if_neg h, if_pos h2]
theorem applyR_code {image : List ByteArray} {l : List stpT} (h : ¬ (400 < image.length ∨ 400 < l.length)) (h2 : imgB image = true) (h3 : codeS l (image.length : Int) ≠ 0) : applyR image l = ([], codeS l (image.length : Int)) := by unfold applyR; rw [if_neg h, if_neg (by simp [h2]), if_pos h3]
theorem applyR_ok {image : List ByteArray} {l : List stpT} (h : ¬ (400 < image.length ∨ 400 < l.length)) (h2 : imgB image = true) (h3 : codeS l (image.length : Int) = 0) : applyR image l = (applyL image l, 0) := by unfold applyR; rw [if_neg h, if_neg (by simp [h2]), if_neg (by simp [h3])]
theorem applyR_len (image : List ByteArray) (l : List stpT) : (applyR image l).1.length ≤ 8 := by
  unfold applyR
  split
  · simp
  split
  · simp
  split
  · simp
  · rename_i h2 _
    have := (imgB_iff image).1 (by simpa using h2)
    rw [show (applyL image l, (0 : Int)).1 = applyL image l from rfl, applyL_length]; exact this.1.2
theorem code_ok {l : List stpT} {n : Int} (h : codeS l n = 0) : (1 ≤ n ∧ n ≤ 8) ∧ l.length ≤ 20 ∧ ∀ s ∈ l, stepB n s.1 s.2.1 s.2.2.1 s.2.2.2 = true := by
  have hf : ¬ FormBad l n := fun hf => by rw [codeS_form hf] at h; cases h
  refine ⟨Classical.byContradiction fun h' => hf (.inl h'), Classical.byContradiction fun h' => hf (.inr (.inl (by omega))), fun s hs => ?_⟩
  cases hb : stepB n s.1 s.2.1 s.2.2.1 s.2.2.2 with
  | true => rfl
  | false => exact absurd (.inr (.inr ⟨s, hs, by unfold wrongS; rw [hb]; rfl⟩)) hf
theorem applyT_no {image : List ByteArray} {l : List stpT} {k : Nat} (h : k < l.length) (h5 : l[k].1 = 5) : applyL image (l.take (k + 1)) = applyL image (l.take k) := by
  rw [List.take_succ_eq_append_getElem h, applyL_snoc]
  unfold put1; rw [if_pos h5]
theorem applyT_yes {image : List ByteArray} {l : List stpT} {k : Nat} (h : k < l.length) (h5 : l[k].1 ≠ 5) : applyL image (l.take (k + 1)) = (applyL image (l.take k)).set l[k].2.1.toNat (makeS l[k] (image.getD l[k].2.2.1.toNat ⟨#[]⟩)) := by
  rw [List.take_succ_eq_append_getElem h, applyL_snoc]
  unfold put1; rw [if_neg h5]
/-- An answer with a slice of strings that is the call's own. -/
def OwnZ (w : World) (o : List ByteArray × Int) (e : Ending) (w' : World) : Prop := ∃ v, e = .returned (.agg #[v, .int .i64 o.2]) ∧ Own w' w.heap.size v o.1.length 1 (strs o.1) ∧ Below w.heap.size w w'
def ApRel (image : List ByteArray) (l : List stpT) (w : World) (ov : Value) (i : Value) (wr : World) : Prop :=
  ∃ k : Nat, k ≤ l.length ∧ i = .int .i64 k ∧ Own wr w.heap.size ov image.length 1 (strs (applyL image (l.take k))) ∧ Below w.heap.size w wr

set_option maxRecDepth 100000 in
set_option maxHeartbeats 2000000 in
theorem specApply (v u : Value) (image : List ByteArray) (l : List stpT) (w : World) (h : Rd w v image.length 1 (strs image)) (hl : Rd w u l.length 4 (stpCs l)) (hi : ImgOk image) (hc : codeS l (image.length : Int) = 0) :
    Calls Tryd.prog 45 #[v, u] w (MadeRow w image.length 1 (strs (applyL image l))) := by
  obtain ⟨i0, hi0, hz0, hz1, hz2⟩ := info_parts Tryd.info9
  obtain ⟨⟨n0, n1⟩, hsz⟩ := hi
  obtain ⟨-, hl20, hok⟩ := code_ok hc
  obtain ⟨a, c, rfl, -⟩ := id h.2
  obtain ⟨a', c', rfl, -⟩ := id hl.2
  have HR := Lib.hid h
  have HL := Lib.hid hl
  have HS := Lib.hid hsz
  have HO := Lib.hid hok
  clear h hl hsz hok hc
  go_enter Tryd.func45, Tryd.ntmps45
  go_wp2_with ((with_reducible show wpList _ _ _ (⟨some 9, _, _, _, _, _⟩ :: _) _ _); refine wpList_append_copy _ rfl (.tmp 7) (.tmp 8) 23 rfl 9 i0 _ 1 16 Tryd.underlying23 hi0 hz0 hz1 hz2 rfl (by decide) _ rfl (.slice a image.length c) rfl image.length (strs image) (HR.out.below (B := w.heap.size) ?_ (Nat.le_refl _)) (by unfold maxLen; omega) (by omega) ?_)
  · exact below_alloc1 w _
  intro ad cap w1 ho hb1
  have HB1 := Lib.hid (show Below w.heap.size w w1 from (below_alloc1 w _).trans (hb1.mono (by first | omega | (simp; omega))))
  have HO1 := Lib.hid (show Own w1 w.heap.size (.slice ad image.length cap) image.length 1 (strs (applyL image (l.take 0))) from ho.lower (by simp))
  clear ho hb1 hi0 hz0 hz1 hz2
  go_wp2_with fail
  go_loopw [6] (fun i wr => ApRel image l w (.slice ad image.length cap) i wr) (fun i _ => l.length - (intOf i).toNat)
  case atStart => exact ⟨0, by omega, rfl, HO1.out, HB1.out⟩
  case round =>
    clear HB1 HO1
    obtain ⟨k, hk, rfl, hown, hb⟩ := hrel
    have HOWN := Lib.hid hown
    have HB := Lib.hid hb
    have hwsz := hb.size
    clear hown
    by_cases hlt : k < l.length
    · obtain ⟨b, off, rfl, hbl, hcell⟩ := HL.out.get (by omega)
      have r0 : wr.cell? ⟨b, off + k * 4, none⟩ = some (.int .i64 l[k].1) := by rw [hb.cell (p := ⟨b, off + k * 4, none⟩) hbl, hcell (k * 4) (by omega), stpCs_0 l k hlt]
      have r1 : wr.cell? ⟨b, off + k * 4 + 1, none⟩ = some (.int .i64 l[k].2.1) := by rw [hb.cell (p := ⟨b, off + k * 4 + 1, none⟩) hbl, Nat.add_assoc, hcell (k * 4 + 1) (by omega), stpCs_1 l k hlt]
      have r2 : wr.cell? ⟨b, off + k * 4 + 2, none⟩ = some (.int .i64 l[k].2.2.1) := by rw [hb.cell (p := ⟨b, off + k * 4 + 2, none⟩) hbl, Nat.add_assoc, hcell (k * 4 + 2) (by omega), stpCs_2 l k hlt]
      have r3 : wr.cell? ⟨b, off + k * 4 + 3, none⟩ = some (.string l[k].2.2.2) := by rw [hb.cell (p := ⟨b, off + k * 4 + 3, none⟩) hbl, Nat.add_assoc, hcell (k * 4 + 3) (by omega), stpCs_3 l k hlt]
      have e0 : (k : Int) < (l.length : Int) := by omega
      have e1 : (0 : Int) ≤ (k : Int) := by omega
      clear hcell
      by_cases h5 : l[k].1 = 5
      · have HX := Lib.hid (applyT_no (image := image) hlt h5)
        rw [h5] at r0
        clear h5 hb
        go_wp2_with fail
        go_roundw
        case rel => exact ⟨k + 1, by omega, by go_num, by rw [HX.out]; exact HOWN.out, HB.out⟩
        case measure => simp [intOf]; omega
      · have HX := Lib.hid (applyT_yes (image := image) hlt h5)
        have d5 : (l[k].1 != 5) = true := by simpa using h5
        have hst := HO.out _ (List.getElem_mem hlt)
        obtain ⟨f0, f1, t0, t1, hd8, -⟩ := ok_from hst h5
        clear h5 hst
        obtain ⟨x, hx⟩ : ∃ x, x = l[k] := ⟨_, rfl⟩
        rw [← hx] at r0 r1 r2 r3 d5 f0 f1 t0 t1 hd8 HX
        clear hx
        obtain ⟨x1, x2, x3, x4⟩ := x
        simp only at r0 r1 r2 r3 d5 f0 f1 t0 t1 hd8 HX
        obtain ⟨m, rfl⟩ : ∃ m : Nat, x3 = m := ⟨x3.toNat, by omega⟩
        obtain ⟨q, rfl⟩ : ∃ q : Nat, x2 = q := ⟨x2.toNat, by omega⟩
        have hm : m < image.length := by omega
        have hq : q < image.length := by omega
        have hg : image.getD ((m : Int)).toNat ⟨#[]⟩ = image[m] := by rw [Int.toNat_natCast, List.getD_eq_getElem?_getD, List.getElem?_eq_getElem hm]; rfl
        rw [hg, Int.toNat_natCast] at HX
        have hsm := HS.out _ (List.getElem_mem hm)
        obtain ⟨b2, off2, rfl, hbl2, hcell2⟩ := HR.out.get (by omega)
        have r4 : wr.cell? ⟨b2, off2 + m, none⟩ = some (.string image[m]) := by rw [hb.cell (p := ⟨b2, off2 + m, none⟩) hbl2, hcell2 m (by omega), strs_at image m hm]
        obtain ⟨b3, off3, hp3, hlo3, hbl3, hcell3, hfr3⟩ := HOWN.out.get (by omega)
        subst hp3
        have hlen3 : (strs (applyL image (l.take k))).length = image.length := by rw [strs_length, applyL_length]
        obtain ⟨vq, hvq⟩ : ∃ vq, wr.cell? ⟨b3, off3 + q, none⟩ = some vq := ⟨_, by rw [hcell3 q (by omega), List.getElem?_eq_getElem (by omega)]⟩
        have hfq := hfr3 q (by omega)
        have s0 : image[m].size ≤ maxLen := by rw [hsm]; decide
        have s1 : x4.size ≤ maxLen := by unfold maxLen; omega
        generalize image[m] = src at *
        obtain ⟨Z, hZ⟩ : ∃ Z, Z = makeS (x1, (q : Int), (m : Int), x4) src := ⟨_, rfl⟩
        rw [← hZ] at HX
        have HZ := Lib.hid hZ
        have HVQ := Lib.hid hvq
        clear hcell2 hcell3 hfr3 hg hZ hlen3 hb hsm hvq
        have kp : ∀ w', Below w.heap.size wr w' → (w'.cell? ⟨b3, off3 + q, none⟩).isSome = true → w'.frozen? ⟨b3, off3 + q, none⟩ = false → w'.cell? ⟨b, off + k * 4, none⟩ = some (.int .i64 x1) ∧ w'.cell? ⟨b, off + k * 4 + 1, none⟩ = some (.int .i64 (q : Int)) ∧ w'.cell? ⟨b, off + k * 4 + 2, none⟩ = some (.int .i64 (m : Int)) ∧ w'.cell? ⟨b, off + k * 4 + 3, none⟩ = some (.string x4) ∧ w'.cell? ⟨b2, off2 + m, none⟩ = some (.string src) ∧ (w'.cell? ⟨b3, off3 + q, none⟩).isSome = true ∧ w'.frozen? ⟨b3, off3 + q, none⟩ = false ∧ Below w.heap.size wr w' := fun w' hb' hs' hf' =>
          ⟨(hb'.cell (p := ⟨b, off + k * 4, none⟩) hbl).trans r0, (hb'.cell (p := ⟨b, off + k * 4 + 1, none⟩) hbl).trans r1, (hb'.cell (p := ⟨b, off + k * 4 + 2, none⟩) hbl).trans r2, (hb'.cell (p := ⟨b, off + k * 4 + 3, none⟩) hbl).trans r3, (hb'.cell (p := ⟨b2, off2 + m, none⟩) hbl2).trans r4, hs', hf', hb'⟩
        have K1 := Lib.hid (kp wr.drew (Below.refl _ wr).drew (by show (wr.cell? _).isSome = true; rw [HVQ.out]; rfl) hfq)
        have K2 := Lib.hid (fun w2 (hb2 : Below wr.drew.heap.size wr.drew w2) => kp w2 (Below.trans (Below.refl _ wr).drew (hb2.mono hwsz)) (by rw [hb2.cell (p := ⟨b3, off3 + q, none⟩) hbl3, show wr.drew.cell? ⟨b3, off3 + q, none⟩ = some vq from HVQ.out]; rfl) ((hb2.frozen (p := ⟨b3, off3 + q, none⟩) hbl3).trans hfq))
        have K3 := Lib.hid (fun w2 (hb2 : Below wr.drew.heap.size wr.drew w2) => kp (w2.setCell ⟨b3, off3 + q, none⟩ (.string Z)) ((K2.out w2 hb2).2.2.2.2.2.2.2.setCell (p := ⟨b3, off3 + q, none⟩) hlo3 _) (by rw [World.cell?_setCell_same' w2 _ _ (K2.out w2 hb2).2.2.2.2.2.1]; rfl) (by rw [World.frozen?_setCell]; exact (K2.out w2 hb2).2.2.2.2.2.2.1))
        clear kp
        clear hfq
        have HZC := Lib.hid (show ∀ w', Calls Tryd.prog 50 #[.agg #[.int .i64 x1, .int .i64 (q : Int), .int .i64 (m : Int), .string x4], .string src] w' fun e w'' => e = .returned (.string Z) ∧ Below w'.heap.size w' w'' from fun w' => by rw [HZ.out]; exact specMake x1 q m x4 src w' s1 s0)
        go_wp2_with fail
        go_region_held3 (fun w' => w'.cell? ⟨b, off + k * 4, none⟩ = some (.int .i64 x1) ∧ w'.cell? ⟨b, off + k * 4 + 1, none⟩ = some (.int .i64 (q : Int)) ∧ w'.cell? ⟨b, off + k * 4 + 2, none⟩ = some (.int .i64 (m : Int)) ∧ w'.cell? ⟨b, off + k * 4 + 3, none⟩ = some (.string x4) ∧ w'.cell? ⟨b2, off2 + m, none⟩ = some (.string src) ∧ (w'.cell? ⟨b3, off3 + q, none⟩).isSome = true ∧ w'.frozen? ⟨b3, off3 + q, none⟩ = false ∧ Below w.heap.size wr w')
          (first | (with_reducible exact K1.out) | (with_reducible exact K2.out _ hb2) | (with_reducible exact K3.out _ hb2))
          ((go_at_call 50; go_split_ands; refine (HZC.out _).mono ?_; rintro e w2 ⟨rfl, hb2⟩; obtain ⟨vz, hvz⟩ := Option.isSome_iff_exists.1 (K2.out _ hb2).2.2.2.2.2.1; have hvf := (K2.out _ hb2).2.2.2.2.2.2.1))
        all_goals (
          have hb3 : Below wr.heap.size wr w2 := below_more (Below.refl wr.heap.size wr).drew hb2
          have HB2 := Lib.hid (HB.out.trans (hb3.mono hwsz))
          have HO2 := Lib.hid ((HOWN.out.below hb3 (Nat.le_refl _)).set q (.string Z) (by omega) ⟨vz, hvz⟩)
          clear hb2 hb3 hvz hvf
          go_wp2_with fail
          go_roundw
          case rel =>
            refine ⟨k + 1, by omega, by go_num, ?_, HB2.out.setCell (p := ⟨b3, off3 + q, none⟩) hlo3 _⟩
            rw [HX.out, strs_set]
            exact HO2.out
          case measure => simp [intOf]; omega)
    · obtain rfl : k = l.length := by omega
      clear hb
      rw [List.take_length] at HOWN
      go_wp2_with fail
      go_ret
      exact ⟨_, rfl, HOWN.out, HB.out⟩
end Go.Proofs.YtcckpkcjekcajaaDoor

namespace Go.Proofs.YtcckpkcjekcajaaDoor
open Go.RowKit

theorem below_nx {W a b : World} (h : Below W.heap.size W a) (k : Below a.heap.size a b) : Below W.heap.size W b := h.trans (k.mono h.size)
set_option maxRecDepth 100000 in
set_option maxHeartbeats 1000000 in
theorem wrong_fn (k t f n : Int) (d : ByteArray) (B : Nat) (w : World) (hB : w.cell? ⟨B, 0, none⟩ = some (.int .i64 n)) (hlt : B < w.heap.size) :
    Calls Tryd.prog 83 #[.agg #[.int .i64 k, .int .i64 t, .int .i64 f, .string d], .pointer (some ⟨B, 0, none⟩)] w fun e w' => e = .returned (.bool (wrongS n (k, t, f, d))) ∧ Below w.heap.size w w' := by
  have HB := Lib.hid (below_alloc1 w (.cells #[.int .i64 k, .int .i64 t, .int .i64 f, .string d] 33))
  have hb := (below_alloc1 w (.cells #[.int .i64 k, .int .i64 t, .int .i64 f, .string d] 33)).cell (p := ⟨B, 0, none⟩) hlt
  rw [hB] at hb
  obtain ⟨R, hR⟩ : ∃ R, R = stepB n k t f d := ⟨_, rfl⟩
  have hw : wrongS n (k, t, f, d) = !R := by rw [hR]; rfl
  rw [hw]
  have HR := Lib.hid hR
  clear hR hw
  go_enter Tryd.func83, Tryd.ntmps83
  go_wp2_with fail
  have hc := implRight k t f n d (w.alloc (.cells #[.int .i64 k, .int .i64 t, .int .i64 f, .string d] 33))
  rw [← HR.out] at hc
  refine hc.mono ?_
  clear hc
  rintro e w1 ⟨rfl, hb1⟩
  have HB1 := Lib.hid (below_nx HB.out hb1)
  clear hb1
  go_wp2_with fail
  go_ret
  exact ⟨rfl, HB1.out⟩

def IxRel (l : List stpT) (n : Int) (w : World) (i : Value) (wr : World) : Prop := ∃ k : Nat, k ≤ l.length ∧ i = .int .i64 k ∧ (∀ j (h : j < l.length), j < k → wrongS n l[j] = false) ∧ Below w.heap.size w wr
/-- What IndexFunc gives: whether there is a step that is not valid, by the sign. -/
def IxFound (l : List stpT) (n : Int) (w : World) (e : Ending) (w' : World) : Prop := ∃ r : Int, e = .returned (.int .i64 r) ∧ (0 ≤ r ↔ ∃ s ∈ l, wrongS n s = true) ∧ -1 ≤ r ∧ r ≤ 1048576 ∧ Below w.heap.size w w'
set_option maxHeartbeats 2000000 in
set_option maxRecDepth 100000 in
theorem indexS_any (vl : Value) (l : List stpT) (n : Int) (B : Nat) (w : World) (hl : Rd w vl l.length 4 (stpCs l)) (hn : l.length ≤ 1048576) (hB : w.cell? ⟨B, 0, none⟩ = some (.int .i64 n)) (hlt : B < w.heap.size) :
    Calls Tryd.prog 92 #[vl, .func (.func 83) #[] #[.pointer (some ⟨B, 0, none⟩)]] w (IxFound l n w) := by
  obtain ⟨al, cl, rfl, -⟩ := id hl.2
  have HV := Lib.hid hl
  have HBB := Lib.hid hB
  clear hl hB
  go_enter Tryd.func92, Tryd.ntmps92
  go_wp2_with fail
  go_loopw [8] (fun i wr => IxRel l n w i wr) (fun i _ => l.length - (intOf i).toNat)
  case atStart => exact ⟨0, by omega, rfl, fun j _ hj => absurd hj (by omega), Below.refl _ _⟩
  case round =>
    obtain ⟨k, hk, rfl, hseen, hb⟩ := hrel
    have HSEEN := Lib.hid hseen
    have HB := Lib.hid hb
    clear hseen hb
    by_cases hlk : k < l.length
    · obtain ⟨b, off, rfl, hbl, hcell⟩ := HV.out.get (by omega)
      have r0 : wr.cell? ⟨b, off + k * 4, none⟩ = some (.int .i64 l[k].1) := by rw [HB.out.cell (p := ⟨b, off + k * 4, none⟩) hbl, hcell (k * 4) (by omega), stpCs_0 l k hlk]
      have r1 : wr.cell? ⟨b, off + k * 4 + 1, none⟩ = some (.int .i64 l[k].2.1) := by rw [HB.out.cell (p := ⟨b, off + k * 4 + 1, none⟩) hbl, Nat.add_assoc, hcell (k * 4 + 1) (by omega), stpCs_1 l k hlk]
      have r2 : wr.cell? ⟨b, off + k * 4 + 2, none⟩ = some (.int .i64 l[k].2.2.1) := by rw [HB.out.cell (p := ⟨b, off + k * 4 + 2, none⟩) hbl, Nat.add_assoc, hcell (k * 4 + 2) (by omega), stpCs_2 l k hlk]
      have r3 : wr.cell? ⟨b, off + k * 4 + 3, none⟩ = some (.string l[k].2.2.2) := by rw [HB.out.cell (p := ⟨b, off + k * 4 + 3, none⟩) hbl, Nat.add_assoc, hcell (k * 4 + 3) (by omega), stpCs_3 l k hlk]
      have e0 : (k : Int) < (l.length : Int) := by omega
      have e1 : (0 : Int) ≤ (k : Int) := by omega
      have hsz := HB.out.size
      clear hcell
      go_wp2_with fail
      refine (wrong_fn l[k].1 l[k].2.1 l[k].2.2.1 n l[k].2.2.2 B _ ((HB.out.cell (p := ⟨B, 0, none⟩) hlt).trans HBB.out) (by omega)).mono ?_
      rintro e w2 ⟨rfl, hb2⟩
      have HB2 := Lib.hid (HB.out.trans (hb2.mono hsz))
      clear hb2
      obtain ⟨q, hq⟩ : ∃ q, wrongS n (l[k].1, l[k].2.1, l[k].2.2.1, l[k].2.2.2) = q := ⟨_, rfl⟩
      have hq' : wrongS n l[k] = q := hq
      rw [hq]
      have HQ := Lib.hid hq'
      clear hq hq'
      cases q with
      | true =>
        go_wp2_with fail
        go_ret
        exact ⟨k, rfl, ⟨fun _ => ⟨_, List.getElem_mem hlk, HQ.out⟩, fun _ => by omega⟩, by omega, by omega, HB2.out⟩
      | false =>
        go_wp2_with fail
        go_roundw
        case rel =>
          refine ⟨k + 1, by omega, by go_num, fun j h hj => ?_, HB2.out⟩
          by_cases hjk : j = k
          · subst hjk; exact HQ.out
          · exact HSEEN.out j h (by omega)
        case measure => simp [intOf]; omega
    · obtain rfl : k = l.length := by omega
      have d1 : decide ((l.length : Int) < (l.length : Int)) = false := decide_eq_false (by omega)
      go_wp2_with fail
      go_ret
      refine ⟨-1, rfl, ⟨fun h => by omega, fun ⟨a, ha, hbad⟩ => ?_⟩, by omega, by omega, HB.out⟩
      obtain ⟨j, hj, rfl⟩ := List.mem_iff_getElem.1 ha
      rw [HSEEN.out j hj hj] at hbad
      cases hbad
set_option maxHeartbeats 1000000 in
set_option maxRecDepth 100000 in
theorem containsS_any (vl : Value) (l : List stpT) (n : Int) (B : Nat) (w : World) (hl : Rd w vl l.length 4 (stpCs l)) (hn : l.length ≤ 1048576) (hB : w.cell? ⟨B, 0, none⟩ = some (.int .i64 n)) (hlt : B < w.heap.size) :
    Calls Tryd.prog 84 #[vl, .func (.func 83) #[] #[.pointer (some ⟨B, 0, none⟩)]] w fun e w' => ∃ b : Bool, e = .returned (.bool b) ∧ (b = true ↔ ∃ s ∈ l, wrongS n s = true) ∧ Below w.heap.size w w' := by
  obtain ⟨al, cl, rfl, -⟩ := id hl.2
  have HV := Lib.hid hl
  have HBB := Lib.hid hB
  clear hl hB
  go_enter Tryd.func84, Tryd.ntmps84
  go_wp2_with fail
  refine (indexS_any _ l n B w HV.out hn HBB.out hlt).mono ?_
  rintro e w1 ⟨r, rfl, hiff, h0, h1, hb⟩
  have HI := Lib.hid hiff
  have HB := Lib.hid hb
  clear hiff hb
  by_cases hr : 0 ≤ r
  · have d0 : decide ((0 : Int) ≤ r) = true := decide_eq_true hr
    go_wp2_with fail
    go_ret
    exact ⟨true, rfl, ⟨fun _ => HI.out.1 hr, fun _ => rfl⟩, HB.out⟩
  · have d0 : decide ((0 : Int) ≤ r) = false := decide_eq_false hr
    go_wp2_with fail
    go_ret
    exact ⟨false, rfl, ⟨fun h => absurd h (by simp), fun h => absurd (HI.out.2 h) (by omega)⟩, HB.out⟩


theorem assert1 (v : Value) (w : World) : (Instr.typeAssert (.iface 122 v) 97 130 true).run Tryd.prog w = .ok (.tuple #[.agg #[.int .i64 0], .bool false]) w := by kernel_rfl
theorem assert2 (v : Value) (w : World) : (Instr.typeAssert (.iface 124 v) 97 130 true).run Tryd.prog w = .ok (.tuple #[.agg #[.int .i64 0], .bool false]) w := by kernel_rfl
theorem assert3 (v : Value) (w : World) : (Instr.typeAssert (.iface 126 v) 97 130 true).run Tryd.prog w = .ok (.tuple #[.agg #[.int .i64 0], .bool false]) w := by kernel_rfl
theorem assert4 (v : Value) (w : World) : (Instr.typeAssert (.iface 128 v) 97 130 true).run Tryd.prog w = .ok (.tuple #[.agg #[.int .i64 0], .bool false]) w := by kernel_rfl
theorem assert5 (v : Value) (w : World) : (Instr.typeAssert (.iface 130 v) 97 130 true).run Tryd.prog w = .ok (.tuple #[v, .bool true]) w := by kernel_rfl
/-- The operation of a writing step: it is no label. -/
theorem op_write (k t f : Int) (d : ByteArray) (h1 : 1 ≤ k) (h4 : k ≤ 4) : ∃ T v, (∀ w, Calls Tryd.prog 70 #[.agg #[.int .i64 k, .int .i64 t, .int .i64 f, .string d]] w fun e w' => e = .returned (.iface T v) ∧ Below w.heap.size w w') ∧
    ∀ w, (Instr.typeAssert (.iface T v) 97 130 true).run Tryd.prog w = .ok (.tuple #[.agg #[.int .i64 0], .bool false]) w := by
  have h : k = 1 ∨ k = 2 ∨ k = 3 ∨ k = 4 := by omega
  rcases h with rfl | rfl | rfl | rfl
  · exact ⟨_, _, op1 t f d, assert1 _⟩
  · exact ⟨_, _, op2 t f d, assert2 _⟩
  · exact ⟨_, _, op3 t f d, assert3 _⟩
  · exact ⟨_, _, op4 t f d, assert4 _⟩

/-- The code so far. -/
def LowC (l : List stpT) (k : Nat) (c : Int) : Prop := (c = 0 ∧ ¬ Low l k) ∨ (c = 8 ∧ Low l k)
def CfRel (l : List stpT) (w : World) (c x i : Value) (wr : World) : Prop :=
  ∃ (k : Nat) (q : Int), k ≤ l.length ∧ i = .int .i64 k ∧ c = .int .i64 q ∧ LowC l k q ∧ x = .int .i64 (lastT l k) ∧ Apart l k ∧ CellsAt wr w.heap.size 139 8 (fun b => .bool (wroteB l k b)) ∧ Below w.heap.size w wr
def Cf (l : List stpT) (R : Int) : Prop := (R = 12 ∧ Twice l) ∨ (R = 8 ∧ ¬ Twice l ∧ Low l l.length) ∨ (R = 0 ∧ ¬ Twice l ∧ ¬ Low l l.length)
theorem made8 {w : World} (l : List stpT) : CellsAt (w.alloc (.cells #[.bool false, .bool false, .bool false, .bool false, .bool false, .bool false, .bool false, .bool false] 139)) w.heap.size 139 8 (fun b => .bool (wroteB l 0 b)) :=
  cellsAt_new w w.heap.size 8 _ _ rfl (by simp only [wroteB_zero]; rfl)
set_option maxHeartbeats 2000000 in
set_option maxRecDepth 100000 in
theorem conflict_any (vl : Value) (l : List stpT) (n : Int) (w : World) (hl : Rd w vl l.length 4 (stpCs l)) (hn : l.length ≤ 20) (hv : ∀ s ∈ l, wrongS n s = false) :
    Calls Tryd.prog 85 #[vl] w fun e w' => ∃ R : Int, e = .returned (.int .i64 R) ∧ Cf l R ∧ Below w.heap.size w w' := by
  obtain ⟨al, cl, rfl, -⟩ := id hl.2
  have HV := Lib.hid hl
  have HW := Lib.hid hv
  clear hl hv
  go_enter Tryd.func85, Tryd.ntmps85
  go_wp2_with fail
  go_loopw [3, 4, 12] (fun c x i wr => CfRel l w c x i wr) (fun _ _ i _ => l.length - (intOf i).toNat)
  case atStart => exact ⟨0, 0, by omega, rfl, rfl, .inl ⟨rfl, fun ⟨j, hj, _⟩ => absurd hj (by omega)⟩, rfl, fun i j hi _ => absurd hi (by omega), made8 l, below_alloc1 w _⟩
  case round =>
    obtain ⟨k, q, hk, rfl, rfl, hlow, rfl, hap, hcs, hb⟩ := hrel
    have HL := Lib.hid hlow
    have AP := Lib.hid hap
    have CS := Lib.hid hcs
    have HB := Lib.hid hb
    have hsz := hb.size
    have hgl := hcs.lt
    clear hlow hap hcs
    by_cases hlt : k < l.length
    · obtain ⟨b, off, rfl, hbl, hcell⟩ := HV.out.get (by omega)
      have r0 : wr.cell? ⟨b, off + k * 4, none⟩ = some (.int .i64 l[k].1) := by rw [hb.cell (p := ⟨b, off + k * 4, none⟩) hbl, hcell (k * 4) (by omega), stpCs_0 l k hlt]
      have r1 : wr.cell? ⟨b, off + k * 4 + 1, none⟩ = some (.int .i64 l[k].2.1) := by rw [hb.cell (p := ⟨b, off + k * 4 + 1, none⟩) hbl, Nat.add_assoc, hcell (k * 4 + 1) (by omega), stpCs_1 l k hlt]
      have r2 : wr.cell? ⟨b, off + k * 4 + 2, none⟩ = some (.int .i64 l[k].2.2.1) := by rw [hb.cell (p := ⟨b, off + k * 4 + 2, none⟩) hbl, Nat.add_assoc, hcell (k * 4 + 2) (by omega), stpCs_2 l k hlt]
      have r3 : wr.cell? ⟨b, off + k * 4 + 3, none⟩ = some (.string l[k].2.2.2) := by rw [hb.cell (p := ⟨b, off + k * 4 + 3, none⟩) hbl, Nat.add_assoc, hcell (k * 4 + 3) (by omega), stpCs_3 l k hlt]
      have e0 : (k : Int) < (l.length : Int) := by omega
      have e1 : (0 : Int) ≤ (k : Int) := by omega
      have hok := HW.out l[k] (List.getElem_mem hlt)
      unfold wrongS at hok
      simp only [Bool.not_eq_false'] at hok
      have hok2 := (stepB_iff ..).1 hok
      have XB := Lib.hid (bx_new wr 33 #[.int .i64 l[k].1, .int .i64 l[k].2.1, .int .i64 l[k].2.2.1, .string l[k].2.2.2])
      have B1 := Lib.hid (below_alloc1 wr (.cells #[.int .i64 l[k].1, .int .i64 l[k].2.1, .int .i64 l[k].2.2.1, .string l[k].2.2.2] 33))
      clear hcell hb hok
      by_cases h5 : l[k].1 = 5
      · have LY := Lib.hid (lastT_yes hlt h5)
        have LA := Lib.hid (show LowAt l k ↔ l[k].2.2.1 ≤ lastT l k from ⟨fun ⟨_, _, r⟩ => r, fun r => ⟨hlt, h5, r⟩⟩)
        have WS := Lib.hid (fun b => wroteB_label hlt h5 b)
        have NP := Lib.hid (show ∀ j, j < k → ¬ Pair l k j from fun j _ h => h.2.2.1 h5)
        rw [h5] at r0 XB B1
        clear h5 hok2
        obtain ⟨x, hx⟩ : ∃ x, x = l[k] := ⟨_, rfl⟩
        rw [← hx] at r1 r2 r3 XB B1 LY LA
        clear hx
        have a5 := assert5
        go_wp2_with fail
        refine (op5 _ _ _ _).mono ?_
        rintro e w2 ⟨rfl, hb2⟩
        have B2 := Lib.hid (below_nx B1.out hb2)
        have hs2 := hb2.size
        clear hb2 r0 r1 r2 r3 XB B1
        by_cases hle : x.2.2.1 ≤ lastT l k
        · have dl : decide (x.2.2.1 ≤ lastT l k) = true := decide_eq_true hle
          have NL := Lib.hid (show LowC l (k + 1) 8 from .inr ⟨rfl, low_yes (LA.out.2 hle)⟩)
          clear hle LA
          generalize lastT l k = z2 at *
          go_wp2_with fail
          go_roundw
          case rel => exact ⟨k + 1, 8, by omega, by go_num, rfl, NL.out, by rw [LY.out], AP.out.next NP.out, by simp only [WS.out]; exact CS.out.below (B2.out.trans ((below_alloc1 w2 _).mono B2.out.size)) hgl, below_nx HB.out (B2.out.trans ((below_alloc1 w2 _).mono B2.out.size))⟩
          case measure => simp [intOf]; omega
        · have dl : decide (x.2.2.1 ≤ lastT l k) = false := decide_eq_false hle
          have NL := Lib.hid (show LowC l (k + 1) q from by
            rcases HL.out with ⟨rfl, h⟩ | ⟨rfl, h⟩
            · exact .inl ⟨rfl, fun h' => h ((low_no (fun h'' => hle (LA.out.1 h''))).1 h')⟩
            · exact .inr ⟨rfl, h.more⟩)
          clear hle LA
          generalize lastT l k = z2 at *
          go_wp2_with fail
          go_roundw
          case rel => exact ⟨k + 1, q, by omega, by go_num, rfl, NL.out, by rw [LY.out], AP.out.next NP.out, by simp only [WS.out]; exact CS.out.below (B2.out.trans ((below_alloc1 w2 _).mono B2.out.size)) hgl, below_nx HB.out (B2.out.trans ((below_alloc1 w2 _).mono B2.out.size))⟩
          case measure => simp [intOf]; omega
      · have LY := Lib.hid (lastT_no hlt h5)
        have NL := Lib.hid (show LowC l (k + 1) q from by
          rcases HL.out with ⟨rfl, h⟩ | ⟨rfl, h⟩
          · exact .inl ⟨rfl, fun h' => h ((low_no (fun h'' => h5 h''.2.1)).1 h')⟩
          · exact .inr ⟨rfl, h.more⟩)
        have hk14 : (1 ≤ l[k].1 ∧ l[k].1 ≤ 4) ∧ 0 ≤ l[k].2.1 ∧ l[k].2.1 < 8 := by
          obtain ⟨hn8, h | h | h | h | h⟩ := hok2
          · have := (inB_iff _ _).1 h.2.1; omega
          · have := (inB_iff _ _).1 h.2.1; omega
          · have := (inB_iff _ _).1 h.2.1; omega
          · have := (inB_iff _ _).1 h.2.1; omega
          · exact absurd h.1 h5
        obtain ⟨⟨q1, q4⟩, t0, t7⟩ := hk14
        obtain ⟨T, v, hop, has⟩ := op_write l[k].1 l[k].2.1 l[k].2.2.1 l[k].2.2.2 q1 q4
        obtain ⟨bb, hbb⟩ : ∃ bb : Nat, l[k].2.1 = (bb : Int) := ⟨l[k].2.1.toNat, by omega⟩
        have H5 := Lib.hid h5
        have HBB := Lib.hid hbb
        have HOP := Lib.hid hop
        have hbb8 : bb < 8 := by omega
        have f0 : (0 : Int) ≤ (bb : Int) := by omega
        have f1 : (bb : Int) < 8 := by omega
        rw [hbb] at r1 XB B1 HOP
        clear h5 hok2 hbb hop q1 q4 t0 t7
        go_wp2_with fail
        refine (HOP.out _).mono ?_
        rintro e w2 ⟨rfl, hb2⟩
        have B2 := Lib.hid (below_nx B1.out hb2)
        have hs2 := B2.out.size
        have hx1 := (XB.out.next hb2).q1
        have C2 := Lib.hid (CS.out.below B2.out hgl)
        have hc := C2.out.cell bb hbb8
        have hfz := C2.out.frozen bb
        clear hb2 r0 r1 r2 r3 XB B1
        cases hw : wroteB l k bb with
        | true =>
          have TW := Lib.hid (wrote_pair hlt H5.out HBB.out hw)
          rw [hw] at hc
          clear hw
          go_wp2_with fail
          go_ret
          exact ⟨12, rfl, .inl ⟨rfl, TW.out⟩, below_nx HB.out B2.out⟩
        | false =>
          have NP := Lib.hid (wrote_apart hlt HBB.out hw)
          rw [hw] at hc
          clear hw
          generalize lastT l k = z2 at *
          go_wp2_with fail
          go_roundw
          case rel =>
            refine ⟨k + 1, q, by omega, by go_num, rfl, NL.out, by rw [LY.out], AP.out.next NP.out, ?_, ?_⟩
            · refine C2.out.set bb _ (by rw [wroteB_same hlt H5.out HBB.out]) (fun i hi => by rw [wroteB_other hlt HBB.out hi])
            · exact (below_nx HB.out B2.out).setCell (p := ⟨w.heap.size, bb, none⟩) (Nat.le_refl _) _
          case measure => simp [intOf]; omega
    · obtain rfl : k = l.length := by omega
      have NT := Lib.hid (apart_all AP.out)
      clear hb
      go_wp2_with fail
      go_ret
      rcases HL.out with ⟨rfl, h⟩ | ⟨rfl, h⟩
      · exact ⟨0, rfl, .inr (.inr ⟨rfl, NT.out, h⟩), HB.out⟩
      · exact ⟨8, rfl, .inr (.inl ⟨rfl, NT.out, h⟩), HB.out⟩

set_option maxRecDepth 100000 in
set_option maxHeartbeats 2000000 in
theorem implCode (v : Value) (l : List stpT) (n : Int) (w : World) (h : Rd w v l.length 4 (stpCs l)) (hn : l.length ≤ 1048576) :
    Calls Tryd.prog 65 #[v, .int .i64 n] w fun e w' => e = .returned (.int .i64 (codeS l n)) ∧ Below w.heap.size w w' := by
  obtain ⟨R, hR⟩ : ∃ R, R = codeS l n := ⟨_, rfl⟩
  rw [← hR]
  have HR := Lib.hid hR
  clear hR
  obtain ⟨a, c, rfl, -⟩ := id h.2
  have HV := Lib.hid h
  have HB := Lib.hid (below_alloc1 w (.cells #[.int .i64 n] 2))
  have HX := Lib.hid (bx_new w 2 #[.int .i64 n])
  clear h
  by_cases hnn : 1 ≤ n ∧ n ≤ 8
  rotate_left
  · have hr : R = 1 := by rw [HR.out]; exact codeS_form (.inl hnn)
    subst hr
    have HN := Lib.hid hnn
    clear HR hnn
    go_enter Tryd.func65, Tryd.ntmps65
    go_wp2_with fail
    refine (isCount_no _ _ HN.out).mono ?_
    rintro e w1 ⟨rfl, rfl⟩
    go_wp2_with fail
    go_ret
    exact ⟨rfl, HB.out⟩
  obtain ⟨n0, n1⟩ := hnn
  by_cases hbig : 20 < l.length
  · have hr : R = 1 := by rw [HR.out]; exact codeS_form (.inr (.inl hbig))
    subst hr
    have d0 : decide ((20 : Int) < (l.length : Int)) = true := decide_eq_true (by omega)
    clear HR
    go_enter Tryd.func65, Tryd.ntmps65
    go_wp2_with fail
    refine (isCount_yes _ _ n0 n1).mono ?_
    rintro e w1 ⟨rfl, rfl⟩
    go_wp2_with fail
    go_ret
    exact ⟨rfl, HB.out⟩
  have d0 : decide ((20 : Int) < (l.length : Int)) = false := decide_eq_false (by omega)
  go_enter Tryd.func65, Tryd.ntmps65
  go_wp2_with fail
  refine (isCount_yes _ _ n0 n1).mono ?_
  rintro e w1 ⟨rfl, rfl⟩
  go_wp2_with fail
  refine (containsS_any _ l n w.heap.size _ (HV.out.below HB.out (Nat.le_refl _)) (by omega) (HX.out.cell 0) (by simp)).mono ?_
  rintro e w2 ⟨b, rfl, hiff, hb2⟩
  have HB2 := Lib.hid (below_nx HB.out hb2)
  have HI := Lib.hid hiff
  clear hb2 hiff
  cases b with
  | true =>
    have hr : R = 1 := by rw [HR.out]; exact codeS_form (.inr (.inr (HI.out.1 rfl)))
    subst hr
    clear HR
    go_wp2_with fail
    go_ret
    exact ⟨rfl, HB2.out⟩
  | false =>
    have NF := Lib.hid (show ¬ FormBad l n from by
      rintro (h | h | h)
      · exact h ⟨n0, n1⟩
      · omega
      · have := HI.out.2 h; cases this)
    have HW := Lib.hid (show ∀ s ∈ l, wrongS n s = false from fun s hs => by
      cases h : wrongS n s with
      | false => rfl
      | true => have := HI.out.2 ⟨s, hs, h⟩; cases this)
    go_wp2_with fail
    refine (conflict_any _ l n _ (HV.out.below HB2.out (Nat.le_refl _)) (by omega) HW.out).mono ?_
    rintro e w3 ⟨r, rfl, hcf, hb3⟩
    have HB3 := Lib.hid (below_nx HB2.out hb3)
    have hr : R = r := by
      rw [HR.out]
      rcases hcf with ⟨rfl, h⟩ | ⟨rfl, h, h'⟩ | ⟨rfl, h, h'⟩
      · exact codeS_twice NF.out h
      · exact codeS_low NF.out h h'
      · exact codeS_ok NF.out h h'
    subst hr
    clear hcf hb3 HR
    go_wp2_with fail
    go_ret
    exact ⟨rfl, HB3.out⟩
end Go.Proofs.YtcckpkcjekcajaaDoor

namespace Go.Proofs.YtcckpkcjekcajaaDoor
open Go.RowKit

/-- Whether steps may be applied to an image. -/
noncomputable def applyC (image : List ByteArray) (l : List stpT) : Int :=
  if 400 < image.length ∨ 400 < l.length then 2 else if imgB image = false then 1 else codeS l (image.length : Int)
theorem applyC_ok {image : List ByteArray} {l : List stpT} (h : applyC image l = 0) : imgB image = true ∧ codeS l (image.length : Int) = 0 ∧ ¬ (400 < image.length ∨ 400 < l.length) := by
  unfold applyC at h
  by_cases b : 400 < image.length ∨ 400 < l.length
  · rw [if_pos b] at h; cases h
  rw [if_neg b] at h
  by_cases c : imgB image = false
  · rw [if_pos c] at h; cases h
  rw [if_neg c] at h
  exact ⟨by simpa using c, h, b⟩
theorem applyR_yes {image : List ByteArray} {l : List stpT} (h : applyC image l = 0) : applyR image l = (applyL image l, 0) := by
  obtain ⟨h1, h2, h3⟩ := applyC_ok h
  exact applyR_ok h3 h1 h2
theorem applyR_no {image : List ByteArray} {l : List stpT} (h : applyC image l ≠ 0) : applyR image l = ([], applyC image l) := by
  unfold applyC at h ⊢
  by_cases b : 400 < image.length ∨ 400 < l.length
  · rw [if_pos b]; exact applyR_size b
  rw [if_neg b] at h ⊢
  by_cases c : imgB image = false
  · rw [if_pos c]; exact applyR_form b c
  rw [if_neg c] at h ⊢
  exact applyR_code b (by simpa using c) h
set_option maxRecDepth 100000 in
set_option maxHeartbeats 2000000 in
theorem implAC (v u : Value) (image : List ByteArray) (l : List stpT) (w : World) (h : Rd w v image.length 1 (strs image)) (hl : Rd w u l.length 4 (stpCs l)) (hn : image.length ≤ 1048576) (hm : l.length ≤ 1048576) :
    Calls Tryd.prog 31 #[v, u] w fun e w' => e = .returned (.int .i64 (applyC image l)) ∧ Below w.heap.size w w' := by
  obtain ⟨a, c, rfl, -⟩ := id h.2
  obtain ⟨a', c', rfl, -⟩ := id hl.2
  obtain ⟨R, hR⟩ : ∃ R, R = applyC image l := ⟨_, rfl⟩
  rw [← hR]
  have HR := Lib.hid hR
  clear hR
  have HA := Lib.hid h
  have HL := Lib.hid hl
  clear h hl
  by_cases b0 : 400 < image.length
  · have hr : R = 2 := by rw [HR.out]; unfold applyC; rw [if_pos (.inl b0)]
    subst hr
    clear HR
    have d0 : decide ((400 : Int) < (image.length : Int)) = true := decide_eq_true (by omega)
    go_enter Tryd.func31, Tryd.ntmps31
    go_wp2_with fail
    go_ret
    exact ⟨rfl, Below.refl _ _⟩
  have d0 : decide ((400 : Int) < (image.length : Int)) = false := decide_eq_false (by omega)
  by_cases b1 : 400 < l.length
  · have hr : R = 2 := by rw [HR.out]; unfold applyC; rw [if_pos (.inr b1)]
    subst hr
    clear HR
    have d1 : decide ((400 : Int) < (l.length : Int)) = true := decide_eq_true (by omega)
    go_enter Tryd.func31, Tryd.ntmps31
    go_wp2_with fail
    go_ret
    exact ⟨rfl, Below.refl _ _⟩
  have d1 : decide ((400 : Int) < (l.length : Int)) = false := decide_eq_false (by omega)
  have NB := Lib.hid (show ¬ (400 < image.length ∨ 400 < l.length) by omega)
  cases hi : imgB image with
  | false =>
    have hr : R = 1 := by rw [HR.out]; unfold applyC; rw [if_neg NB.out, if_pos hi]
    subst hr
    have HI := Lib.hid hi
    clear HR hi
    go_enter Tryd.func31, Tryd.ntmps31
    go_wp2_with fail
    refine (implImg _ image _ HA.out hn).mono ?_
    rintro e w1 ⟨rfl, rfl⟩
    rw [HI.out]
    go_wp2_with fail
    go_ret
    exact ⟨rfl, Below.refl _ _⟩
  | true =>
    have hr : codeS l (image.length : Int) = R := by rw [HR.out]; unfold applyC; rw [if_neg NB.out, if_neg (by simp [hi])]
    have HI := Lib.hid hi
    have HC := Lib.hid hr
    clear HR hi hr
    go_enter Tryd.func31, Tryd.ntmps31
    go_wp2_with fail
    refine (implImg _ image _ HA.out hn).mono ?_
    rintro e w1 ⟨rfl, rfl⟩
    rw [HI.out]
    go_wp2_with fail
    have hs := implCode _ l (image.length : Int) w HL.out hm
    rw [HC.out] at hs
    refine hs.mono ?_
    clear hs
    rintro e W1 ⟨rfl, hb⟩
    have HB := Lib.hid hb
    clear hb
    go_wp2_with fail
    go_ret
    exact ⟨rfl, HB.out⟩
end Go.Proofs.YtcckpkcjekcajaaDoor
