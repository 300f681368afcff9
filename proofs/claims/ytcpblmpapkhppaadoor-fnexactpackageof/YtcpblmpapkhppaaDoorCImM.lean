/- Images: blocks put together, what a step makes, what steps make of an image; free of any program. -/
import Derived.Test.YtcpblmpapkhppaaDoorM1
namespace Go.Proofs.YtcpblmpapkhppaaDoor
open Go.RowKit

/-- Byte i of a block. -/
def bat (a : ByteArray) (i : Nat) : UInt8 := a.data.getD i 0
def zero8 : ByteArray := ⟨(List.replicate 8 (0 : UInt8)).toArray⟩
def xor8 (a b : ByteArray) : ByteArray := ⟨((List.range 8).map fun i => bat a i ^^^ bat b i).toArray⟩
/-- Two blocks put together. -/
def xorS (a b : ByteArray) : ByteArray := if a.size = 8 ∧ b.size = 8 then xor8 a b else ⟨#[]⟩
theorem xor8_size (a b : ByteArray) : (xor8 a b).size = 8 := by simp [xor8, ByteArray.size]
theorem zero8_size : zero8.size = 8 := by simp [zero8, ByteArray.size]
theorem bat_xor8 (a b : ByteArray) (i : Nat) (h : i < 8) : bat (xor8 a b) i = bat a i ^^^ bat b i := by
  unfold xor8
  show (Array.getD _ i 0) = _
  rw [Array.getD_eq_getD_getElem?]
  simp [h]
theorem block_ext {a b : ByteArray} (ha : a.size = 8) (hb : b.size = 8) (h : ∀ i, i < 8 → bat a i = bat b i) : a = b := by
  apply ByteArray.ext
  have ha' : a.data.size = 8 := ha
  have hb' : b.data.size = 8 := hb
  apply Array.ext (by omega)
  intro i h1 h2
  have := h i (by omega)
  unfold bat at this
  rw [Array.getD_eq_getD_getElem?, Array.getD_eq_getD_getElem?, Array.getElem?_eq_getElem h1, Array.getElem?_eq_getElem h2] at this
  simpa using this
theorem xor8_back {a b : ByteArray} (hb : b.size = 8) : xor8 a (xor8 a b) = b := by
  refine block_ext (xor8_size _ _) hb fun i hi => ?_
  rw [bat_xor8 _ _ i hi, bat_xor8 _ _ i hi, ← UInt8.xor_assoc, UInt8.xor_self, UInt8.zero_xor]
theorem xorS_size (a b : ByteArray) : (xorS a b).size ≤ 8 := by
  unfold xorS; split
  · rw [xor8_size]; omega
  · exact Nat.zero_le _
/-- A valid image. -/
def ImgOk (l : List ByteArray) : Prop := (1 ≤ l.length ∧ l.length ≤ 8) ∧ ∀ s ∈ l, s.size = 8
/-- What a step makes, of what its source is. -/
def makeS (x : stpT) (src : ByteArray) : ByteArray := if x.1 = 1 then zero8 else if x.1 = 2 then x.2.2.2 else if x.1 = 3 then src else xorS src x.2.2.2
/-- One step applied: what it reads is the first image. -/
def put1 (image out : List ByteArray) (x : stpT) : List ByteArray := if x.1 = 5 then out else out.set x.2.1.toNat (makeS x (image.getD x.2.2.1.toNat ⟨#[]⟩))
def applyL (image : List ByteArray) (l : List stpT) : List ByteArray := l.foldl (put1 image) image
theorem put1_length (image out : List ByteArray) (x : stpT) : (put1 image out x).length = out.length := by unfold put1; split <;> simp
theorem fold_length (image : List ByteArray) : ∀ (l : List stpT) (out : List ByteArray), (l.foldl (put1 image) out).length = out.length
  | [], _ => rfl
  | x :: l, out => by rw [List.foldl_cons, fold_length image l, put1_length]
theorem applyL_length (image : List ByteArray) (l : List stpT) : (applyL image l).length = image.length := fold_length image l image
theorem applyL_snoc (image : List ByteArray) (l : List stpT) (x : stpT) : applyL image (l ++ [x]) = put1 image (applyL image l) x := by simp [applyL]
/-- In how many bytes two blocks differ. -/
def diffN (a b : ByteArray) : Nat := ((List.range 8).filter fun i => bat a i != bat b i).length
/-- The step that makes a block of an old image. -/
def stepForS (old : List ByteArray) (tgt : Nat) (fresh : ByteArray) : stpT :=
  if fresh = zero8 then (1, (tgt : Int), 0, ⟨#[]⟩)
  else match old.findIdx? (fun s => decide (s = fresh)) with
    | some i => (3, (tgt : Int), (i : Int), ⟨#[]⟩)
    | none => match old.findIdx? (fun s => decide (diffN s fresh ≤ 2)) with
      | some i => (4, (tgt : Int), (i : Int), xorS (old.getD i ⟨#[]⟩) fresh)
      | none => (2, (tgt : Int), 0, fresh)
def forT (old fresh : List ByteArray) : Nat → List stpT
  | 0 => []
  | k + 1 => if old.getD k ⟨#[]⟩ = fresh.getD k ⟨#[]⟩ then forT old fresh k else forT old fresh k ++ [stepForS old k (fresh.getD k ⟨#[]⟩)]
theorem stepFor_to (old : List ByteArray) (tgt : Nat) (fresh : ByteArray) : (stepForS old tgt fresh).2.1 = (tgt : Int) ∧ (stepForS old tgt fresh).1 ≠ 5 := by
  unfold stepForS
  split
  · exact ⟨rfl, by simp⟩
  · split
    · exact ⟨rfl, by simp⟩
    · split
      · exact ⟨rfl, by simp⟩
      · exact ⟨rfl, by simp⟩
theorem stepFor_makes {old : List ByteArray} (ho : ImgOk old) (tgt : Nat) {fresh : ByteArray} (hf : fresh.size = 8) :
    makeS (stepForS old tgt fresh) (old.getD (stepForS old tgt fresh).2.2.1.toNat ⟨#[]⟩) = fresh := by
  unfold stepForS
  by_cases h : fresh = zero8
  · rw [if_pos h]; simp [makeS, h]
  · rw [if_neg h]
    cases h1 : old.findIdx? (fun s => decide (s = fresh)) with
    | some i =>
      obtain ⟨hl, hp, -⟩ := List.findIdx?_eq_some_iff_getElem.1 h1
      have he : old[i] = fresh := by simpa using hp
      simp [makeS, List.getElem?_eq_getElem hl, he]
    | none =>
      cases h2 : old.findIdx? (fun s => decide (diffN s fresh ≤ 2)) with
      | some i =>
        obtain ⟨hl, -, -⟩ := List.findIdx?_eq_some_iff_getElem.1 h2
        have hs : old[i].size = 8 := ho.2 _ (List.getElem_mem hl)
        have hg : old.getD i ⟨#[]⟩ = old[i] := by rw [List.getD_eq_getElem?_getD, List.getElem?_eq_getElem hl]; rfl
        show makeS (4, (tgt : Int), (i : Int), xorS (old.getD i ⟨#[]⟩) fresh) (old.getD ((i : Int).toNat) ⟨#[]⟩) = fresh
        rw [Int.toNat_natCast, hg]
        show xorS old[i] (xorS old[i] fresh) = fresh
        have e : xorS old[i] fresh = xor8 old[i] fresh := by unfold xorS; rw [if_pos ⟨hs, hf⟩]
        rw [e]
        unfold xorS
        rw [if_pos ⟨hs, xor8_size _ _⟩, xor8_back hf]
      | none => simp [makeS]
/-- The first k blocks are the fresh ones, the others the old ones. -/
theorem apply_for {old fresh : List ByteArray} (ho : ImgOk old) (hf : ImgOk fresh) (hl : old.length = fresh.length) : ∀ k, k ≤ old.length → applyL old (forT old fresh k) = fresh.take k ++ old.drop k
  | 0, _ => by simp [forT, applyL]
  | k + 1, hk => by
    have ih := apply_for ho hf hl k (by omega)
    have hko : k < old.length := by omega
    have hkf : k < fresh.length := by omega
    have go : old.getD k ⟨#[]⟩ = old[k] := by rw [List.getD_eq_getElem?_getD, List.getElem?_eq_getElem hko]; rfl
    have gf : fresh.getD k ⟨#[]⟩ = fresh[k] := by rw [List.getD_eq_getElem?_getD, List.getElem?_eq_getElem hkf]; rfl
    have e1 : fresh.take (k + 1) = fresh.take k ++ [fresh[k]] := List.take_succ_eq_append_getElem hkf
    have e2 : old.drop k = old[k] :: old.drop (k + 1) := List.drop_eq_getElem_cons hko
    simp only [forT]
    rw [go, gf]
    split
    · rename_i h
      rw [ih, e1, e2, h, List.append_assoc]; rfl
    · rw [applyL_snoc, ih]
      unfold put1
      rw [if_neg (stepFor_to _ _ _).2, (stepFor_to _ _ _).1, stepFor_makes ho k (hf.2 _ (List.getElem_mem hkf))]
      rw [Int.toNat_natCast, List.set_append_right _ _ (by simp; omega)]
      have : k - (fresh.take k).length = 0 := by simp; omega
      rw [this, e1, e2, List.append_assoc]; rfl
theorem apply_all {old fresh : List ByteArray} (ho : ImgOk old) (hf : ImgOk fresh) (hl : old.length = fresh.length) : applyL old (forT old fresh old.length) = fresh := by
  rw [apply_for ho hf hl old.length (Nat.le_refl _), List.drop_length, List.append_nil, hl, List.take_length]
theorem for_same (old : List ByteArray) : ∀ k, forT old old k = []
  | 0 => rfl
  | k + 1 => by simp [forT, for_same old k]
/-- What block i is to be. -/
def want1 (image : List ByteArray) (i : Nat) (w : ByteArray) (x : stpT) : ByteArray := if x.1 ≠ 5 ∧ x.2.1 = (i : Int) then makeS x (image.getD x.2.2.1.toNat ⟨#[]⟩) else w
theorem put1_at (image out : List ByteArray) (x : stpT) (i : Nat) (hx : x.1 ≠ 5 → 0 ≤ x.2.1) (w : ByteArray) (h : out[i]? = some w) : (put1 image out x)[i]? = some (want1 image i w x) := by
  have hi : i < out.length := (List.getElem?_eq_some_iff.1 h).1
  unfold put1 want1
  by_cases h5 : x.1 = 5
  · rw [if_pos h5, if_neg (fun h' => h'.1 h5)]; exact h
  · rw [if_neg h5]
    have h0 := hx h5
    by_cases ht : x.2.1 = (i : Int)
    · rw [if_pos ⟨h5, ht⟩, ht, Int.toNat_natCast, List.getElem?_set_self hi]
    · rw [if_neg (fun h' => ht h'.2), List.getElem?_set_ne (by omega)]; exact h
theorem fold_at (image : List ByteArray) (i : Nat) : ∀ (l : List stpT) (out : List ByteArray) (w : ByteArray), (∀ x ∈ l, x.1 ≠ 5 → 0 ≤ x.2.1) → out[i]? = some w → (l.foldl (put1 image) out)[i]? = some (l.foldl (want1 image i) w)
  | [], _, _, _, h => h
  | x :: l, out, w, hl, h => by
    rw [List.foldl_cons, List.foldl_cons]
    exact fold_at image i l _ _ (fun y hy => hl y (List.mem_cons_of_mem _ hy)) (put1_at image out x i (hl x (List.mem_cons_self ..)) w h)
theorem stepFor_ok {old : List ByteArray} (ho : ImgOk old) {tgt : Nat} (ht : tgt < old.length) {fresh : ByteArray} (hf : fresh.size = 8) : wrongS (old.length : Int) (stepForS old tgt fresh) = false := by
  obtain ⟨⟨n0, n1⟩, hs⟩ := ho
  have hto : inB (tgt : Int) (old.length : Int) = true := (inB_iff _ _).2 ⟨by omega, by omega⟩
  have hn : (1 : Int) ≤ (old.length : Int) ∧ (old.length : Int) ≤ 8 := ⟨by omega, by omega⟩
  have he : (⟨#[]⟩ : ByteArray).size = 0 := rfl
  unfold wrongS
  have key : ∀ x : stpT, StepOk (old.length : Int) x.1 x.2.1 x.2.2.1 x.2.2.2 → (!stepB (old.length : Int) x.1 x.2.1 x.2.2.1 x.2.2.2) = false := fun x h => by rw [stepB_yes h]; rfl
  refine key _ ?_
  unfold stepForS
  by_cases h : fresh = zero8
  · rw [if_pos h]; exact ⟨hn, .inl ⟨rfl, hto, rfl, he⟩⟩
  · rw [if_neg h]
    cases h1 : old.findIdx? (fun s => decide (s = fresh)) with
    | some i =>
      obtain ⟨hl, -, -⟩ := List.findIdx?_eq_some_iff_getElem.1 h1
      exact ⟨hn, .inr (.inr (.inl ⟨rfl, hto, (inB_iff _ _).2 ⟨by simp only; omega, by simp only; omega⟩, he⟩))⟩
    | none =>
      cases h2 : old.findIdx? (fun s => decide (diffN s fresh ≤ 2)) with
      | some i =>
        obtain ⟨hl, -, -⟩ := List.findIdx?_eq_some_iff_getElem.1 h2
        have hg : old.getD i ⟨#[]⟩ = old[i] := by rw [List.getD_eq_getElem?_getD, List.getElem?_eq_getElem hl]; rfl
        refine ⟨hn, .inr (.inr (.inr (.inl ⟨rfl, hto, (inB_iff _ _).2 ⟨by simp only; omega, by simp only; omega⟩, ?_⟩)))⟩
        show (xorS (old.getD i ⟨#[]⟩) fresh).size = 8
        rw [hg]
        unfold xorS
        rw [if_pos ⟨hs _ (List.getElem_mem hl), hf⟩, xor8_size]
      | none => exact ⟨hn, .inr (.inl ⟨rfl, hto, rfl, hf⟩)⟩
theorem forT_mem {old fresh : List ByteArray} : ∀ {k : Nat} {x : stpT}, x ∈ forT old fresh k → ∃ tgt, tgt < k ∧ x = stepForS old tgt (fresh.getD tgt ⟨#[]⟩)
  | 0, _, h => by simp [forT] at h
  | k + 1, x, h => by
    simp only [forT] at h
    split at h
    · obtain ⟨tgt, h1, h2⟩ := forT_mem h; exact ⟨tgt, by omega, h2⟩
    · rcases List.mem_append.1 h with h' | h'
      · obtain ⟨tgt, h1, h2⟩ := forT_mem h'; exact ⟨tgt, by omega, h2⟩
      · exact ⟨k, by omega, List.mem_singleton.1 h'⟩
theorem forT_len (old fresh : List ByteArray) : ∀ k, (forT old fresh k).length ≤ k
  | 0 => Nat.le_refl _
  | k + 1 => by
    have := forT_len old fresh k
    simp only [forT]
    split
    · omega
    · simp; omega
theorem forT_apart (old fresh : List ByteArray) : ∀ k, Apart (forT old fresh k) (forT old fresh k).length
  | 0 => fun i j hi _ => absurd hi (by simp [forT])
  | k + 1 => by
    have ih := forT_apart old fresh k
    simp only [forT]
    split
    · exact ih
    · rintro i j hi hj ⟨h1, h2, h3, h4, h5⟩
      have hlen : (forT old fresh k ++ [stepForS old k (fresh.getD k ⟨#[]⟩)]).length = (forT old fresh k).length + 1 := by simp
      rw [hlen] at hi h1 h2
      have hj2 : j < (forT old fresh k).length := by omega
      by_cases hik : i < (forT old fresh k).length
      · rw [List.getElem_append_left hik] at h3 h5
        rw [List.getElem_append_left hj2] at h4 h5
        exact ih i j hik hj ⟨hik, hj2, h3, h4, h5⟩
      · have hi2 : i = (forT old fresh k).length := by omega
        subst hi2
        rw [List.getElem_append_right (Nat.le_refl _), List.getElem_append_left hj2] at h5
        simp only [Nat.sub_self, List.getElem_cons_zero] at h5
        obtain ⟨tgt, ht, hx⟩ := forT_mem (List.getElem_mem hj2)
        rw [hx, (stepFor_to _ _ _).1, (stepFor_to _ _ _).1] at h5
        omega
/-- The steps of a difference may stand together. -/
theorem forT_code {old fresh : List ByteArray} (ho : ImgOk old) (hf : ImgOk fresh) (hl : old.length = fresh.length) : codeS (forT old fresh old.length) (old.length : Int) = 0 := by
  have hn := ho.1
  refine codeS_ok ?_ (apart_all (forT_apart old fresh _)) ?_
  · rintro (h | h | ⟨s, hs, hw⟩)
    · exact h ⟨by omega, by omega⟩
    · have := forT_len old fresh old.length; omega
    · obtain ⟨tgt, ht, rfl⟩ := forT_mem hs
      have hg : fresh.getD tgt ⟨#[]⟩ = fresh[tgt] := by rw [List.getD_eq_getElem?_getD, List.getElem?_eq_getElem (by omega)]; rfl
      rw [stepFor_ok ho ht (by rw [hg]; exact hf.2 _ (List.getElem_mem (by omega)))] at hw
      cases hw
  · rintro ⟨k, hk, hkl, h5, -⟩
    obtain ⟨tgt, -, hx⟩ := forT_mem (List.getElem_mem hkl)
    rw [hx] at h5
    exact (stepFor_to _ _ _).2 h5
end Go.Proofs.YtcpblmpapkhppaaDoor
