/- What FnFlash says, of plain lists. -/
import Derived.Test.YtkeimgglikdbfaaSWrite
import Derived.Test.YtkeimgglikdbfaaSFSync
import Derived.Test.YtkeimgglikdbfaaSCrash
import Derived.Test.YtkeimgglikdbfaaICrash
namespace Go.Proofs.Ytkeimgglikdbfaa
open Go.RowKit

theorem mem_putD' {d : D} {a : Int} {x : ByteArray} : ∀ l : List D, d ∈ putD l a x → d ∈ l ∨ d = (a, x)
  | [], h => by simp [putD] at h; exact .inr h
  | e :: l, h => by
    unfold putD at h
    split at h
    · rename_i he
      rcases List.mem_cons.1 h with h | h
      · exact .inr (by rw [h, he])
      · exact .inl (List.mem_cons_of_mem _ h)
    · rcases List.mem_cons.1 h with h | h
      · exact .inl (by rw [h]; simp)
      · rcases mem_putD' l h with h | h
        · exact .inl (List.mem_cons_of_mem _ h)
        · exact .inr h
theorem keys_putD (a : Int) (x : ByteArray) : ∀ l : List D, (putD l a x).map (·.1) = if a ∈ l.map (·.1) then l.map (·.1) else l.map (·.1) ++ [a]
  | [] => by simp [putD]
  | d :: l => by
    unfold putD
    by_cases h : d.1 = a
    · rw [if_pos h, if_pos (by simp [h])]; simp
    · rw [if_neg h, List.map_cons, keys_putD a x l]
      by_cases hm : a ∈ l.map (·.1)
      · rw [if_pos hm, if_pos (by simp; right; simpa using hm)]; simp
      · rw [if_neg hm, if_neg (by simp; exact ⟨fun e => h e.symm, by simpa using hm⟩)]; simp
theorem find_putD (a : Int) (x : ByteArray) (i : Int) : ∀ l : List D, (putD l a x).find? (fun d => d.1 == i) = if i = a then some (a, x) else l.find? (fun d => d.1 == i)
  | [] => by
    by_cases h : i = a
    · subst h; simp [putD]
    · have : (a == i) = false := by simpa using fun e => h e.symm
      simp [putD, h, this]
  | d :: l => by
    unfold putD
    by_cases hd : d.1 = a
    · rw [if_pos hd]
      by_cases h : i = a
      · subst h; simp [hd]
      · have : (a == i) = false := by simpa using fun e => h e.symm
        simp [h, hd, this]
    · rw [if_neg hd]
      by_cases h : i = a
      · subst h
        have : (d.1 == i) = false := by simpa using hd
        rw [List.find?_cons, this]
        simp only [find_putD i x i l, if_true]
      · by_cases e : d.1 = i
        · simp [h, e]
        · have : (d.1 == i) = false := by simpa using e
          rw [List.find?_cons, this, List.find?_cons, this]
          simp only [find_putD a x i l, if_neg h]
/-- What is written is read, and no other sector is turned. -/
theorem get_put (F : FM) (a : Int) (x : ByteArray) (i : Int) : getOf (putOf F a x) i = if i = a then x else getOf F i := by
  unfold getOf putOf
  simp only [find_putD]
  by_cases h : i = a
  · simp [h]
  · simp [h]
theorem once_of_nodup {l : List D} (h : (l.map (·.1)).Nodup) : ∀ i j (hj : j < l.length) (hi : i < j), l[i].1 ≠ l[j].1 := by
  intro i j hj hi e
  have := (List.nodup_iff_pairwise_ne.1 h)
  have := List.pairwise_iff_getElem.1 this i j (by simp; omega) (by simpa using hj) hi
  simp at this
  exact this e
theorem nodup_of_once {l : List D} (h : ∀ i j (hj : j < l.length) (hi : i < j), l[i].1 ≠ l[j].1) : (l.map (·.1)).Nodup := by
  refine List.nodup_iff_pairwise_ne.2 (List.pairwise_iff_getElem.2 fun i j hi hj hij => ?_)
  simp at hi hj
  simpa using h i j hj hij
theorem right_mem {F : FM} (h : Right F) {d : D} (hd : d ∈ F.dir) : 0 ≤ d.1 ∧ d.1 ≤ (F.sec.length : Int) - 1 ∧ d.2.size ≤ 96 := by
  obtain ⟨k, hk, rfl⟩ := List.getElem_of_mem hd
  exact ⟨h.at0 k hk, h.at1 k hk, h.data k hk⟩
/-- Unsynced writes to sectors that are there, at most one each, are no more than the sectors. -/
theorem keys_few {n : Nat} : ∀ {l : List Int}, l.Nodup → (∀ x ∈ l, 0 ≤ x ∧ x ≤ (n : Int) - 1) → l.length ≤ n := by
  intro l hn hb
  have h1 : (l.map Int.toNat).Nodup := by
    refine List.nodup_iff_pairwise_ne.2 (List.pairwise_map.2 ?_)
    refine (List.nodup_iff_pairwise_ne.1 hn).imp_of_mem ?_
    intro a b ha hb' hne e
    have := hb a ha
    have := hb b hb'
    exact hne (by omega)
  have h2 : l.map Int.toNat ⊆ List.range n := by
    intro k hk
    obtain ⟨x, hx, rfl⟩ := List.mem_map.1 hk
    have := hb x hx
    exact List.mem_range.2 (by omega)
  have := List.Nodup.length_le_of_subset h1 h2
  simpa using this
theorem right_write {F : FM} {a : Int} {x : ByteArray} (h : (writeOf F a x).code = 0) : Right (writeOf F a x).fl ∧ Right F ∧ (0 ≤ a ∧ a < F.sec.length) ∧ (writeOf F a x).fl = putOf F a x ∧ (writeOf F a x).data = ByteArray.empty := by
  unfold writeOf at *
  split at h
  · exact absurd h (by decide)
  · rename_i h8
    rw [if_neg h8]
    split at h
    · rename_i h1
      rw [if_pos h1]
      split at h
      · rename_i h2
        rw [if_pos h2]
        obtain ⟨hr, hx⟩ := h1
        refine ⟨?_, hr, h2, rfl, rfl⟩
        have hm : ∀ d ∈ putD F.dir a x, 0 ≤ d.1 ∧ d.1 ≤ (F.sec.length : Int) - 1 ∧ d.2.size ≤ 96 := fun d hd => by
          rcases mem_putD' F.dir hd with h | h
          · exact right_mem hr h
          · rw [h]; exact ⟨h2.1, by have := h2.2; omega, hx⟩
        have hno : ((putD F.dir a x).map (·.1)).Nodup := by
          rw [keys_putD]
          have hn := nodup_of_once hr.once
          split
          · exact hn
          · rename_i hne
            exact List.nodup_append.2 ⟨hn, by simp, fun y hy z hz e => by simp at hz; subst hz; subst e; exact hne hy⟩
        refine ⟨hr.least, hr.most, ?_, hr.fits, fun j hj => (hm _ (List.getElem_mem hj)).1, fun j hj => (hm _ (List.getElem_mem hj)).2.1, fun j hj => (hm _ (List.getElem_mem hj)).2.2, once_of_nodup hno⟩
        have := keys_few hno (n := F.sec.length) (fun y hy => by
          obtain ⟨d, hd, rfl⟩ := List.mem_map.1 hy
          exact ⟨(hm d hd).1, (hm d hd).2.1⟩)
        rw [List.length_map] at this
        exact this
      · exact absurd h (by decide)
    · exact absurd h (by decide)

theorem syncL_get (dir : List D) : ∀ (sec : List ByteArray) (i : Nat), (∀ d ∈ dir, 0 ≤ d.1) → (dir.map (·.1)).Nodup → i < sec.length → (syncL sec dir).getD i ByteArray.empty = (match dir.find? (fun d => d.1 == (i : Int)) with | some d => d.2 | none => sec.getD i ByteArray.empty) := by
  induction dir with
  | nil => intro sec i _ _ _; rfl
  | cons d dir ih =>
    intro sec i h0 hn hi
    have hn' : (dir.map (·.1)).Nodup := (List.nodup_cons.1 hn).2
    have hnd : d.1 ∉ dir.map (·.1) := (List.nodup_cons.1 hn).1
    show (syncL (sec.set d.1.toNat d.2) dir).getD i ByteArray.empty = _
    rw [ih _ i (fun e he => h0 e (List.mem_cons_of_mem _ he)) hn' (by simpa using hi), List.find?_cons]
    have hd0 := h0 d (by simp)
    by_cases e : d.1 = (i : Int)
    · have e1 : (d.1 == (i : Int)) = true := by simpa using e
      have e2 : dir.find? (fun d => d.1 == (i : Int)) = none := by
        rw [List.find?_eq_none]
        intro x hx
        simp
        intro ex
        exact hnd (List.mem_map.2 ⟨x, hx, by rw [ex, e]⟩)
      rw [e1, e2]
      have : d.1.toNat = i := by omega
      simp [this, hi]
    · have e1 : (d.1 == (i : Int)) = false := by simpa using e
      rw [e1]
      have : d.1.toNat ≠ i := by omega
      simp [List.getElem?_set_ne this]
theorem sync_get {F : FM} (hr : Right F) {i : Int} (h0 : 0 ≤ i) (h1 : i < F.sec.length) : (syncL F.sec F.dir).getD i.toNat ByteArray.empty = getOf F i := by
  rw [syncL_get F.dir F.sec i.toNat (fun d hd => (right_mem hr hd).1) (nodup_of_once hr.once) (by omega)]
  unfold getOf
  rw [show ((i.toNat : Nat) : Int) = i by omega]
  rfl
theorem syncL_mem' (dir : List D) : ∀ (sec : List ByteArray), ∀ s ∈ syncL sec dir, s ∈ sec ∨ ∃ d ∈ dir, s = d.2 := by
  induction dir with
  | nil => intro sec s h; exact .inl h
  | cons d dir ih =>
    intro sec s h
    rcases ih _ s h with h | ⟨e, he, hs⟩
    · rcases List.mem_or_eq_of_mem_set h with h | h
      · exact .inl h
      · exact .inr ⟨d, by simp, h⟩
    · exact .inr ⟨e, List.mem_cons_of_mem _ he, hs⟩
theorem right_sync {F : FM} (h : (fsyncOf F).code = 0) : Right (fsyncOf F).fl ∧ Right F ∧ (fsyncOf F).fl = syncOf F ∧ (fsyncOf F).data = ByteArray.empty := by
  unfold fsyncOf at *
  split at h
  · rename_i hr
    rw [if_pos hr]
    have hl : (syncOf F).sec.length = F.sec.length := syncL_length _ _
    refine ⟨⟨by rw [hl]; exact hr.least, by rw [hl]; exact hr.most, Nat.zero_le _, fun j hj => ?_, fun j hj => absurd hj (by simp [syncOf]), fun j hj => absurd hj (by simp [syncOf]), fun j hj => absurd hj (by simp [syncOf]), fun i j hj => absurd hj (by simp [syncOf])⟩, hr, rfl, rfl⟩
    rcases syncL_mem' F.dir F.sec _ (List.getElem_mem hj) with h | ⟨d, hd, e⟩
    · obtain ⟨k, hk, e⟩ := List.getElem_of_mem h
      rw [← e]; exact hr.fits k hk
    · show ((syncOf F).sec[j]).size ≤ 96
      rw [show (syncOf F).sec[j] = d.2 from e]; exact (right_mem hr hd).2.2
  · exact absurd h (by decide)
/-- A torn sector is what was there, or a beginning of what was written. -/
theorem torn_cases (old fresh : ByteArray) (f : Int) (h0 : old.size ≤ 8000) (h1 : fresh.size ≤ 8000) : torn old fresh f = old ∨ ∃ n, n ≤ fresh.size ∧ torn old fresh f = fresh.extract 0 n := by
  unfold torn
  rw [if_neg (by omega)]
  split
  · exact .inl rfl
  · split
    · exact .inr ⟨fresh.size, Nat.le_refl _, by simp⟩
    · split
      · exact .inr ⟨fresh.size, Nat.le_refl _, by simp⟩
      · rename_i h
        exact .inr ⟨(f - 2).toNat, by omega, rfl⟩

theorem set_getD {l : List ByteArray} {j i : Nat} {v : ByteArray} (e : j = i) (h : i < l.length) : (l.set j v).getD i ByteArray.empty = v := by
  subst e; rw [List.getD_eq_getElem?_getD, List.getElem?_set_self h]; rfl
/-- What a crash leaves of a sector. -/
def LeftOf (F : FM) (i : Nat) (s : ByteArray) : Prop := s = F.sec.getD i ByteArray.empty ∨ ∃ n, n ≤ (getOf F (i : Int)).size ∧ s = (getOf F (i : Int)).extract 0 n
theorem crashL_left {F : FM} (hr : Right F) (fs : List Int) (i : Nat) (hi : i < F.sec.length) : ∀ k, k ≤ F.dir.length → LeftOf F i ((crashL F fs k).getD i ByteArray.empty)
  | 0, _ => .inl rfl
  | k + 1, hk => by
    have hk' : k < F.dir.length := by omega
    have h0 := hr.at0 k hk'
    have h1 := hr.at1 k hk'
    rw [crashL_step F fs k hk' (by omega)]
    by_cases e : F.dir[k].1.toNat = i
    · have hlen : i < (crashL F fs k).length := by rw [crashL_length]; exact hi
      have hg : getOf F (i : Int) = F.dir[k].2 := get_hit hk' (fun j hj hjk e' => hr.once j k hk' hjk (by rw [e']; omega)) (by omega)
      have hset : ((crashL F fs k).set F.dir[k].1.toNat (torn F.sec[F.dir[k].1.toNat] F.dir[k].2 (fs.getD k 0))).getD i ByteArray.empty = torn F.sec[F.dir[k].1.toNat] F.dir[k].2 (fs.getD k 0) := set_getD e hlen
      rw [hset]
      have f0 := hr.fits F.dir[k].1.toNat (by omega)
      have f1 := hr.data k hk'
      unfold LeftOf
      rw [hg]
      rcases torn_cases F.sec[F.dir[k].1.toNat] F.dir[k].2 (fs.getD k 0) (by omega) (by omega) with h | ⟨n, h, h'⟩
      · left; rw [h]; simp only [e]; simp [hi]
      · exact .inr ⟨n, h, h'⟩
    · have : ((crashL F fs k).set F.dir[k].1.toNat (torn F.sec[F.dir[k].1.toNat] F.dir[k].2 (fs.getD k 0))).getD i ByteArray.empty = (crashL F fs k).getD i ByteArray.empty := by
        rw [List.getD_eq_getElem?_getD, List.getElem?_set_ne e, ← List.getD_eq_getElem?_getD]
      rw [this]
      exact crashL_left hr fs i hi k (by omega)
theorem crash_right {F : FM} (hr : Right F) {fs : List Int} (hf : fs.length ≤ 400) : crashOf F fs = crashed F fs := by
  unfold crashOf; rw [if_neg (by omega), if_pos hr]
theorem crash_sync {F : FM} (hr : Right (syncOf F)) {fs : List Int} (hf : fs.length ≤ 400) : crashOf (syncOf F) fs = syncOf F := by
  rw [crash_right hr hf]; rfl
theorem get_sync {F : FM} (hr : Right F) {i : Int} (h0 : 0 ≤ i) (h1 : i < F.sec.length) : getOf (syncOf F) i = getOf F i := by
  rw [← sync_get hr h0 h1]; rfl
theorem read_data {F : FM} (hr : Right F) {i : Int} (h0 : 0 ≤ i) (h1 : i < F.sec.length) : readOf F i = ⟨F, getOf F i, 0⟩ := by
  unfold readOf; rw [if_pos hr, if_pos ⟨h0, h1⟩]
theorem right_read {F : FM} {i : Int} (h : (readOf F i).code = 0) : Right (readOf F i).fl := by
  unfold readOf at *
  split at h
  · rename_i hr
    rw [if_pos hr]
    split at h
    · rename_i h1; rw [if_pos h1]; exact hr
    · exact absurd h (by decide)
  · exact absurd h (by decide)
end Go.Proofs.Ytkeimgglikdbfaa
