/- The model's digest, whole. -/
import Derived.Test.YtcckpkcjekcajaaDoorDSBlock
import Derived.Test.YtcckpkcjekcajaaDoorM3
namespace Go.Proofs.YtcckpkcjekcajaaDoor
open Go.RowKit

/-- The first m bytes behind the padding. -/
def padL (l : List UInt8) (m : Nat) : List UInt8 := (List.range m).map (padB l)
theorem padL_length (l : List UInt8) (m : Nat) : (padL l m).length = m := by simp [padL]
theorem padL_succ (l : List UInt8) (m : Nat) : padL l (m + 1) = padL l m ++ [padB l m] := by simp [padL, List.range_succ]
theorem padL_first (l : List UInt8) : padL l (l.length + 1) = l ++ [128] := by
  rw [padL_succ]
  congr 1
  · apply List.ext_getElem?
    intro i
    by_cases h : i < l.length
    · simp [padL, h, padB]
    · rw [List.getElem?_eq_none (by simpa [padL] using h), List.getElem?_eq_none (by omega)]
  · simp [padB]
theorem padB_zero (l : List UInt8) (m : Nat) (h0 : l.length < m) (h1 : m < padN l.length - 8) : padB l m = 0 := by
  unfold padB; rw [if_neg (by omega), if_neg (by omega), if_pos h1]
theorem padN_ends (n m : Nat) (h0 : n < m) (h1 : m ≤ padN n - 8) : m % 64 = 56 ↔ m = padN n - 8 := by
  unfold padN at *; omega
theorem padB_len (l : List UInt8) (t : Nat) (h : t < 8) : padB l (padN l.length - 8 + t) = (8 * l.length / 2 ^ (56 - 8 * t)).toUInt8 := by
  have := padN_gt l.length
  unfold padB; rw [if_neg (by omega), if_neg (by omega), if_neg (by omega), show 8 * (padN l.length - 1 - (padN l.length - 8 + t)) = 56 - 8 * t by omega]

def All3 (w : World) (l : List UInt8) (N g cap : Nat) (v i : Value) (wr : World) : Prop :=
  ∃ k : Nat, 64 * k ≤ N ∧ i = .int .i64 (64 * (k : Int)) ∧ wr.ownsRow w.heap.size 2 1 v 8 (list8 (blocks key (padB l) start k)) ∧ RowM wr w.heap.size (.slice (some ⟨g, 0, none⟩) N cap) N ((padL l N).map B) g cap ∧ Below w.heap.size w wr
def All4 (wA : World) (S : Eight) (v i : Value) (wr : World) : Prop :=
  ∃ k : Nat, k ≤ 8 ∧ i = .int .i64 k ∧ wr.ownsRow wA.heap.size 5 1 v (4 * k) ((bytesUpto S (4 * k)).map B) ∧ Below wA.heap.size wA wr
/-- Block k of the bytes behind the padding, as a string. -/
def chunkL (l : List UInt8) (k : Nat) : List UInt8 := (List.range 64).map fun j => padB l (64 * k + j)
def chunk (l : List UInt8) (k : Nat) : ByteArray := ⟨(chunkL l k).toArray⟩
theorem chunk_size (l : List UInt8) (k : Nat) : (chunk l k).size = 64 := by
  show (chunkL l k).toArray.size = 64
  simp [chunkL]
theorem chunk_at (l : List UInt8) (k j : Nat) (h : j < 64) : (chunk l k).data.toList.getD j 0 = padB l (64 * k + j) := by
  show (chunkL l k).toArray.toList.getD j 0 = _
  simp [chunkL, h]
theorem chunk_conv {wr : World} {base N g cap k : Nat} {v : Value} {l : List UInt8} (h : RowM wr base v N ((padL l N).map B) g cap) (hk : 64 * k + 64 ≤ N) (c : Nat) :
    (convert 22 9 (.slice (some ⟨g, 64 * k, none⟩) 64 c)).run Tryd.prog wr = .ok (.string (chunk l k)) wr := by
  have hl : (chunkL l k).length = 64 := by simp [chunkL]
  have := run_convert_bytes_back (P := Tryd.prog) wr 22 9 5 ⟨g, 64 * k, none⟩ c (chunkL l k) Tryd.underlying22 Tryd.underlying5 Tryd.underlying9 (fun j hj => by
    rw [hl] at hj
    have e1 : ((⟨g, 64 * k, none⟩ : Addr).add j) = ⟨g, 64 * k + j, none⟩ := by simp [Addr.add]
    have e2 : ((padL l N).map B)[64 * k + j]? = some (B (padB l (64 * k + j))) := by
      have : 64 * k + j < N := by omega
      simp [padL, this]
    have e3 : (chunkL l k)[j]? = some (padB l (64 * k + j)) := by simp [chunkL, hj]
    rw [e1, h.cell _ (by omega), e2]
    obtain ⟨_, e4⟩ := List.getElem?_eq_some_iff.1 e3
    rw [e4]; rfl)
  rw [hl] at this
  exact this
theorem len_byte' (n K : Nat) : 8 * (n : Int) / 2 ^ K % 256 = (((8 * n / 2 ^ K).toUInt8).toNat : Int) := by
  have e : (8 * (n : Int) / 2 ^ K) = ((8 * n / 2 ^ K : Nat) : Int) := by
    rw [Int.natCast_ediv, Int.natCast_mul, Int.natCast_pow]; rfl
  rw [e]
  generalize 8 * n / 2 ^ K = x
  show ((x : Int)) % 256 = ((UInt8.ofNat x).toNat : Int)
  rw [UInt8.toNat_ofNat']; omega
theorem four_cellsD (wr : World) (a0 a1 a2 a3 b0 b1 b2 b3 : Value) (h0 : a0 = b0) (h1 : a1 = b1) (h2 : a2 = b2) (h3 : a3 = b3) : ∀ j u, [b0, b1, b2, b3][j]? = some u → (wr.alloc (.cells #[a0, a1, a2, a3] 5)).cell? ((⟨wr.heap.size, 0, none⟩ : Addr).add j) = some u := by
  subst h0 h1 h2 h3
  intro j u hj
  have e : ((⟨wr.heap.size, 0, none⟩ : Addr).add j) = ⟨wr.heap.size, j, none⟩ := by unfold Addr.add; split <;> simp_all
  rw [e, World.cell?_alloc_new]
  simpa using hj
theorem w_b0 (S : Eight) (j : Nat) : ((S.get j).toNat : Int) / 16777216 % 256 = ((byteAt S (4 * j)).toNat : Int) := by
  have := w_byte S (4 * j)
  rw [show 4 * j / 4 = j by omega, show 24 - 8 * (4 * j % 4) = 24 by omega] at this
  exact this
theorem w_b1 (S : Eight) (j : Nat) : ((S.get j).toNat : Int) / 65536 % 256 = ((byteAt S (4 * j + 1)).toNat : Int) := by
  have := w_byte S (4 * j + 1)
  rw [show (4 * j + 1) / 4 = j by omega, show 24 - 8 * ((4 * j + 1) % 4) = 16 by omega] at this
  exact this
theorem w_b2 (S : Eight) (j : Nat) : ((S.get j).toNat : Int) / 256 % 256 = ((byteAt S (4 * j + 2)).toNat : Int) := by
  have := w_byte S (4 * j + 2)
  rw [show (4 * j + 2) / 4 = j by omega, show 24 - 8 * ((4 * j + 2) % 4) = 8 by omega] at this
  exact this
theorem w_b3 (S : Eight) (j : Nat) : ((S.get j).toNat : Int) % 256 = ((byteAt S (4 * j + 3)).toNat : Int) := by
  have := w_byte S (4 * j + 3)
  rw [show (4 * j + 3) / 4 = j by omega, show 24 - 8 * ((4 * j + 3) % 4) = 0 by omega] at this
  simpa using this
theorem bytesUpto_four (S : Eight) (j : Nat) : (bytesUpto S (4 * (j + 1))).map B = (bytesUpto S (4 * j)).map B ++ [B (byteAt S (4 * j)), B (byteAt S (4 * j + 1)), B (byteAt S (4 * j + 2)), B (byteAt S (4 * j + 3))] := by
  rw [show 4 * (j + 1) = 4 * j + 1 + 1 + 1 + 1 by omega, bytesUpto_succ, bytesUpto_succ, bytesUpto_succ, bytesUpto_succ]; simp
def sliceLen : Value → Nat
  | .slice _ n _ => n
  | _ => 0
def Pad1 (w : World) (l : List UInt8) (v : Value) (wr : World) : Prop :=
  ∃ m : Nat, l.length < m ∧ m ≤ padN l.length - 8 ∧ RowA wr w.heap.size v m ((padL l m).map B) ∧ Below w.heap.size w wr
def Pad2 (w : World) (l : List UInt8) (v i : Value) (wr : World) : Prop :=
  ∃ t : Nat, t ≤ 8 ∧ i = .int .i64 (56 - 8 * (t : Int)) ∧ RowA wr w.heap.size v (padN l.length - 8 + t) ((padL l (padN l.length - 8 + t)).map B) ∧ Below w.heap.size w wr

set_option maxHeartbeats 2000000 in
set_option maxRecDepth 100000 in
theorem specAll (s : ByteArray) (w : World) (h : s.size ≤ 8000) :
    Calls Tryd.prog 78 #[.string s] w fun e w' => e = .returned (.string ⟨(sha key start s.data.toList).toArray⟩) ∧ Below w.heap.size w w' := by
  obtain ⟨str, hstr⟩ : ∃ str : ByteArray, str = ⟨(sha key start s.data.toList).toArray⟩ := ⟨_, rfl⟩
  rw [← hstr]
  have HSTR := Lib.hid hstr
  clear hstr
  go_enter Tryd.func78, Tryd.ntmps78
  have hconv := Lib.run_convert_string_bytes (P := Tryd.prog) w 9 22 5 s Tryd.underlying9 Tryd.underlying22 Tryd.underlying5
  obtain ⟨i0, hi, hz0, hz1, hz2⟩ := info_parts Tryd.info5
  have hl : s.data.toList.length = s.size := (Lib.size_eq s).symm
  have hrow := rowA_conv w 5 s
  have hbc := conv_below w 5 s
  have hzc := Lib.bytesWorld_size w 5 s
  generalize Lib.bytesWorld w 5 s = wc at *
  have hzc' : w.heap.size + 1 ≤ wc.heap.size := by omega
  have HROW := Lib.hid hrow
  have HBC := Lib.hid hbc
  have HL := Lib.hid hl
  clear hrow hbc hl hzc
  go_wp2_with (at_builtin; refine wpList_append_M _ rfl _ _ 22 rfl 5 i0 (.int .u8 0) 1 Tryd.underlying22 hi hz0 hz1 hz2 rfl w.heap.size s.size _ _ rfl ⟨_, _, HROW.out.alloc _⟩ ⟨wc.heap.size, 0, none⟩ 1 (B 128) rfl ?c1 rfl ?c3 ?c4 w.heap.size w (HBC.out.alloc (by omega) _) (Nat.le_refl _) ?c5 ?_)
  case c1 => rw [World.cell?_alloc_new]; rfl
  case c3 => unfold maxLen; omega
  case c4 => omega
  case c5 => simp; omega
  intro v1 w1 hrow1 hb1
  have hrow1' : RowA w1 w.heap.size v1 (s.size + 1) ((padL s.data.toList (s.size + 1)).map B) := by
    have e : (padL s.data.toList (s.size + 1)).map B = s.data.toList.map B ++ [B 128] := by
      have := padL_first s.data.toList
      rw [HL.out] at this
      rw [this, List.map_append]; rfl
    rw [e]; exact hrow1
  have HROW1 := Lib.hid hrow1'
  have HB1 := Lib.hid hb1
  have hN := padN_gt s.size
  have hN2 := padN_le s.size
  clear hrow1 hrow1' hb1 HROW HBC hzc' hconv
  go_wp2_with fail
  go_loopw [3] (fun v wr => Pad1 w s.data.toList v wr) (fun v _ => padN s.size - sliceLen v)
  case atStart => exact ⟨s.size + 1, by rw [HL.out]; omega, by rw [HL.out]; omega, HROW1.out, HB1.out⟩
  case round =>
    clear HROW1 HB1
    obtain ⟨m, h0, h1, ⟨g, cap, hrow⟩, hbel⟩ := hrel
    rw [HL.out] at h0 h1
    obtain rfl := hrow.val
    have hsz := hbel.size
    by_cases hlast : m = padN s.size - 8
    · have hmod : ((m : Int) % 64 != 56) = false := by
        have := padN_ends s.size m h0 h1
        simp; omega
      have HROW := Lib.hid (⟨g, cap, hrow⟩ : RowA wr w.heap.size _ m ((padL s.data.toList m).map B))
      have HBEL := Lib.hid hbel
      clear hrow hbel
      have HLA := Lib.hid hlast
      clear hlast
      go_wp2_with fail
      go_loopw [3, 5] (fun v i wr => Pad2 w s.data.toList v i wr) (fun _ i _ => ((intOf i) + 8).toNat)
      case atStart =>
        refine ⟨0, by omega, rfl, ?_, HBEL.out⟩
        rw [HL.out, Nat.add_zero, ← HLA.out]; exact HROW.out
      case round =>
        clear HROW HBEL
        obtain ⟨t, ht, rfl, ⟨g3, cap3, hrow⟩, hbel⟩ := hrel
        rw [HL.out] at hrow
        obtain rfl := hrow.val
        have hsz3 := hbel.size
        by_cases hlt : t < 8
        · have ek : (56 - 8 * (t : Int)) = ((56 - 8 * t : Nat) : Int) := by omega
          have HROW := Lib.hid hrow
          have HBEL := Lib.hid hbel
          have hkk : 56 - 8 * t ≤ 56 := by omega
          rw [ek]
          have HEK := Lib.hid ek
          clear hrow hbel ek
          generalize hK : 56 - 8 * t = K at *
          have HK := Lib.hid hK
          clear hK
          go_wp2_with (at_builtin; refine wpList_append_M _ rfl _ _ 22 rfl 5 i0 (.int .u8 0) 1 Tryd.underlying22 hi hz0 hz1 hz2 rfl w.heap.size _ _ _ rfl ⟨_, _, HROW.out.alloc _⟩ ⟨wr.heap.size, 0, none⟩ 1 (B (8 * s.size / 2 ^ K).toUInt8) rfl ?f1 rfl ?f3 ?f4 w.heap.size w (HBEL.out.alloc (by omega) _) (Nat.le_refl _) ?f5 ?_)
          case f1 => rw [World.cell?_alloc_new]; exact congrArg some (val_int (len_byte' s.size K))
          case f3 => unfold maxLen; omega
          case f4 => omega
          case f5 => simp; omega
          intro v2 w2 hrow2 hb2
          have HROW2 := Lib.hid hrow2
          have HB2 := Lib.hid hb2
          obtain ⟨g2, cap2, hr2⟩ := hrow2
          obtain rfl := hr2.val
          clear hr2 hb2
          go_wp2_with fail
          go_roundw
          case rel =>
            have := HEK.out
            refine ⟨t + 1, by omega, by go_num, ?_, HB2.out⟩
            rw [HL.out]
            have e1 : padL s.data.toList (padN s.size - 8 + (t + 1)) = padL s.data.toList (padN s.size - 8 + t) ++ [(8 * s.size / 2 ^ K).toUInt8] := by
              have := padB_len s.data.toList t hlt
              rw [HL.out, HK.out] at this
              rw [← Nat.add_assoc, padL_succ, this]
            rw [e1, List.map_append]
            exact HROW2.out
          case measure => simp [intOf]; omega
        · obtain rfl : t = 8 := by omega
          have hN8 : padN s.size - 8 + 8 = padN s.size := by omega
          rw [hN8] at hrow
          rw [hN8]
          have hM : padN s.size = 64 * (padN s.size / 64) := by unfold padN; omega
          have HFIN := Lib.hid (show bytesUpto (blocks key (padB s.data.toList) start (padN s.size / 64)) 32 = sha key start s.data.toList by unfold sha; rw [HL.out])
          clear hN8 hlt ht hmod HLA h1 h0
          generalize padN s.size = N at *
          have HM := Lib.hid hM
          have HROW := Lib.hid hrow
          have HBEL := Lib.hid hbel
          clear hrow hbel hM
          go_wp2_with fail
          refine (specStart _).mono ?_
          rintro e w2 ⟨v2, rfl, hown2, hb2⟩
          have HOWN := Lib.hid (hown2.base_le (b' := w.heap.size) hsz3)
          have HROW2 := Lib.hid (HROW.out.below hb2 HROW.out.lt)
          have HB2 := Lib.hid (HBEL.out.trans (hb2.mono hsz3))
          clear hown2 hb2 HROW HBEL
          go_wp2_with fail
          go_loopw [6, 7] (fun v i wr => All3 w s.data.toList N g3 cap3 v i wr) (fun _ i _ => N - (intOf i).toNat)
          case atStart => exact ⟨0, by omega, rfl, HOWN.out, HROW2.out, HB2.out⟩
          case round =>
            clear HROW2 HOWN HB2
            obtain ⟨k, hk, rfl, hown, hrow, hbel⟩ := hrel
            obtain ⟨gs, cs, rfl⟩ := owned_shape hown (by decide)
            by_cases hlt : 64 * k < N
            · have hM : 64 * k + 64 ≤ N := by have := HM.out; omega
              have hNc := hrow.fits
              have conv : ∀ c, (convert 22 9 (.slice (some ⟨g3, 64 * k, none⟩) 64 c)).run Tryd.prog wr = .ok (.string (chunk s.data.toList k)) wr := fun c => chunk_conv hrow hM c
              have HOWN := Lib.hid hown
              have HROW := Lib.hid hrow
              have HBEL := Lib.hid hbel
              have hd : decide (64 * (k : Int) < (N : Int)) = true := decide_eq_true (by omega)
              have hsz5 : w.heap.size ≤ wr.heap.size := hbel.size
              clear hown hrow hbel
              go_wp2_with fail
              refine (specBlock _ (chunk s.data.toList k) wr gs cs w.heap.size HOWN.out (chunk_size _ _)).mono ?_
              rintro e w3 ⟨v3, rfl, hown3, hb3⟩
              rw [block_congr (chunk_at s.data.toList k), ← blocks_succ] at hown3
              have HOWN3 := Lib.hid (hown3.base_le (b' := w.heap.size) hsz5)
              have HROW3 := Lib.hid (HROW.out.below hb3 HROW.out.lt)
              have HB3 := Lib.hid (HBEL.out.trans (hb3.mono hsz5))
              clear hown3 hb3 HOWN HROW HBEL conv
              go_wp2_with fail
              go_roundw
              case rel => exact ⟨k + 1, by omega, by go_num, HOWN3.out, HROW3.out, HB3.out⟩
              case measure => simp [intOf]; omega
            · have hkM : k = N / 64 := by have := HM.out; omega
              rw [hkM] at hown
              have hd : decide (64 * (k : Int) < (N : Int)) = false := decide_eq_false (by omega)
              obtain ⟨S, hS⟩ : ∃ S, blocks key (padB s.data.toList) start (N / 64) = S := ⟨_, rfl⟩
              rw [hS] at hown
              have HX := Lib.hid (show str = ⟨(bytesUpto S 32).toArray⟩ by rw [HSTR.out, ← HFIN.out, hS])
              have hgs : gs < wr.heap.size := hown.blt
              have hsz5 : w.heap.size ≤ wr.heap.size := hbel.size
              have HOWN := Lib.hid hown
              have HBEL := Lib.hid hbel
              clear hkM hown hrow hbel hS HFIN HSTR
              obtain ⟨wq, hwq⟩ : ∃ wq, wq = wr := ⟨_, rfl⟩
              subst hwq
              go_wp2_with fail
              go_loopw [8, 9] (fun v i wr' => All4 wq S v i wr') (fun _ i _ => 8 - (intOf i).toNat)
              case atStart => exact ⟨0, by omega, rfl, World.ownsRow_lit wq #[] 0 (Nat.le_refl _) (by decide) rfl, (Below.refl _ _).alloc (Nat.le_refl _) _⟩
              case round =>
                obtain ⟨j, hj, rfl, hown, hbel⟩ := hrel
                by_cases hlt2 : j < 8
                · have hc : wr.cell? ⟨gs, j, none⟩ = some (.int .i64 (S.get j).toNat) := by
                    rw [hbel.cell (p := ⟨gs, j, none⟩) hgs, HOWN.out.cellAt j (by omega), list8_at S j hlt2]
                  have hsz6 : wq.heap.size ≤ wr.heap.size := hbel.size
                  have HB4 := Lib.hid hbel
                  clear hbel
                  go_wp2_with (at_builtin; refine wpList_append_own _ rfl _ _ 22 rfl wq.heap.size 5 i0 (.int .u8 0) 1 1 Tryd.underlying22 hi hz0 hz1 hz2 rfl (by decide) _ _ _ rfl (hown.alloc _) ⟨wr.heap.size, 0, none⟩ 4 4 [B (byteAt S (4 * j)), B (byteAt S (4 * j + 1)), B (byteAt S (4 * j + 2)), B (byteAt S (4 * j + 3))] rfl rfl ?e1 ?e2 ?e3 ?e4 ?e5 ?_)
                  case e1 => exact four_cellsD _ _ _ _ _ _ _ _ _ (val_int (w_b0 S j)) (val_int (w_b1 S j)) (val_int (w_b2 S j)) (val_int (w_b3 S j))
                  case e2 => intro u hu; simp at hu; rcases hu with rfl | rfl | rfl | rfl <;> rfl
                  case e3 => unfold maxLen; omega
                  case e4 => omega
                  case e5 => simp; omega
                  intro v4 w4 hown4 hgrow4 _
                  have HB5 := Lib.hid ((HB4.out.alloc hsz6 _).grown hgrow4 (by simp; omega) (fun j hj => (hown.lt j hj).1))
                  have HO5 := Lib.hid hown4
                  clear hown4 hgrow4 hown
                  go_wp2_with fail
                  go_roundw
                  case rel =>
                    have fin : All4 wq S v4 (.int .i64 ((j : Int) + 1)) w4 := ⟨j + 1, by omega, by go_num, by rw [bytesUpto_four]; exact HO5.out, HB5.out⟩
                    first | exact fin | ((repeat apply Exists.intro); exact ⟨fin, rfl⟩)
                  case measure => simp [intOf]; omega
                · obtain rfl : j = 8 := by omega
                  obtain ⟨go, co, rfl⟩ := owned_shape hown (by omega)
                  have conv := conv_row (c := co) hown (bytesUpto S 32) 32 (bytesUpto_length _ _).symm (Nat.le_refl _) (List.take_of_length_le (by simp [bytesUpto_length]))
                  rw [← HX.out] at conv
                  have HB4 := Lib.hid hbel
                  clear hown hbel hlt2 hj
                  go_wp2
                  go_ret
                  exact ⟨rfl, HBEL.out.trans (HB4.out.mono hsz5)⟩
    · have hmod : ((m : Int) % 64 != 56) = true := by
        have := padN_ends s.size m h0 h1
        simp; omega
      have HROW := Lib.hid hrow
      have HBEL := Lib.hid hbel
      clear hrow hbel
      go_wp2_with (at_builtin; refine wpList_append_M _ rfl _ _ 22 rfl 5 i0 (.int .u8 0) 1 Tryd.underlying22 hi hz0 hz1 hz2 rfl w.heap.size m _ _ rfl ⟨_, _, HROW.out.alloc _⟩ ⟨wr.heap.size, 0, none⟩ 1 (B 0) rfl ?d1 rfl ?d3 ?d4 w.heap.size w (HBEL.out.alloc (by omega) _) (Nat.le_refl _) ?d5 ?_)
      case d1 => rw [World.cell?_alloc_new]; rfl
      case d3 => unfold maxLen; omega
      case d4 => omega
      case d5 => simp; omega
      intro v2 w2 hrow2 hb2
      have HROW2 := Lib.hid hrow2
      have HB2 := Lib.hid hb2
      obtain ⟨g2, cap2, hr2⟩ := hrow2
      obtain rfl := hr2.val
      clear hr2 hb2
      go_wp2_with fail
      go_roundw
      case rel =>
        refine ⟨m + 1, by rw [HL.out]; omega, by rw [HL.out]; omega, ?_, HB2.out⟩
        rw [padL_succ, List.map_append, padB_zero _ _ (by rw [HL.out]; omega) (by rw [HL.out]; omega)]
        exact HROW2.out
      case measure => simp [sliceLen]; omega
end Go.Proofs.YtcckpkcjekcajaaDoor
