/- Packages: their encoding; free of any program. -/
import Derived.Test.YtcckpkcjekcajaaDoorBCodeM
import Derived.Test.YtcckpkcjekcajaaDoorM1
import Derived.Test.YtcckpkcjekcajaaDoorSMeta
namespace Go.Proofs.YtcckpkcjekcajaaDoor
open Go.RowKit

theorem stepB_up {n k t f : Int} {d : ByteArray} (h : stepB n k t f d = true) : stepB 8 k t f d = true := by
  obtain ⟨⟨n0, n1⟩, h⟩ := (stepB_iff ..).1 h
  refine stepB_yes ⟨⟨by omega, by omega⟩, ?_⟩
  have up : ∀ x : Int, inB x n = true → inB x 8 = true := fun x hx => by
    have := (inB_iff _ _).1 hx
    exact (inB_iff _ _).2 ⟨by omega, by omega⟩
  rcases h with ⟨a, b, c, e⟩ | ⟨a, b, c, e⟩ | ⟨a, b, c, e⟩ | ⟨a, b, c, e⟩ | h
  · exact .inl ⟨a, up _ b, c, e⟩
  · exact .inr (.inl ⟨a, up _ b, c, e⟩)
  · exact .inr (.inr (.inl ⟨a, up _ b, up _ c, e⟩))
  · exact .inr (.inr (.inr (.inl ⟨a, up _ b, up _ c, e⟩)))
  · exact .inr (.inr (.inr (.inr h)))
theorem stepS_size2 (k t f : Int) (d : ByteArray) : (stepS k t f d).size = (putS k).size + (putS t).size + (putS f).size + ((putS d.size).size + d.size) := by
  unfold stepS; simp only [ByteArray.size_append]
/-- A text with its length in front of it. -/
def txS (d : ByteArray) : ByteArray := putS d.size ++ d
abbrev pkT := Int × ByteArray × List stpT
def stpTx (s : stpT) : ByteArray := txS (stepS s.1 s.2.1 s.2.2.1 s.2.2.2)
def pkParts (n : Int) (b : Int) (d : ByteArray) (l : List stpT) : List ByteArray := putS b :: txS d :: putS n :: l.map stpTx
/-- The encoding without its seal. -/
def pkE (p : pkT) : ByteArray := cat (pkParts p.2.2.length p.1 p.2.1 p.2.2)
def pkOk (p : pkT) : Prop := codeS p.2.2 p.1 = 0 ∧ p.2.1.size = 32
open Classical in
noncomputable def pkB (p : pkT) : Bool := decide (pkOk p)
theorem pkB_iff (p : pkT) : pkB p = true ↔ pkOk p := by unfold pkB; simp
theorem pkB_no (p : pkT) : pkB p = false ↔ ¬ pkOk p := by unfold pkB; simp
noncomputable def pkBytes (p : pkT) : ByteArray := if pkB p = true then sealS (pkE p) else ⟨#[]⟩
def noPk : pkT := (0, ⟨#[]⟩, [])
theorem code_ok0 {l : List stpT} {n : Int} (h : codeS l n = 0) : (1 ≤ n ∧ n ≤ 8) ∧ l.length ≤ 20 ∧ ∀ s ∈ l, stepB n s.1 s.2.1 s.2.2.1 s.2.2.2 = true := by
  by_cases hf : FormBad l n
  · rw [codeS_form hf] at h; cases h
  refine ⟨Classical.byContradiction fun h1 => hf (.inl h1), Classical.byContradiction fun h1 => hf (.inr (.inl (by omega))), fun s hs => ?_⟩
  cases hb : stepB n s.1 s.2.1 s.2.2.1 s.2.2.2 with
  | true => rfl
  | false => exact absurd (.inr (.inr ⟨s, hs, by unfold wrongS; rw [hb]; rfl⟩)) hf
theorem pkOk.steps {p : pkT} (h : pkOk p) : ∀ s ∈ p.2.2, stepB 8 s.1 s.2.1 s.2.2.1 s.2.2.2 = true := fun s hs => stepB_up ((code_ok0 h.1).2.2 s hs)
theorem pkOk.len {p : pkT} (h : pkOk p) : p.2.2.length ≤ 20 := (code_ok0 h.1).2.1
theorem pkOk.num {p : pkT} (h : pkOk p) : 1 ≤ p.1 ∧ p.1 ≤ 8 := (code_ok0 h.1).1
theorem stpTx_size {s : stpT} (h : stepB 8 s.1 s.2.1 s.2.2.1 s.2.2.2 = true) : (stpTx s).size ≤ 60 := by
  obtain ⟨k0, k1, t0, t1, f0, f1, d1⟩ := ok_bounds h
  have z1 := putS_size s.1 (by omega) (by omega)
  have z2 := putS_size s.2.1 (by omega) (by omega)
  have z3 := putS_size s.2.2.1 (by omega) (by omega)
  have z4 := putS_size s.2.2.2.size (by omega) (by omega)
  have hz := stepS_size2 s.1 s.2.1 s.2.2.1 s.2.2.2
  unfold stpTx txS
  have z5 := putS_size (stepS s.1 s.2.1 s.2.2.1 s.2.2.2).size (by omega) (by omega)
  rw [ByteArray.size_append]; omega
theorem cat_stp_size : ∀ {l : List stpT}, (∀ s ∈ l, stepB 8 s.1 s.2.1 s.2.2.1 s.2.2.2 = true) → (cat (l.map stpTx)).size ≤ 60 * l.length
  | [], _ => Nat.le_refl _
  | s :: l, h => by
    have h1 := stpTx_size (h s (List.mem_cons_self ..))
    have h2 := cat_stp_size (l := l) fun x hx => h x (List.mem_cons_of_mem _ hx)
    rw [List.map_cons, cat_cons, ByteArray.size_append, List.length_cons]; omega
theorem pkE_size {p : pkT} (h : pkOk p) : (pkE p).size ≤ 1300 := by
  have h1 := cat_stp_size h.steps
  have h2 := h.len
  have h3 := h.num
  have h4 := h.2
  have z1 := putS_size p.1 (by omega) (by omega)
  have z2 := putS_size p.2.1.size (by omega) (by omega)
  have z3 := putS_size p.2.2.length (by omega) (by omega)
  unfold pkE pkParts txS
  rw [cat_cons, cat_cons, cat_cons, ByteArray.size_append, ByteArray.size_append, ByteArray.size_append, ByteArray.size_append]; omega

end Go.Proofs.YtcckpkcjekcajaaDoor
