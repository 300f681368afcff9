/- StepBytes: the specification's and the program's. -/
import Derived.Test.YtgiiclkjffdjgaaM1
import Derived.Test.YtgiiclkjffdjgaaBIRight
import Derived.Test.YtgiiclkjffdjgaaText
namespace Go.Proofs.Ytgiiclkjffdjgaa
open Go.RowKit

def stepS (k t f : Int) (d : ByteArray) : ByteArray := putS k ++ putS t ++ putS f ++ (putS d.size ++ d)
def stepBs (k t f : Int) (d : ByteArray) : ByteArray := if stepB 8 k t f d then stepS k t f d else ⟨#[]⟩
theorem ok_bounds {k t f : Int} {d : ByteArray} (h : stepB 8 k t f d = true) : 1 ≤ k ∧ k ≤ 5 ∧ 0 ≤ t ∧ t ≤ 7 ∧ 0 ≤ f ∧ f ≤ 1000000 ∧ d.size ≤ 8 := by
  obtain ⟨-, h⟩ := (stepB_iff ..).1 h
  rcases h with ⟨rfl, h1, rfl, h2⟩ | ⟨rfl, h1, rfl, h2⟩ | ⟨rfl, h1, h3, h2⟩ | ⟨rfl, h1, h3, h2⟩ | ⟨rfl, rfl, h3, h2⟩
  · have := (inB_iff _ _).1 h1; omega
  · have := (inB_iff _ _).1 h1; omega
  · have := (inB_iff _ _).1 h1; have := (inB_iff _ _).1 h3; omega
  · have := (inB_iff _ _).1 h1; have := (inB_iff _ _).1 h3; omega
  · have := (isT_iff _).1 h3; omega
theorem keepQ {W W' : World} {n : Nat} {T : TypeId} {a b c d : Value} (X : Bx W n T #[a, b, c, d]) (h : Below W.heap.size W W') :
    W'.cell? ⟨n, 0, none⟩ = some a ∧ W'.cell? ⟨n, 1, none⟩ = some b ∧ W'.cell? ⟨n, 2, none⟩ = some c ∧ W'.cell? ⟨n, 3, none⟩ = some d ∧ Below W.heap.size W W' :=
  have h' := X.next h
  ⟨h'.q0, h'.q1, h'.q2, h'.q3, h⟩
theorem below_more {W a b : World} (h : Below W.heap.size W a) (k : Below a.heap.size a b) : Below W.heap.size W b := h.trans (k.mono h.size)


end Go.Proofs.Ytgiiclkjffdjgaa
