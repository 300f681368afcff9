/- The model's l03Sync. -/
import Derived.Test.YtcpblmpapkhppaaDoorSRead
namespace Go.Proofs.YtcpblmpapkhppaaDoor
open Go.RowKit

/-- 'append([]T{}, src...)' outside a drawn region. -/
theorem wpList_append_copy {P : Program} (w : World) {ops : Array Oper} {rest : List Oper} {o : Oper} {a : Act} {Q : Exit → Act → World → Prop} (hg : o.guard = none) (s x : Operand) (t : TypeId)
    (hop : o.op = Op.call { callee := Callee.builtin Builtin.append, args := #[s, x], argTypes := #[t, t] })
    (e : TypeId) (i : TypeInfo) (z : Value) (sz bytes : Nat) (ht : P.underlying t = some (.slice e)) (hi : P.info? e = some i) (hz : i.zero = some z) (hsize : i.size = sz) (hby : i.bytes = bytes) (hzs : z.cells.size = sz) (hsz : 0 < sz)
    (g : Addr) (hs : a.eval s = .slice (some g) 0 0) (src : Value) (hx : a.eval x = src) (n : Nat) (xs : List Value) (hr : Rd w src n sz xs) (h63 : n ≤ maxLen) (hbytes : n * bytes ≤ 140737488355328)
    (hK : ∀ ad cap w', Own w' w.heap.size (.slice ad n cap) n sz xs → Below w.heap.size w w' → wpList P ops Q rest (a.put o.dst (.slice ad n cap)) w') :
    wpList P ops Q (o :: rest) a w := by
  refine wpList_plain hg fun K hK' => ?_
  obtain ⟨v', w', hrun, h1, h2⟩ := run_append_copy (P := P) w t o.type e i z sz bytes ht hi hz hsize hby hzs hsz g src n xs hr h63 hbytes
  obtain ⟨ad, cap, rfl, _⟩ := id h1.2
  unfold Oper.wp
  simp [execOp, hop, resolve, invoke, builtin, hs, hx, hrun, Result.andThen]
  exact hK' _ _ (hK ad cap w' h1 ⟨h2.os, h2.tape, h2.output, h2.size, fun k hk => h2.block k hk (by simp)⟩)

def syncL (sec : List ByteArray) (dir : List D) : List ByteArray := dir.foldl (fun s d => s.set d.1.toNat d.2) sec
theorem syncL_length (dir : List D) : ∀ sec : List ByteArray, (syncL sec dir).length = sec.length := by
  induction dir with
  | nil => intro sec; rfl
  | cons d dir ih => intro sec; exact (ih _).trans (by simp)
theorem syncL_step (sec : List ByteArray) (dir : List D) (k : Nat) (h : k < dir.length) : syncL sec (dir.take (k + 1)) = (syncL sec (dir.take k)).set dir[k].1.toNat dir[k].2 := by
  unfold syncL
  rw [List.take_succ_eq_append_getElem h, List.foldl_append]
  rfl
theorem strs_set (l : List ByteArray) (i : Nat) (x : ByteArray) : strs (l.set i x) = (strs l).set i (.string x) := by simp [strs, List.map_set]
def syncOf (F : FM) : FM := ⟨syncL F.sec F.dir, []⟩
theorem grown_drew {w w' : World} {r : Option Nat} (h : w.grownBy w' r) : w.grownBy w'.drew r := ⟨h.os, h.tape, h.output, h.size, h.block⟩
theorem grown_keeps {w w' : World} {b k : Nat} (h : w.grownBy w' (some b)) (hk : k < w.heap.size) (hne : k ≠ b) (j : Nat) : w'.cell? ⟨k, j, none⟩ = w.cell? ⟨k, j, none⟩ ∧ w'.frozen? ⟨k, j, none⟩ = w.frozen? ⟨k, j, none⟩ := by
  have e := h.block k hk (by simp; omega)
  exact ⟨by simp only [World.cell?, e], by simp only [World.frozen?, e]⟩
def SyncRel (F : FM) (W : World) (lo b off cap : Nat) (i : Value) (wr : World) : Prop :=
  ∃ k : Nat, k ≤ F.dir.length ∧ i = .int .i64 k ∧ Own wr lo (.slice (some ⟨b, off, none⟩) F.sec.length cap) F.sec.length 1 (strs (syncL F.sec (F.dir.take k))) ∧ W.grownBy wr (some b)

end Go.Proofs.YtcpblmpapkhppaaDoor
