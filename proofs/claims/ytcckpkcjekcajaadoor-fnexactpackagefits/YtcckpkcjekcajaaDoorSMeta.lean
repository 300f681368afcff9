/- The model's MetaBytes. -/
import Derived.Test.YtcckpkcjekcajaaDoorM1
import Derived.Test.YtcckpkcjekcajaaDoorSeal
import Derived.Test.YtcckpkcjekcajaaDoorSRight
namespace Go.Proofs.YtcckpkcjekcajaaDoor
open Go.RowKit

def sealS (t : ByteArray) : ByteArray := t ++ fourS (crcF 0 t)
def metaRaw (g : Int) (t : ByteArray) : ByteArray := putS g ++ (putS t.size ++ t)
def metaB (g : Int) (t : ByteArray) : ByteArray := if (1 ≤ g ∧ g ≤ 1000000) ∧ t.size ≤ 80 then sealS (metaRaw g t) else ByteArray.empty
theorem metaRaw_size {g : Int} {t : ByteArray} (h0 : 1 ≤ g) (h1 : g ≤ 1000000) (ht : t.size ≤ 80) : (metaRaw g t).size ≤ 100 := by
  unfold metaRaw
  have := putS_size g (by omega) (by omega)
  have := putS_size t.size (by omega) (by omega)
  rw [ByteArray.size_append, ByteArray.size_append]; omega
theorem metaB_size (g : Int) (t : ByteArray) : (metaB g t).size ≤ 104 := by
  unfold metaB
  split
  · rename_i h
    unfold sealS
    rw [ByteArray.size_append, fourS_size]
    have := metaRaw_size h.1.1 h.1.2 h.2
    omega
  · simp
end Go.Proofs.YtcckpkcjekcajaaDoor
