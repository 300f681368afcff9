/- Slices of texts measured in the laws. -/
import Derived.Test.YtcckpkcjekcajaaDoorLMark
import Derived.Test.YtcckpkcjekcajaaDoorLDirty
namespace Go.Proofs.YtcckpkcjekcajaaDoor
open Go.RowKit

def FitZ (l : List ByteArray) : Prop := ∀ s ∈ l, s.size ≤ maxLen
theorem szStrs2 (v : Value) (l : List ByteArray) (left : Int) (w : World) (h : Rd w v l.length 1 (strs l)) (hn : l.length ≤ maxLen) (hs : FitZ l) (h0 : 0 ≤ left) (h1 : left ≤ 1048576) :
    Calls Tryd.prog 21 #[v, .int .i64 left] w (LeftB left (l.length ≤ left) w) :=
  (szStrs_any v l left w h hn hs h0 h1).mono fun _ _ ⟨r, e, b, c⟩ => ⟨r, e, b ▸ Below.refl _ _, c.imp id fun ⟨x, y, z⟩ => ⟨x, y, z.1⟩⟩
theorem cz_end : True := trivial
end Go.Proofs.YtcckpkcjekcajaaDoor
