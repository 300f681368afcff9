/- The exact laws of StepsCode and Writes. -/
import Derived.Test.YtcckpkcjekcajaaDoorBSCode
import Derived.Test.YtcckpkcjekcajaaDoorM3
import Derived.Test.YtcckpkcjekcajaaDoorBWrites
import Derived.Test.YtcckpkcjekcajaaDoorAOb
namespace Go.Proofs.YtcckpkcjekcajaaDoor
open Go.RowKit

def FitT (l : List stpT) : Prop := ∀ d ∈ l, d.2.2.2.size ≤ maxLen
theorem szSteps2 (v : Value) (l : List stpT) (left : Int) (w : World) (h : Rd w v l.length 4 (stpCs l)) (hn : l.length ≤ maxLen) (hs : FitT l) (h0 : 0 ≤ left) (h1 : left ≤ 1048576) :
    Calls Tryd.prog 58 #[v, .int .i64 left] w (LeftB left (l.length ≤ left) w) :=
  (szSteps_any v l left w h hn hs h0 h1).mono fun _ _ ⟨r, e, b, c⟩ => ⟨r, e, b, c.imp id fun ⟨x, y, z⟩ => ⟨x, y, z.1⟩⟩

end Go.Proofs.YtcckpkcjekcajaaDoor
