/- What the laws of projections ask of the program's functions, all of it. No conditions but those that each statement names. -/
import Derived.Test.YtbiihcoobknmjaaJPjD
import Derived.Test.YtbiihcoobknmjaaJPjE
import Derived.Test.YtbiihcoobknmjaaJPjF
import Derived.Test.YtbiihcoobknmjaaJPjH
import Derived.Test.YtbiihcoobknmjaaJPjJ
set_option linter.unusedVariables false
namespace Go.Proofs.Ytbiihcoobknmjaa
open Go.RowKit
theorem progSays : ProgSays where
  good := fun ep ao cap L w h hl => pgood_any ep ao cap L w h.1 hl
  next := fun e1 ao1 c1 L1 e2 ao2 c2 L2 w h1 h2 l1 l2 => pnext_any e1 ao1 c1 L1 e2 ao2 c2 L2 w h1.1 h2.1 l1 l2
  encode := fun ep ao cap L w h hl hw => penc_any ep ao cap L w h.1 hl hw
  decode := fun s w hs => pdec_any s hs w
  units := fun ep ao cap L w h hl => punits_any ep ao cap L w h.1 hl
end Go.Proofs.Ytbiihcoobknmjaa
