/- What variablesTo answers: the word with every other bit, n of them; n at most 24. -/
import Derived.Test.YtabiopkjeodamaaDoorCnt
namespace Go.Proofs.YtabiopkjeodamaaDoor.vt
open Go.ChangeShapes Go.WideShapes Go.ChangeAt Go.RowKit
open Go.Proofs.YtabiopkjeodamaaDoor.cnt (ev)
set_option linter.unusedVariables false

end Go.Proofs.YtabiopkjeodamaaDoor.vt
