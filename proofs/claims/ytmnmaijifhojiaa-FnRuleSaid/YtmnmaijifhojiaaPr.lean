/- Walks of ProgRead's parts: numbers out of bytes, the lowest first. -/
import Derived.Test.YtmnmaijifhojiaaPb
import Derived.StillTailTactics
import Derived.Deep.Draws
set_option maxRecDepth 100000
namespace Go.Proofs.Ytmnmaijifhojiaa
open Go.RowKit

end Go.Proofs.Ytmnmaijifhojiaa
