/- The walk of TonePieces. -/
import Derived.Test.YtbadihbcjdibeaaWalkN
namespace Go.Proofs.Ytbadihbcjdibeaa
open Go.RowKit

end Go.Proofs.Ytbadihbcjdibeaa
