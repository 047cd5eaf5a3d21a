/- The walk of TonePieces. -/
import Derived.Test.YtlmmkaadoicogabWalkN
namespace Go.Proofs.Ytlmmkaadoicogab
open Go.RowKit

end Go.Proofs.Ytlmmkaadoicogab
