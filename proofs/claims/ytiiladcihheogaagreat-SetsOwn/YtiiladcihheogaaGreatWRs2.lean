/- The document's Reads, least, Clash. -/
import Derived.Test.YtiiladcihheogaaGreatWRs1
namespace Go.Proofs.YtiiladcihheogaaGreat
open Go.RowKit
set_option maxRecDepth 100000



