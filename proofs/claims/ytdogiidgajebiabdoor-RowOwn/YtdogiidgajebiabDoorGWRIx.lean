/- The walk of the document's indexes. The walk of the document's Check. -/
import Derived.Test.YtdogiidgajebiabDoorGWRSome
import Derived.Test.YtdogiidgajebiabDoorGWQuiet
namespace Go.Proofs.YtdogiidgajebiabDoor
open Go.RowKit
set_option maxRecDepth 100000



end Go.Proofs.YtdogiidgajebiabDoor

namespace Go.Proofs.YtdogiidgajebiabDoor
open Go.RowKit
set_option maxRecDepth 100000



end Go.Proofs.YtdogiidgajebiabDoor
