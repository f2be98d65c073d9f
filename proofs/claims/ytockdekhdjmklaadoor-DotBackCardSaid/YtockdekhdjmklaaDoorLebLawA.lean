/- What the laws share: number, alive. -/
import Derived.Test.YtockdekhdjmklaaDoorLebSinkMore
import Derived.Test.YtockdekhdjmklaaDoorLebReadB
namespace Go.Proofs.YtockdekhdjmklaaDoor
open Go.RowKit
end Go.Proofs.YtockdekhdjmklaaDoor
