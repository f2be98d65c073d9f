/- What the laws share: number, alive. -/
import Derived.Test.YtbkbogblbniogaaLebSinkMore
import Derived.Test.YtbkbogblbniogaaLebReadB
namespace Go.Proofs.Ytbkbogblbniogaa
open Go.RowKit
end Go.Proofs.Ytbkbogblbniogaa
