/- The reference: an entry's bytes. -/
import Derived.Test.YtcofnbeemfhcpaaIref
namespace Go.Proofs.Ytcofnbeemfhcpaa
open Go.ChangeShapes Go.WideShapes Go.ChangeAt Go.RowKit

end Go.Proofs.Ytcofnbeemfhcpaa
