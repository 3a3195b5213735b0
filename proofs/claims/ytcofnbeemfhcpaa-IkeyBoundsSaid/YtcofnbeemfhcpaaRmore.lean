/- The reference's Signed, Flag, Bytes. -/
import Derived.Test.YtcofnbeemfhcpaaRnum
namespace Go.Proofs.Ytcofnbeemfhcpaa
open Go.ChangeShapes Go.WideShapes Go.ChangeAt Go.RowKit

end Go.Proofs.Ytcofnbeemfhcpaa
