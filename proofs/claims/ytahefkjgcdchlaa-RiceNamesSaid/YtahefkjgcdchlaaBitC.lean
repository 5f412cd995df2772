/- Contracts of the reference's functions on bits: cut. -/
import Derived.Test.YtahefkjgcdchlaaBitB
namespace Go.Proofs.Ytahefkjgcdchlaa
open Go.RowKit Cad

end Go.Proofs.Ytahefkjgcdchlaa
