/- Contracts of the reference's functions on bits: aligned. -/
import Derived.Test.YtahefkjgcdchlaaBitF
namespace Go.Proofs.Ytahefkjgcdchlaa
open Go.RowKit Cad

end Go.Proofs.Ytahefkjgcdchlaa
