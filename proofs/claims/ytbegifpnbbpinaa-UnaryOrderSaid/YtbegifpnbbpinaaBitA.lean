/- Contracts of the reference's functions on bits: aligned. -/
import Derived.Test.YtbegifpnbbpinaaBitF
namespace Go.Proofs.Ytbegifpnbbpinaa
open Go.RowKit Cad

end Go.Proofs.Ytbegifpnbbpinaa
