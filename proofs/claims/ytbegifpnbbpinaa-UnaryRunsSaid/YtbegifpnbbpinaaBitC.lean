/- Contracts of the reference's functions on bits: cut. -/
import Derived.Test.YtbegifpnbbpinaaBitB
namespace Go.Proofs.Ytbegifpnbbpinaa
open Go.RowKit Cad

end Go.Proofs.Ytbegifpnbbpinaa
