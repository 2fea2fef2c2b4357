/- quote: Plain walked. -/
import Derived.Test.YtefaieglhllioaaDoorQuoP
import Derived.Deep.RegionLaw
namespace Go.Proofs.YtefaieglhllioaaDoor
open Go.RowKit UM QM

end Go.Proofs.YtefaieglhllioaaDoor
