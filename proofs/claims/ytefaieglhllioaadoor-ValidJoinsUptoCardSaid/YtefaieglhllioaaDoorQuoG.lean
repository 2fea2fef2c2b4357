/- quote: putPiece walked. -/
import Derived.Test.YtefaieglhllioaaDoorQuoF
namespace Go.Proofs.YtefaieglhllioaaDoor
open Go.RowKit UM QM

end Go.Proofs.YtefaieglhllioaaDoor
