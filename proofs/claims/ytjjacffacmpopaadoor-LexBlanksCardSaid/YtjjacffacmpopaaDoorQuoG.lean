/- quote: putPiece walked. -/
import Derived.Test.YtjjacffacmpopaaDoorQuoF
namespace Go.Proofs.YtjjacffacmpopaaDoor
open Go.RowKit UM QM

end Go.Proofs.YtjjacffacmpopaaDoor
