import Derived.Test.YtlbhiefamnpphaaDoorJdR2
namespace Go.Proofs.YtlbhiefamnpphaaDoor.jc
open Go.ChangeShapes Go.WideShapes Go.ChangeAt Go.RowKit Go.Proofs.YtlbhiefamnpphaaDoor.common Go.Proofs.YtlbhiefamnpphaaDoor.Jc

end Go.Proofs.YtlbhiefamnpphaaDoor.jc
