import Derived.Test.YtlbhiefamnpphaaDoorJdR4
import Derived.Test.YtlbhiefamnpphaaDoorJdW2
import Derived.Test.YtlbhiefamnpphaaDoorJdR3
namespace Go.Proofs.YtlbhiefamnpphaaDoor.jc
open Go.ChangeShapes Go.WideShapes Go.ChangeAt Go.RowKit Go.Proofs.YtlbhiefamnpphaaDoor.common Go.Proofs.YtlbhiefamnpphaaDoor.Jc

end Go.Proofs.YtlbhiefamnpphaaDoor.jc
