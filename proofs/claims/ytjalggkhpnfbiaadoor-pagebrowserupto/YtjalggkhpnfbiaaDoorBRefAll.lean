import Derived.Test.YtjalggkhpnfbiaaDoorBRefFm
namespace Go.Proofs.YtjalggkhpnfbiaaDoor.pg
open Go.ChangeShapes Go.WideShapes Go.ChangeAt Go.RowKit Go.Proofs.YtjalggkhpnfbiaaDoor.common Go.Maps
attribute [local go_sem ↓] Go.wp_at_zero Go.wp_at_succ

end Go.Proofs.YtjalggkhpnfbiaaDoor.pg
