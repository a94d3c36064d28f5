import Derived.Test.YthhkhpgffamdhaaDoorSetW
import Derived.Stop.LaidErr
namespace Go.Proofs.YthhkhpgffamdhaaDoor.fd
open Go.ChangeShapes Go.WideShapes Go.ChangeAt Go.RowKit Go.Proofs.YthhkhpgffamdhaaDoor.common Go.Proofs.YthhkhpgffamdhaaDoor.bk

theorem cells64 : Tryd.prog.cellsOf 142 = 1 := by kernel_rfl
theorem powG : Tryd.prog.globalNamed "internal/strconv.uint64pow10" = some 17 := by kernel_rfl
theorem powT : (Tryd.prog.globals[17]?).map (·.type) = some 161 := by kernel_rfl
theorem powC : Tryd.prog.cellsOf 161 = 20 := by kernel_rfl
theorem pow_is : (Rows.laid_internal_strconv_uint64pow10 : DataW Unit) = .agg (Lib.pow10Tab.map fun z => .lit (.int .u64 z)) := by kernel_rfl
theorem pow_head {w : World} {rest : List (String × DataW Unit)} (h : laidMet Tryd.prog (("internal/strconv.uint64pow10", Rows.laid_internal_strconv_uint64pow10) :: rest) w) : Pow w.heap.size w := by
  rw [pow_is] at h
  exact Lib.tabBelow_of_tabIs (Lib.tabIs_of_head (rest := rest) powG powT Tryd.underlying161 Tryd.underlying142 cells64 powC h)

end Go.Proofs.YthhkhpgffamdhaaDoor.fd
