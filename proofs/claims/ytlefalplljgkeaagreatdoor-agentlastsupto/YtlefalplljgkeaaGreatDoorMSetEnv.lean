import Derived.Test.YtlefalplljgkeaaGreatDoorMSetW2
import Derived.Stop.LaidErr
import Derived.Test.YtlefalplljgkeaaGreatDoorMSeemW2
import Derived.Test.YtlefalplljgkeaaGreatDoorMErrWalks
import Derived.Lib.SmallJoins
namespace Go.Proofs.YtlefalplljgkeaaGreatDoor.fd
open Go.ChangeShapes Go.WideShapes Go.ChangeAt Go.RowKit Go.Proofs.YtlefalplljgkeaaGreatDoor.common Go.Proofs.YtlefalplljgkeaaGreatDoor.bk

theorem cells64 : Tryz.prog.cellsOf 144 = 1 := by kernel_rfl
theorem powG : Tryz.prog.globalNamed "internal/strconv.uint64pow10" = some 4 := by kernel_rfl
theorem powT : (Tryz.prog.globals[4]?).map (·.type) = some 169 := by kernel_rfl
theorem powC : Tryz.prog.cellsOf 169 = 20 := by kernel_rfl
theorem pow_is : (Rows.laid_internal_strconv_uint64pow10 : DataW Unit) = .agg (Lib.pow10Tab.map fun z => .lit (.int .u64 z)) := by kernel_rfl
theorem pow_head {w : World} {rest : List (String × DataW Unit)} (h : laidMet Tryz.prog (("internal/strconv.uint64pow10", Rows.laid_internal_strconv_uint64pow10) :: rest) w) : Pow w.heap.size w := by
  rw [pow_is] at h
  exact Lib.tabBelow_of_tabIs (Lib.tabIs_of_head (rest := rest) powG powT Tryz.underlying169 Tryz.underlying144 cells64 powC h)

end Go.Proofs.YtlefalplljgkeaaGreatDoor.fd

namespace Go.Proofs.YtlefalplljgkeaaGreatDoor.fd
open Go.ChangeShapes Go.WideShapes Go.ChangeAt Go.RowKit Go.Joins Go.Deep Go.WideElems Go.Maps Go.Proofs.YtlefalplljgkeaaGreatDoor.common Go.Proofs.YtlefalplljgkeaaGreatDoor.bk

theorem sent_head {w : World} {n : String} {text : List UInt8} {g : Nat} {rest : List (String × DataW Unit)} (h : laidMet Tryz.prog ((n, .iface "*errors.errorString" (.ptr (.agg [.lit (.string text)]))) :: rest) w)
    (hg : Tryz.prog.globalNamed n = some g) (ht : (Tryz.prog.globals[g]?).map (·.type) = some 32) : ∃ a, w.cell? ⟨g, 0, none⟩ = some (X a) := by
  obtain ⟨ps, h0, hnd, hrows⟩ := h
  obtain ⟨a0, q0, c0, _, _⟩ := errw.peel h0 hrows hg ht Tryz.underlying32 errw.rowErr Tryz.underlying209 Tryz.underlying211 rfl rfl Tryz.underlying9 errw.cellsErr errw.cellsStr
  exact ⟨a0, c0⟩
theorem synG : Tryz.prog.globalNamed "strconv.ErrSyntax" = some 10 := by kernel_rfl
theorem synT : (Tryz.prog.globals[10]?).map (·.type) = some 32 := by kernel_rfl
theorem rngG : Tryz.prog.globalNamed "strconv.ErrRange" = some 11 := by kernel_rfl
theorem rngT : (Tryz.prog.globals[11]?).map (·.type) = some 32 := by kernel_rfl
/-- all that the readers of cookies lean on -/
theorem env6_of {w : World} {rest : List (String × DataW Unit)} (h : laidMet Tryz.prog (("internal/strconv.uint64pow10", Rows.laid_internal_strconv_uint64pow10) :: ("strconv.ErrRange", Rows.laid_strconv_ErrRange) :: ("strconv.ErrSyntax", Rows.laid_strconv_ErrSyntax) :: rest) w) (hs : w.ShapedOpen Tryz.prog) (ea : Addr) (he : w.cell? ⟨0, 0, none⟩ = some (X ea)) : Env6 w ea := by
  obtain ⟨ar, hr⟩ := sent_head h.tail rngG rngT
  obtain ⟨ay, hy⟩ := sent_head h.tail.tail synG synT
  exact ⟨pow_head h, he, jl.lays145.s1_3 w hs, ⟨_, _, hy⟩, ⟨_, _, hr⟩⟩

theorem array4J {α : Type} {cs : Array α} (h : cs.size = 4) : ∃ c0 c1 c2 c3, cs = #[c0, c1, c2, c3] := by
  obtain ⟨l⟩ := cs
  match l, h with
  | [c0, c1, c2, c3], _ => exact ⟨c0, c1, c2, c3, rfl⟩
theorem k_cookieJ : Tryz.prog.cellsOf 30 = 3 := by kernel_rfl
theorem k_stringJ : Tryz.prog.cellsOf 9 = 1 := by kernel_rfl
theorem k_intJ : Tryz.prog.cellsOf 3 = 1 := by kernel_rfl
end Go.Proofs.YtlefalplljgkeaaGreatDoor.fd
