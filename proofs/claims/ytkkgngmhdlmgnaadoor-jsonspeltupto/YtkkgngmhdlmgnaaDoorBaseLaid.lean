import Derived.Test.YtkkgngmhdlmgnaaDoorBaseB
import Derived.Test.YtkkgngmhdlmgnaaDoorJsonLaid
import Derived.Lib.LaidTab
namespace Go.Proofs.YtkkgngmhdlmgnaaDoor.jw
open Go.ChangeShapes Go.WideShapes Go.ChangeAt Go.RowKit Go.Proofs.YtkkgngmhdlmgnaaDoor.common

theorem sent_head {w : World} {n : String} {text : List UInt8} {g : Nat} {rest : List (String × DataW Unit)} (h : laidMet Tryd.prog ((n, .iface "*errors.errorString" (.ptr (.agg [.lit (.string text)]))) :: rest) w)
    (hg : Tryd.prog.globalNamed n = some g) (ht : (Tryd.prog.globals[g]?).map (·.type) = some 24) : ∃ a, w.cell? ⟨g, 0, none⟩ = some (X a) := by
  obtain ⟨ps, h0, hnd, hrows⟩ := h
  obtain ⟨a0, q0, c0, _, _⟩ := errw.peel h0 hrows hg ht Tryd.underlying24 errw.rowErr Tryd.underlying144 Tryd.underlying146 rfl rfl Tryd.underlying9 errw.cellsErr errw.cellsStr
  exact ⟨a0, c0⟩

theorem cells64 : Tryd.prog.cellsOf 95 = 1 := by kernel_rfl
theorem powG : Tryd.prog.globalNamed "internal/strconv.uint64pow10" = some 16 := by kernel_rfl
theorem powT : (Tryd.prog.globals[16]?).map (·.type) = some 118 := by kernel_rfl
theorem powC : Tryd.prog.cellsOf 118 = 20 := by kernel_rfl
theorem pow_is : (Rows.laid_internal_strconv_uint64pow10 : DataW Unit) = .agg (Lib.pow10Tab.map fun z => .lit (.int .u64 z)) := by kernel_rfl
theorem pow_head {w : World} {rest : List (String × DataW Unit)} (h : laidMet Tryd.prog (("internal/strconv.uint64pow10", Rows.laid_internal_strconv_uint64pow10) :: rest) w) : Pow w.heap.size w := by
  rw [pow_is] at h
  exact Lib.tabBelow_of_tabIs (Lib.tabIs_of_head (rest := rest) powG powT Tryd.underlying118 Tryd.underlying95 cells64 powC h)

theorem synG : Tryd.prog.globalNamed "strconv.ErrSyntax" = some 20 := by kernel_rfl
theorem synT : (Tryd.prog.globals[20]?).map (·.type) = some 24 := by kernel_rfl
theorem rngG : Tryd.prog.globalNamed "strconv.ErrRange" = some 21 := by kernel_rfl
theorem rngT : (Tryd.prog.globals[21]?).map (·.type) = some 24 := by kernel_rfl

/-- the four refusals at the head of a list -/
theorem four_head {w : World} {rest : List (String × DataW Unit)} (h : laidMet Tryd.prog (("usher/api.ErrArg", Rows.laid_usher_api_ErrArg) :: ("usher/api.ErrText", Rows.laid_usher_api_ErrText) :: ("usher/api.ErrMany", Rows.laid_usher_api_ErrMany) :: ("usher/api.ErrTwice", Rows.laid_usher_api_ErrTwice) :: rest) w) : ∃ e, Four w e := by
  obtain ⟨a0, h0⟩ := sent_head h errw.g0 errw.t0
  obtain ⟨a1, h1⟩ := sent_head h.tail errw.g1 errw.t1
  obtain ⟨a2, h2⟩ := sent_head h.tail.tail errw.g2 errw.t2
  obtain ⟨a3, h3⟩ := sent_head h.tail.tail.tail errw.g3 errw.t3
  exact ⟨fun i => [a0, a1, a2, a3].getD i a0, ⟨h0, h1, h2, h3⟩⟩

/-- from a row's list to all that the laws lean on -/
theorem base_of_laid {w : World} {rest : List (String × DataW Unit)} (h : laidMet Tryd.prog (("math/bits.deBruijn32tab", Rows.laid_math_bits_deBruijn32tab) :: ("math/bits.deBruijn64tab", Rows.laid_math_bits_deBruijn64tab) :: ("internal/strconv.uint64pow10", Rows.laid_internal_strconv_uint64pow10) :: ("unicode/utf8.acceptRanges", Rows.laid_unicode_utf8_acceptRanges) :: ("strconv.ErrRange", Rows.laid_strconv_ErrRange) :: ("strconv.ErrSyntax", Rows.laid_strconv_ErrSyntax) ::
      ("usher/api.ErrArg", Rows.laid_usher_api_ErrArg) :: ("usher/api.ErrText", Rows.laid_usher_api_ErrText) :: ("usher/api.ErrMany", Rows.laid_usher_api_ErrMany) :: ("usher/api.ErrTwice", Rows.laid_usher_api_ErrTwice) :: rest) w)
    (h1 : ("usher/jsonobj.shortEscapes", Rows.laid_usher_jsonobj_shortEscapes) ∈ rest) (h2 : ("unicode/utf8.first", Rows.laid_unicode_utf8_first) ∈ rest) : ∃ e, Base w e := by
  obtain ⟨e, he⟩ := four_head h.tail.tail.tail.tail.tail.tail
  obtain ⟨ar, hr⟩ := sent_head h.tail.tail.tail.tail rngG rngT
  obtain ⟨ay, hs⟩ := sent_head h.tail.tail.tail.tail.tail synG synT
  refine ⟨e, he, short_of_laid h (by simp [h1]), tabs_of_laid h (by simp [h2]) (by simp), ⟨_, _, hs⟩, ⟨_, _, hr⟩, pow_head h.tail.tail⟩
end Go.Proofs.YtkkgngmhdlmgnaaDoor.jw
