import Derived.Test.YtkkgngmhdlmgnaaDoorBaseLaid
namespace Go.Proofs.YtkkgngmhdlmgnaaDoor.jw
open Go.ChangeShapes Go.WideShapes Go.ChangeAt Go.RowKit Go.Proofs.YtkkgngmhdlmgnaaDoor.common

/-- from a row's list with all thirteen refusals to all that the laws lean on -/
theorem base_errs {w : World} {rest : List (String × DataW Unit)} (h : laidMet Tryd.prog (("math/bits.deBruijn32tab", Rows.laid_math_bits_deBruijn32tab) :: ("math/bits.deBruijn64tab", Rows.laid_math_bits_deBruijn64tab) :: ("internal/strconv.uint64pow10", Rows.laid_internal_strconv_uint64pow10) :: ("unicode/utf8.acceptRanges", Rows.laid_unicode_utf8_acceptRanges) :: ("strconv.ErrRange", Rows.laid_strconv_ErrRange) :: ("strconv.ErrSyntax", Rows.laid_strconv_ErrSyntax) ::
      ([("usher/api.ErrArg", Rows.laid_usher_api_ErrArg), ("usher/api.ErrText", Rows.laid_usher_api_ErrText), ("usher/api.ErrMany", Rows.laid_usher_api_ErrMany), ("usher/api.ErrTwice", Rows.laid_usher_api_ErrTwice), ("usher/api.ErrScheme", Rows.laid_usher_api_ErrScheme), ("usher/api.ErrShort", Rows.laid_usher_api_ErrShort), ("usher/api.ErrDry", Rows.laid_usher_api_ErrDry), ("usher/api.ErrTaken", Rows.laid_usher_api_ErrTaken), ("usher/api.ErrFull", Rows.laid_usher_api_ErrFull), ("usher/api.ErrDead", Rows.laid_usher_api_ErrDead), ("usher/api.ErrLog", Rows.laid_usher_api_ErrLog), ("usher/api.ErrLost", Rows.laid_usher_api_ErrLost), ("usher/api.ErrDenied", Rows.laid_usher_api_ErrDenied)] ++ rest)) w)
    (h1 : ("usher/jsonobj.shortEscapes", Rows.laid_usher_jsonobj_shortEscapes) ∈ rest) (h2 : ("unicode/utf8.first", Rows.laid_unicode_utf8_first) ∈ rest) : ∃ e, Base w e ∧ errw.Errs w e := by
  obtain ⟨e, he⟩ := errw.errs_of_laid h.tail.tail.tail.tail.tail.tail
  obtain ⟨ar, hr⟩ := sent_head h.tail.tail.tail.tail rngG rngT
  obtain ⟨ay, hs⟩ := sent_head h.tail.tail.tail.tail.tail synG synT
  exact ⟨e, ⟨⟨he.cell 0 (by decide), he.cell 1 (by decide), he.cell 2 (by decide), he.cell 3 (by decide)⟩, short_of_laid h (by simp [h1]), tabs_of_laid h (by simp [h2]) (by simp), ⟨_, _, hs⟩, ⟨_, _, hr⟩, pow_head h.tail.tail⟩, he⟩
end Go.Proofs.YtkkgngmhdlmgnaaDoor.jw
