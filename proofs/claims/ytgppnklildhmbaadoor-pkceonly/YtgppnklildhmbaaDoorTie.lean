/-
  DERIVED. GIVEN WITH THE SEED: THE PROGRAM's TIES (one call each: nine closed facts by the kernel) AND EACH ROW's TIE, after the 31st guide's Derived/Test/Toyas{Tie, Card}.lean. No idea stands in it: it is a product of the set-up. Laid BY PROGRAM, IN A SANDBOX (cutbox-door.mjs). By AI agents, Wed Nov 11 2026. No macro, syntax, notation, axiom, sorry.
-/
import Derived.Test.YtgppnklildhmbaaDoorRows
import Derived.LaidByTextLater
import Derived.SevenTiedAt
import Derived.LaidSub
import Derived.LaidOnce
namespace Go.Proofs.YtgppnklildhmbaaDoor
open Go
set_option maxRecDepth 100000
theorem seatTie1 : Tryd.prog.laidByTextLater [("usher/api.ErrText", Rows.laid_usher_api_ErrText), ("usher/radix.urlLetters", Rows.laid_usher_radix_urlLetters), ("usher/sums.firstWords", Rows.laid_usher_sums_firstWords), ("usher/sums.roundWords", Rows.laid_usher_sums_roundWords), ("usher/pkce.unreserved", Rows.laid_usher_pkce_unreserved)] [.sentinel, .data, .data, .data, .data] true :=
  Program.laidByTextLater_by_one 58 8 129 (by kernel_rfl) (by kernel_rfl) (by kernel_rfl) (by kernel_rfl) (by kernel_rfl) (by kernel_rfl) (fun _ _ => by kernel_rfl)
theorem seatTie2 : Tryd.prog.laidByTextLater [("usher/radix.urlLetters", Rows.laid_usher_radix_urlLetters), ("usher/sums.firstWords", Rows.laid_usher_sums_firstWords), ("usher/sums.roundWords", Rows.laid_usher_sums_roundWords), ("usher/usherref1.first", Rows.laid_usher_usherref1_first), ("usher/usherref1.round", Rows.laid_usher_usherref1_round)] [.data, .data, .data, .data, .data] true :=
  Program.laidByTextLater_by_one 58 8 129 (by kernel_rfl) (by kernel_rfl) (by kernel_rfl) (by kernel_rfl) (by kernel_rfl) (by kernel_rfl) (fun _ _ => by kernel_rfl)
theorem seatTie3 : Tryd.prog.laidByTextLater [("usher/radix.urlLetters", Rows.laid_usher_radix_urlLetters), ("usher/sums.firstWords", Rows.laid_usher_sums_firstWords), ("usher/sums.roundWords", Rows.laid_usher_sums_roundWords), ("usher/pkce.unreserved", Rows.laid_usher_pkce_unreserved), ("usher/usherref1.first", Rows.laid_usher_usherref1_first), ("usher/usherref1.round", Rows.laid_usher_usherref1_round)] [.data, .data, .data, .data, .data, .data] true :=
  Program.laidByTextLater_by_one 58 8 129 (by kernel_rfl) (by kernel_rfl) (by kernel_rfl) (by kernel_rfl) (by kernel_rfl) (by kernel_rfl) (fun _ _ => by kernel_rfl)
theorem noOwnUnsafe : Tryd.pinned.checked.prog.headLifts.contains "ownunsafe" = false := by kernel_rfl
theorem tie : Tryd.prog.laidByTextLater [("usher/pkce.unreserved", Rows.laid_usher_pkce_unreserved)] [.data] true :=
  Program.laidByTextLater.sub seatTie1 ["usher/pkce.unreserved"] (by kernel_rfl) (by kernel_rfl)
theorem pkceGrammar_row_tie : Rows.pkceGrammarRow.laidByTextAt .later Tryd.pinned [.data] true :=
  OpenClaim.laidByTextAt_later rfl rfl tie noOwnUnsafe
theorem tie2 : Tryd.prog.laidByTextLater [("usher/radix.urlLetters", Rows.laid_usher_radix_urlLetters), ("usher/sums.firstWords", Rows.laid_usher_sums_firstWords), ("usher/sums.roundWords", Rows.laid_usher_sums_roundWords), ("usher/pkce.unreserved", Rows.laid_usher_pkce_unreserved)] [.data, .data, .data, .data] true :=
  Program.laidByTextLater.sub seatTie1 ["usher/radix.urlLetters", "usher/sums.firstWords", "usher/sums.roundWords", "usher/pkce.unreserved"] (by kernel_rfl) (by kernel_rfl)
theorem pkceOnly_row_tie : Rows.pkceOnlyRow.laidByTextAt .later Tryd.pinned [.data, .data, .data, .data] true :=
  OpenClaim.laidByTextAt_later rfl rfl tie2 noOwnUnsafe
theorem tie3 : Tryd.prog.laidByTextLater [("usher/api.ErrText", Rows.laid_usher_api_ErrText), ("usher/radix.urlLetters", Rows.laid_usher_radix_urlLetters), ("usher/sums.firstWords", Rows.laid_usher_sums_firstWords), ("usher/sums.roundWords", Rows.laid_usher_sums_roundWords), ("usher/pkce.unreserved", Rows.laid_usher_pkce_unreserved)] [.sentinel, .data, .data, .data, .data] true :=
  Program.laidByTextLater.sub seatTie1 ["usher/api.ErrText", "usher/radix.urlLetters", "usher/sums.firstWords", "usher/sums.roundWords", "usher/pkce.unreserved"] (by kernel_rfl) (by kernel_rfl)
theorem pkceBound_row_tie : Rows.pkceBoundRow.laidByTextAt .later Tryd.pinned [.sentinel, .data, .data, .data, .data] true :=
  OpenClaim.laidByTextAt_later rfl rfl tie3 noOwnUnsafe
theorem tie4 : Tryd.prog.laidByTextLater [("usher/radix.urlLetters", Rows.laid_usher_radix_urlLetters), ("usher/sums.firstWords", Rows.laid_usher_sums_firstWords), ("usher/sums.roundWords", Rows.laid_usher_sums_roundWords), ("usher/usherref1.first", Rows.laid_usher_usherref1_first), ("usher/usherref1.round", Rows.laid_usher_usherref1_round)] [.data, .data, .data, .data, .data] true :=
  Program.laidByTextLater.sub seatTie2 ["usher/radix.urlLetters", "usher/sums.firstWords", "usher/sums.roundWords", "usher/usherref1.first", "usher/usherref1.round"] (by kernel_rfl) (by kernel_rfl)
theorem pkceS256_row_tie : Rows.pkceS256Row.laidByTextAt .later Tryd.pinned [.data, .data, .data, .data, .data] true :=
  OpenClaim.laidByTextAt_later rfl rfl tie4 noOwnUnsafe
theorem tie5 : Tryd.prog.laidByTextLater [("usher/radix.urlLetters", Rows.laid_usher_radix_urlLetters), ("usher/sums.firstWords", Rows.laid_usher_sums_firstWords), ("usher/sums.roundWords", Rows.laid_usher_sums_roundWords), ("usher/pkce.unreserved", Rows.laid_usher_pkce_unreserved), ("usher/usherref1.first", Rows.laid_usher_usherref1_first), ("usher/usherref1.round", Rows.laid_usher_usherref1_round)] [.data, .data, .data, .data, .data, .data] true :=
  Program.laidByTextLater.sub seatTie3 ["usher/radix.urlLetters", "usher/sums.firstWords", "usher/sums.roundWords", "usher/pkce.unreserved", "usher/usherref1.first", "usher/usherref1.round"] (by kernel_rfl) (by kernel_rfl)
theorem pkceMatch_row_tie : Rows.pkceMatchRow.laidByTextAt .later Tryd.pinned [.data, .data, .data, .data, .data, .data] true :=
  OpenClaim.laidByTextAt_later rfl rfl tie5 noOwnUnsafe
theorem pkceGrammarUpto_row_tie : Rows.pkceGrammarUptoRow.laidByTextAt .later Tryd.pinned [.data] true :=
  OpenClaim.laidByTextAt_later rfl rfl tie noOwnUnsafe
theorem pkceOnlyUpto_row_tie : Rows.pkceOnlyUptoRow.laidByTextAt .later Tryd.pinned [.data, .data, .data, .data] true :=
  OpenClaim.laidByTextAt_later rfl rfl tie2 noOwnUnsafe
theorem pkceBoundUpto_row_tie : Rows.pkceBoundUptoRow.laidByTextAt .later Tryd.pinned [.sentinel, .data, .data, .data, .data] true :=
  OpenClaim.laidByTextAt_later rfl rfl tie3 noOwnUnsafe
theorem pkceS256Upto_row_tie : Rows.pkceS256UptoRow.laidByTextAt .later Tryd.pinned [.data, .data, .data, .data, .data] true :=
  OpenClaim.laidByTextAt_later rfl rfl tie4 noOwnUnsafe
theorem pkceMatchUpto_row_tie : Rows.pkceMatchUptoRow.laidByTextAt .later Tryd.pinned [.data, .data, .data, .data, .data, .data] true :=
  OpenClaim.laidByTextAt_later rfl rfl tie5 noOwnUnsafe
end Go.Proofs.YtgppnklildhmbaaDoor
