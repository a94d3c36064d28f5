/-
  DERIVED. GIVEN WITH THE SEED: THE PROGRAM's TIES (one call each: nine closed facts by the kernel) AND EACH ROW's TIE, after the 31st guide's Derived/Test/Toyas{Tie, Card}.lean. No idea stands in it: it is a product of the set-up. Laid BY PROGRAM, IN A SANDBOX (cutbox-door.mjs). By AI agents, Wed Nov 11 2026. No macro, syntax, notation, axiom, sorry.
-/
import Derived.Test.YtkmhhodapnlkiaaDoorRows
import Derived.LaidByTextLater
import Derived.SevenTiedAt
import Derived.LaidSub
import Derived.LaidOnce
namespace Go.Proofs.YtkmhhodapnlkiaaDoor
open Go
set_option maxRecDepth 100000
theorem seatTie1 : Tryd.prog.laidByTextLater [("usher/pct.unreserved", Rows.laid_usher_pct_unreserved), ("usher/radix.urlLetters", Rows.laid_usher_radix_urlLetters), ("usher/sums.firstWords", Rows.laid_usher_sums_firstWords), ("usher/sums.roundWords", Rows.laid_usher_sums_roundWords), ("usher/usherref1.first", Rows.laid_usher_usherref1_first), ("usher/usherref1.round", Rows.laid_usher_usherref1_round)] [.data, .data, .data, .data, .data, .data] true :=
  Program.laidByTextLater_by_one 39 8 65 (by kernel_rfl) (by kernel_rfl) (by kernel_rfl) (by kernel_rfl) (by kernel_rfl) (by kernel_rfl) (fun _ _ => by kernel_rfl)
theorem noOwnUnsafe : Tryd.pinned.checked.prog.headLifts.contains "ownunsafe" = false := by kernel_rfl
theorem tie : Tryd.prog.laidByTextLater [("usher/pct.unreserved", Rows.laid_usher_pct_unreserved), ("usher/radix.urlLetters", Rows.laid_usher_radix_urlLetters), ("usher/sums.firstWords", Rows.laid_usher_sums_firstWords), ("usher/sums.roundWords", Rows.laid_usher_sums_roundWords), ("usher/usherref1.first", Rows.laid_usher_usherref1_first), ("usher/usherref1.round", Rows.laid_usher_usherref1_round)] [.data, .data, .data, .data, .data, .data] true :=
  Program.laidByTextLater.sub seatTie1 ["usher/pct.unreserved", "usher/radix.urlLetters", "usher/sums.firstWords", "usher/sums.roundWords", "usher/usherref1.first", "usher/usherref1.round"] (by kernel_rfl) (by kernel_rfl)
theorem grantTicket_row_tie : Rows.grantTicketRow.laidByTextAt .later Tryd.pinned [.data, .data, .data, .data, .data, .data] true :=
  OpenClaim.laidByTextAt_later rfl rfl tie noOwnUnsafe
theorem grantTicketUpto_row_tie : Rows.grantTicketUptoRow.laidByTextAt .later Tryd.pinned [.data, .data, .data, .data, .data, .data] true :=
  OpenClaim.laidByTextAt_later rfl rfl tie noOwnUnsafe
end Go.Proofs.YtkmhhodapnlkiaaDoor
