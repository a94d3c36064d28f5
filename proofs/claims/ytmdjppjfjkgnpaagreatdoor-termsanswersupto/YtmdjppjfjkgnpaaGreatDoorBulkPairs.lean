import Derived.Test.YtmdjppjfjkgnpaaGreatDoorListOpen
import Derived.Test.YtmdjppjfjkgnpaaGreatDoorFormWalks
namespace Go.Proofs.YtmdjppjfjkgnpaaGreatDoor.pctw
open Go.ChangeShapes Go.WideShapes Go.ChangeAt Go.RowKit Go.Proofs.YtmdjppjfjkgnpaaGreatDoor.common
open Go.Proofs.YtmdjppjfjkgnpaaGreatDoor.lst (PB Lies dat)

theorem bulk_pairs {H : Type} (l : List PB) : tot l + l.length ≤ Rows.uptoBulkAll (l.map (dat (H := H))) := by
  induction l with
  | nil => exact Nat.zero_le _
  | cons p r ih =>
    have e : Rows.uptoBulkAll ((p :: r).map (dat (H := H))) = Rows.uptoBulk (dat (H := H) p) + Rows.uptoBulkAll (r.map (dat (H := H))) := by
      rw [List.map_cons, Rows.uptoBulkAll]
    have h2 : p.1.size + p.2.size + 2 ≤ Rows.uptoBulk (dat (H := H) p) := by
      unfold dat
      simp only [Rows.uptoBulk, Rows.uptoBulkAll, len_list]
      omega
    rw [e]
    show p.1.size + p.2.size + 1 + tot r + (r.length + 1) ≤ _
    omega

end Go.Proofs.YtmdjppjfjkgnpaaGreatDoor.pctw
