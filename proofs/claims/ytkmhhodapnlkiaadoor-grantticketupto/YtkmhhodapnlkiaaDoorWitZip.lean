import Derived.Test.YtkmhhodapnlkiaaDoorListOpen
import Derived.Test.YtkmhhodapnlkiaaDoorFormWalks
import Derived.Test.YtkmhhodapnlkiaaDoorEscWalks
import Derived.Lib.LaidTab
import Derived.Test.YtkmhhodapnlkiaaDoorCommon
import Derived.Lay
import Derived.Deep.DeepWitnessRowRef
namespace Go.Proofs.YtkmhhodapnlkiaaDoor.pctw
open Go.ChangeShapes Go.WideShapes Go.ChangeAt Go.RowKit Go.Proofs.YtkmhhodapnlkiaaDoor.common
open Go.Proofs.YtkmhhodapnlkiaaDoor.lst (PB Lies dat)

theorem bulk_pairs {H : Type} (l : List PB) : tot l + l.length ≤ Rows.uptoBulkAll (l.map (dat (H := H))) := by
  induction l with
  | nil => exact Nat.zero_le _
  | cons p r ih =>
    have e : Rows.uptoBulkAll ((p :: r).map (dat (H := H))) = Rows.uptoBulk (dat (H := H) p) + Rows.uptoBulkAll (r.map (dat (H := H))) := by
      rw [List.map_cons, Rows.uptoBulkAll]
    have h2 : p.1.size + p.2.size + 2 ≤ Rows.uptoBulk (dat (H := H) p) := by
      unfold dat
      simp only [Rows.uptoBulk, Rows.uptoBulkAll, len_list]
      omega
    rw [e]
    show p.1.size + p.2.size + 1 + tot r + (r.length + 1) ≤ _
    omega

end Go.Proofs.YtkmhhodapnlkiaaDoor.pctw

namespace Go.Proofs.YtkmhhodapnlkiaaDoor.pctw
open Go.ChangeShapes Go.WideShapes Go.ChangeAt Go.RowKit Go.Proofs.YtkmhhodapnlkiaaDoor.common

theorem cells64 : Tryd.prog.cellsOf 39 = 1 := by kernel_rfl
theorem tabG : Tryd.prog.globalNamed "usher/pct.unreserved" = some 4 := by kernel_rfl
theorem tabType : (Tryd.prog.globals[4]?).map (·.type) = some 68 := by kernel_rfl
theorem tabCells : Tryd.prog.cellsOf 68 = 4 := by kernel_rfl
theorem tab_of_laid {W : World} {rest : List (String × DataW Unit)} (h : laidMet Tryd.prog (("usher/pct.unreserved", Rows.laid_usher_pct_unreserved) :: rest) W) : Tab W := by
  have t : Lib.TabIs Tryd.prog W "usher/pct.unreserved" .u64 [288054454291267584, 5188146764422578174, 0, 0] :=
    Lib.tabIs_of_head (rest := rest) tabG tabType Tryd.underlying68 Tryd.underlying39 cells64 tabCells h
  intro i hi
  rw [t.cell tabG i (by simpa using hi)]
  match i, hi with
  | 0, _ => rfl
  | 1, _ => rfl
  | 2, _ => rfl
  | 3, _ => rfl

end Go.Proofs.YtkmhhodapnlkiaaDoor.pctw

namespace Go.Proofs.YtkmhhodapnlkiaaDoor.fd
open Go
section
variable {H : Type} {enc : TypeId × Value → H}
/-- there is an input that fits, at a world whose shape is told in one pass -/
theorem witness_row_zip {C : Checked} {os : Os} {f : FuncId} {fn : Func} {s : OpenSpec} {conds : List PathCond} {apart : Bool} {laid : List (String × DataW Unit)} (modest : Bool) (w0 : World) (args : Array Value) (hos : w0.os = os)
    (hv : (w0.forCall (fun _ _ => 0) ⟨#[], args, []⟩).variablesZipB C.prog = true)
    (hr : ((w0.forCall (fun _ _ => 0) ⟨#[], args, []⟩).heap.toList.drop C.prog.globals.size).take ((begin C.prog (fun _ _ => 0) default).world.heap.size - C.prog.globals.size) =
      (begin C.prog (fun _ _ => 0) default).world.heap.toList.drop C.prog.globals.size)
    (hok : Input.okWideB C.prog (w0.forCall (fun _ _ => 0) ⟨#[], args, []⟩) f ⟨#[], args, []⟩ = true)
    (hrow : s.preRow enc C.prog fn conds apart laid (w0.forCall (fun _ _ => 0) ⟨#[], args, []⟩).memory args) :
    ∃ (w : World) (tape : Tape) (i : Input), w.os = os ∧ (w.forCall tape i).Shaped C.prog ∧ i.vars = [] ∧ Input.okWide C.prog (w.forCall tape i) .any w.heap.size f i ∧
      s.preRow enc C.prog fn conds apart laid (w.forCall tape i).memory i.args ∧ ({ modest := modest } : Assume).holds C.prog (lone (Frame.enter C.prog f i.args .normal) [] (w.forCall tape i)) :=
  ⟨w0, fun _ _ => 0, ⟨#[], args, []⟩, hos, World.shaped_of_ZipB hv hr, (Input.okWide_of_okWideB (base := 0) hok).1, (Input.okWide_of_okWideB hok).2, hrow, by
    simp only [Assume.holds]
    exact ⟨by simp, by simp, fun _ => Modest.zero, by simp, by simp⟩⟩
end
end Go.Proofs.YtkmhhodapnlkiaaDoor.fd
