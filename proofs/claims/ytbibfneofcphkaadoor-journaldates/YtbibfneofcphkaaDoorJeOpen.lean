import Derived.Test.YtbibfneofcphkaaDoorJeD1
namespace Go.Proofs.YtbibfneofcphkaaDoor.je
open Go.ChangeShapes Go.WideShapes Go.ChangeAt Go.RowKit Go.Proofs.YtbibfneofcphkaaDoor.common Go.Proofs.YtbibfneofcphkaaDoor.Jc Go.Proofs.YtbibfneofcphkaaDoor.jc
open Go.Shelf Go.Lib
theorem dtC : Tryd.prog.cellsOf 54 = 2 := by kernel_rfl
set_option maxRecDepth 100000 in
theorem dated_of {H : Type} {enc : TypeId × Value → H} {w : World} {base b0 : Nat} {spare : Nat → Bool} {held : Bool} {r : Reach} {v : Value} {D : DataW H} {p : List MemPlace} (hv : Value.okWide Tryd.prog w r b0 54 v) (h : DataW.Trod enc Tryd.prog w base spare held 54 v D p) :
    ∃ (s : ByteArray) (n : Int), v = .agg #[.string s, .int .i64 n] := by
  obtain ⟨cs, rfl, hsz⟩ := okWide_struct Tryd.underlying54 hv
  obtain ⟨c0, c1, rfl⟩ : ∃ c0 c1, cs = #[c0, c1] := by
    obtain ⟨l⟩ := cs
    match l, hsz.trans dtC with
    | [c0, c1], _ => exact ⟨c0, c1, rfl⟩
  obtain ⟨fuel, hf⟩ := h
  obtain ⟨xs, n, _, hx, hl, hlen, hfs⟩ := DataW.trod_struct Tryd.underlying54 hf
  match xs, hlen with
  | [y0, y1], _ =>
    have h0' : DataW.trod enc Tryd.prog w base spare held n 9 (([c0, c1].drop 0).take (Tryd.prog.cellsOf 9)) = some y0 := hfs 0 _ rfl
    have h1' : DataW.trod enc Tryd.prog w base spare held n 3 (([c0, c1].drop 1).take (Tryd.prog.cellsOf 3)) = some y1 := hfs 1 _ rfl
    rw [strC] at h0'
    rw [intC] at h1'
    obtain ⟨z, ez, _⟩ := DataW.trod_string Tryd.underlying9 h0'
    obtain ⟨k, ek, _⟩ := DataW.trod_int Tryd.underlying3 h1'
    simp at ez ek
    exact ⟨z, k, by rw [ez, ek]⟩
theorem wfG : Tryd.prog.globalNamed "usher/journal.weekdaysInFull" = some 20 := by kernel_rfl
theorem wfTy : (Tryd.prog.globals[20]?).map (·.type) = some 60 := by kernel_rfl
theorem wf_is : (Rows.laid_usher_journal_weekdaysInFull : DataW Unit) = .agg (wdF.map fun l => .lit (.string l)) := by kernel_rfl
theorem ftab_of {w : World} {l : List (String × DataW Unit)} (h : laidMet Tryd.prog l w) (h1 : ("usher/journal.weekdaysInFull", Rows.laid_usher_journal_weekdaysInFull) ∈ l) : FTab w := fun i hi => by
  have a := laidMet.reads h h1
  rw [wf_is] at a
  exact txt_at (N := 7) rfl wfG wfTy Tryd.underlying60 a i hi
theorem lnG : Tryd.prog.globalNamed "usher/usherref21.longNames" = some 8 := by kernel_rfl
theorem lnTy : (Tryd.prog.globals[8]?).map (·.type) = some 60 := by kernel_rfl
theorem ln_is : (Rows.laid_usher_usherref21_longNames : DataW Unit) = .agg (wdF.map fun l => .lit (.string l)) := by kernel_rfl
theorem lgt_of {w : World} {l : List (String × DataW Unit)} (h : laidMet Tryd.prog l w) (h1 : ("usher/usherref21.longNames", Rows.laid_usher_usherref21_longNames) ∈ l) : LgT w := fun i hi => by
  have a := laidMet.reads h h1
  rw [ln_is] at a
  exact txt_at (N := 7) rfl lnG lnTy Tryd.underlying60 a i hi
end Go.Proofs.YtbibfneofcphkaaDoor.je
