import Derived.Test.YtlbhiefamnpphaaDoorJfW5
import Derived.Test.YtlbhiefamnpphaaDoorJdOpen
namespace Go.Proofs.YtlbhiefamnpphaaDoor.jf
open Go.ChangeShapes Go.WideShapes Go.ChangeAt Go.RowKit Go.Proofs.YtlbhiefamnpphaaDoor.common Go.Proofs.YtlbhiefamnpphaaDoor.Jc Go.Proofs.YtlbhiefamnpphaaDoor.jc Go.Proofs.YtlbhiefamnpphaaDoor.je
open Go.Shelf Go.Lib
theorem spC : Tryd.prog.cellsOf 23 = 3 := by kernel_rfl
set_option maxRecDepth 100000 in
theorem spoken_of {H : Type} {enc : TypeId × Value → H} {w : World} {base b0 : Nat} {spare : Nat → Bool} {held : Bool} {r : Reach} {v : Value} {D : DataW H} {p : List MemPlace} (hv : Value.okWide Tryd.prog w r b0 23 v) (h : DataW.Trod enc Tryd.prog w base spare held 23 v D p) :
    ∃ a n k : Int, v = .agg #[.int .i64 a, .int .i64 n, .int .i64 k] := by
  obtain ⟨cs, rfl, hsz⟩ := okWide_struct Tryd.underlying23 hv
  obtain ⟨c0, c1, c2, rfl⟩ : ∃ c0 c1 c2, cs = #[c0, c1, c2] := by
    obtain ⟨l⟩ := cs
    match l, hsz.trans spC with
    | [c0, c1, c2], _ => exact ⟨c0, c1, c2, rfl⟩
  obtain ⟨fuel, hf⟩ := h
  obtain ⟨xs, n, _, hx, hl, hlen, hfs⟩ := DataW.trod_struct Tryd.underlying23 hf
  match xs, hlen with
  | [y0, y1, y2], _ =>
    have h0' : DataW.trod enc Tryd.prog w base spare held n 3 (([c0, c1, c2].drop 0).take (Tryd.prog.cellsOf 3)) = some y0 := hfs 0 _ rfl
    have h1' : DataW.trod enc Tryd.prog w base spare held n 3 (([c0, c1, c2].drop 1).take (Tryd.prog.cellsOf 3)) = some y1 := hfs 1 _ rfl
    have h2' : DataW.trod enc Tryd.prog w base spare held n 3 (([c0, c1, c2].drop 2).take (Tryd.prog.cellsOf 3)) = some y2 := hfs 2 _ rfl
    rw [intC] at h0' h1' h2'
    obtain ⟨a, ea, _⟩ := DataW.trod_int Tryd.underlying3 h0'
    obtain ⟨b, eb, _⟩ := DataW.trod_int Tryd.underlying3 h1'
    obtain ⟨c, ec, _⟩ := DataW.trod_int Tryd.underlying3 h2'
    simp at ea eb ec
    exact ⟨a, b, c, by rw [ea, eb, ec]⟩
theorem wfG : Tryd.prog.globalNamed "usher/journal.weekdaysInFull" = some 6 := by kernel_rfl
theorem wfTy : (Tryd.prog.globals[6]?).map (·.type) = some 43 := by kernel_rfl
theorem wf_is : (Rows.laid_usher_journal_weekdaysInFull : DataW Unit) = .agg (wdF.map fun l => .lit (.string l)) := by kernel_rfl
theorem ftab_of {w : World} {l : List (String × DataW Unit)} (h : laidMet Tryd.prog l w) (h1 : ("usher/journal.weekdaysInFull", Rows.laid_usher_journal_weekdaysInFull) ∈ l) : FTab w := fun i hi => by
  have a := laidMet.reads h h1
  rw [wf_is] at a
  exact txt_at (N := 7) rfl wfG wfTy Tryd.underlying43 a i hi
theorem lfG : Tryd.prog.globalNamed "usher/usherlaw21.longNames" = some 1 := by kernel_rfl
theorem lfTy : (Tryd.prog.globals[1]?).map (·.type) = some 43 := by kernel_rfl
theorem lf_is : (Rows.laid_usher_usherlaw21_longNames : DataW Unit) = .agg (wdF.map fun l => .lit (.string l)) := by kernel_rfl
theorem lftab_of {w : World} {l : List (String × DataW Unit)} (h : laidMet Tryd.prog l w) (h1 : ("usher/usherlaw21.longNames", Rows.laid_usher_usherlaw21_longNames) ∈ l) : LfT w := fun i hi => by
  have a := laidMet.reads h h1
  rw [lf_is] at a
  exact txt_at (N := 7) rfl lfG lfTy Tryd.underlying43 a i hi
open Go.Proofs.YtlbhiefamnpphaaDoor.errw in
theorem text_of {W : World} {rest : List (String × DataW Unit)} (h : laidMet Tryd.prog (("usher/api.ErrArg", Rows.laid_usher_api_ErrArg) :: ("usher/api.ErrText", Rows.laid_usher_api_ErrText) :: rest) W) : ∃ e : Value, W.cell? ⟨2, 0, none⟩ = some e := by
  obtain ⟨ps, h0, hnd, hrows⟩ := h
  obtain ⟨a0, q0, c0, h1, rfl⟩ := peel h0 (fun b off hm => hrows b off (by simp [hm])) g0 t0 Tryd.underlying28 rowErr Tryd.underlying109 Tryd.underlying124 rfl rfl Tryd.underlying9 cellsErr cellsStr
  obtain ⟨a1, q1, c1, h2, rfl⟩ := peel h1 (fun b off hm => hrows b off (by simp [hm])) g1 t1 Tryd.underlying28 rowErr Tryd.underlying109 Tryd.underlying124 rfl rfl Tryd.underlying9 cellsErr cellsStr
  exact ⟨_, c1⟩
end Go.Proofs.YtlbhiefamnpphaaDoor.jf
