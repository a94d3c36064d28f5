import Derived.Test.YtlefalplljgkeaaGreatDoorRows
import Derived.Test.YtlefalplljgkeaaGreatDoorMRanges
import Derived.WalkKit
import Derived.WalkSpells
import Derived.WalkLawsBesides
import Derived.LaidLaws
import Derived.LaidEql
import Derived.Stop.LaidErr
namespace Go.Proofs.YtlefalplljgkeaaGreatDoor.errw
open Go.ChangeShapes Go.WideShapes Go.ChangeAt Go.RowKit Go.Proofs.YtlefalplljgkeaaGreatDoor.common

/-- ONE SENTINEL TAKEN OFF THE LIST. -/
theorem peel {P : Program} {W : World} {n nm : String} {text : List UInt8} {r : List (String × DataW Unit)} {ps : List MemPlace} {g : Nat} {ti tp te ts : TypeId} {ms : Array (String × TypeId)} {f : Field}
    (h : DataW.LaidVars P W ((n, .iface nm (.ptr (.agg [.lit (.string text)]))) :: r) ps)
    (hrows : ∀ b off, MemPlace.cell b off ∈ ps → (∃ c t, W.heap[b]? = some (.cells c t (0, 0))) ∧ ∀ u v, W.cell? ⟨b, off, none⟩ = some (.iface u v) → Value.okWide P W .any 0 u v)
    (hg : P.globalNamed n = some g) (ht : (P.globals[g]?).map (·.type) = some ti) (hi : P.underlying ti = some (.interface ms)) (hrow : ∀ u, P.typeName? 3 u = some nm → u = tp)
    (hp : P.underlying tp = some (.pointer te)) (he : P.underlying te = some (.struct #[f])) (hft : f.type = ts) (hfo : f.offset = 0) (hs : P.underlying ts = some .string) (hc : P.cellsOf te = 1) (hcs : P.cellsOf ts = 1) :
    ∃ (a : Addr) (q : List MemPlace), W.cell? ⟨g, 0, none⟩ = some (.iface tp (.pointer (some a))) ∧ DataW.LaidVars P W r q ∧ ps = MemPlace.cell g 0 :: MemPlace.cell a.block a.off :: q := by
  obtain ⟨g0, t0, cs0, f0, p0, q0, hg0, ht0, hv0, hd0, hr0, e0⟩ := h
  obtain rfl := Option.some.inj (hg.symm.trans hg0)
  obtain rfl := Option.some.inj (ht.symm.trans ht0)
  subst e0
  obtain ⟨l0⟩ := cs0
  have ok0 : ∀ u v, l0 = [.iface u v] → Value.okWide P W .any 0 u v := fun u v e => by
    subst e
    exact (hrows g 0 (by simp [MemPlace.row])).2 u v (by simpa using World.var?_cell hg0 hv0 0)
  obtain ⟨a0, s0, rfl, hc0, hs0, hz0, rfl⟩ := errorString_of_trod hi hrow hp he hft hfo hs hc hcs hd0 ok0
  exact ⟨a0, q0, by simpa using World.var?_cell hg0 hv0 0, hr0, by simp [MemPlace.row]⟩

theorem star : "*" ++ "errors.errorString" = "*errors.errorString" := by decide
theorem rowErr (u : TypeId) (h : Tryz.prog.typeName? 3 u = some "*errors.errorString") : u = 209 :=
  typeName_ptr_named (nm := "errors.errorString") (by rw [star]; kernel_rfl) (by kernel_rfl) (by decide) u (by rw [star]; exact h)
theorem cellsErr : Tryz.prog.cellsOf 211 = 1 := by kernel_rfl
theorem cellsStr : Tryz.prog.cellsOf 9 = 1 := by kernel_rfl
theorem compErr : (Tryz.prog.info? 209).map (·.comparable) = some true := by kernel_rfl
theorem sizeErr : (Tryz.prog.info? 211).map (·.size) = some 1 := by kernel_rfl
theorem g1 : Tryz.prog.globalNamed "usher/api.ErrText" = some 0 := by kernel_rfl
theorem t1 : (Tryz.prog.globals[0]?).map (·.type) = some 32 := by kernel_rfl
theorem g2 : Tryz.prog.globalNamed "usher/api.ErrMany" = some 1 := by kernel_rfl
theorem t2 : (Tryz.prog.globals[1]?).map (·.type) = some 32 := by kernel_rfl
theorem g11 : Tryz.prog.globalNamed "usher/api.ErrLost" = some 2 := by kernel_rfl
theorem t11 : (Tryz.prog.globals[2]?).map (·.type) = some 32 := by kernel_rfl
abbrev E (e : Nat → Addr) (i : Nat) : Value := .iface 209 (.pointer (some (e i)))

end Go.Proofs.YtlefalplljgkeaaGreatDoor.errw
