import Derived.Test.YtdkbjefphihplabDoorListOpen
import Derived.Test.YtdkbjefphihplabDoorSafeLaw
namespace Go.Proofs.YtdkbjefphihplabDoor.fd
open Go.ChangeShapes Go.WideShapes Go.ChangeAt Go.RowKit Go.Joins Go.Deep Go.WideElems Go.Maps Go.Proofs.YtdkbjefphihplabDoor.common Go.Proofs.YtdkbjefphihplabDoor.bk
open Go.Proofs.YtdkbjefphihplabDoor.lst (PB Lies dat)

theorem array6 {α : Type} {cs : Array α} (h : cs.size = 6) : ∃ c0 c1 c2 c3 c4 c5, cs = #[c0, c1, c2, c3, c4, c5] := by
  obtain ⟨l⟩ := cs
  match l, h with
  | [c0, c1, c2, c3, c4, c5], _ => exact ⟨c0, c1, c2, c3, c4, c5, rfl⟩
theorem k_list : Tryd.prog.cellsOf 35 = 1 := by kernel_rfl
theorem k_cookie : Tryd.prog.cellsOf 31 = 3 := by kernel_rfl
theorem k_string : Tryd.prog.cellsOf 9 = 1 := by kernel_rfl
theorem k_int : Tryd.prog.cellsOf 3 = 1 := by kernel_rfl

set_option maxRecDepth 100000 in
theorem wares_of {H : Type} {enc : TypeId × Value → H} {W : World} {r : Reach} {b0 : Nat} {v : Value} {d : DataW H} {p : List MemPlace}
    (hv : Value.okWide Tryd.prog W r b0 37 v) (h : DataW.Trod enc Tryd.prog W 0 (fun _ => true) true 37 v d p) :
    ∃ (c0 : Value) (cn cv u q : ByteArray) (m : Int) (y : DataW H × List MemPlace) (n : Nat), v = .agg #[c0, .string cn, .string cv, .int .i64 m, .string u, .string q] ∧
      d = .agg [y.1, .agg [.lit (.string cn.data.toList), .lit (.string cv.data.toList), .lit (.int .i64 m)], .lit (.string u.data.toList), .lit (.string q.data.toList)] ∧
      DataW.trod enc Tryd.prog W 0 (fun _ => true) true n 35 [c0] = some y ∧ (Lit.int .i64 m).wf = true := by
  obtain ⟨cs, rfl, hsz⟩ := okWide_struct Tryd.underlying37 hv
  obtain ⟨c0, c1, c2, c3, c4, c5, rfl⟩ := array6 (hsz.trans cellsWares)
  obtain ⟨fuel, hf⟩ := h
  obtain ⟨xs, n, _, hx, hl, hlen, hfs⟩ := DataW.trod_struct Tryd.underlying37 hf
  match xs, hlen with
  | [y0, y1, y2, y3], _ =>
    have h0 := hfs 0 _ rfl
    have h1 := hfs 1 _ rfl
    have h2 := hfs 2 _ rfl
    have h3 := hfs 3 _ rfl
    simp only [Value.cells] at h0 h1 h2 h3
    have h0' : DataW.trod enc Tryd.prog W 0 (fun _ => true) true n 35 [c0] = some y0 := h0
    have h1' : DataW.trod enc Tryd.prog W 0 (fun _ => true) true n 31 [c1, c2, c3] = some y1 := h1
    have h2' : DataW.trod enc Tryd.prog W 0 (fun _ => true) true n 9 [c4] = some y2 := h2
    have h3' : DataW.trod enc Tryd.prog W 0 (fun _ => true) true n 9 [c5] = some y3 := h3
    obtain ⟨z0, z1, z2, n2, hz, _, g0, g1, g2⟩ := trod_struct3 Tryd.underlying31 h1'
    simp only [k_string, k_int] at g0 g1 g2
    have g0' : DataW.trod enc Tryd.prog W 0 (fun _ => true) true n2 9 [c1] = some z0 := g0
    have g1' : DataW.trod enc Tryd.prog W 0 (fun _ => true) true n2 9 [c2] = some z1 := g1
    have g2' : DataW.trod enc Tryd.prog W 0 (fun _ => true) true n2 3 [c3] = some z2 := g2
    obtain ⟨cn, e1, rfl, _⟩ := DataW.trod_string Tryd.underlying9 g0'
    obtain ⟨cv, e2, rfl, _⟩ := DataW.trod_string Tryd.underlying9 g1'
    obtain ⟨m, e3, rfl, w3⟩ := DataW.trod_int Tryd.underlying3 g2'
    obtain ⟨u, e4, rfl, _⟩ := DataW.trod_string Tryd.underlying9 h2'
    obtain ⟨q, e5, rfl, _⟩ := DataW.trod_string Tryd.underlying9 h3'
    simp at e1 e2 e3 e4 e5
    subst e1 e2 e3 e4 e5 hz
    simp only [Prod.mk.injEq] at hx
    exact ⟨c0, cn, cv, u, q, m, y0, n, rfl, by simpa using hx.1, h0', w3⟩

theorem bulk_tot {H : Type} (l : List PB) : tot l ≤ 3 * Rows.uptoBulkAll (l.map (dat (H := H))) ∧ l.length ≤ Rows.uptoBulkAll (l.map (dat (H := H))) := by
  induction l with
  | nil => exact ⟨Nat.zero_le _, Nat.zero_le _⟩
  | cons p r ih =>
    have e : Rows.uptoBulkAll ((p :: r).map (dat (H := H))) = Rows.uptoBulk (dat (H := H) p) + Rows.uptoBulkAll (r.map (dat (H := H))) := by
      rw [List.map_cons, Rows.uptoBulkAll]
    have h2 : p.1.size + p.2.size + 1 ≤ Rows.uptoBulk (dat (H := H) p) := by
      unfold dat
      simp only [Rows.uptoBulk, Rows.uptoBulkAll, len_list]
      omega
    rw [e]
    refine ⟨?_, by rw [List.length_cons]; omega⟩
    show p.1.size + p.2.size + 3 + tot r ≤ _
    omega

end Go.Proofs.YtdkbjefphihplabDoor.fd
