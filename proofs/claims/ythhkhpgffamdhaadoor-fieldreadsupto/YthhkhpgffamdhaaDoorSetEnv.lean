import Derived.Test.YthhkhpgffamdhaaDoorSeemW
import Derived.Test.YthhkhpgffamdhaaDoorSetPow
import Derived.Test.YthhkhpgffamdhaaDoorErrWalks
import Derived.Lib.SmallJoins
namespace Go.Proofs.YthhkhpgffamdhaaDoor.fd
open Go.ChangeShapes Go.WideShapes Go.ChangeAt Go.RowKit Go.Joins Go.Deep Go.WideElems Go.Maps Go.Proofs.YthhkhpgffamdhaaDoor.common Go.Proofs.YthhkhpgffamdhaaDoor.bk

theorem sent_head {w : World} {n : String} {text : List UInt8} {g : Nat} {rest : List (String × DataW Unit)} (h : laidMet Tryd.prog ((n, .iface "*errors.errorString" (.ptr (.agg [.lit (.string text)]))) :: rest) w)
    (hg : Tryd.prog.globalNamed n = some g) (ht : (Tryd.prog.globals[g]?).map (·.type) = some 28) : ∃ a, w.cell? ⟨g, 0, none⟩ = some (X a) := by
  obtain ⟨ps, h0, hnd, hrows⟩ := h
  obtain ⟨a0, q0, c0, _, _⟩ := errw.peel h0 hrows hg ht Tryd.underlying28 errw.rowErr Tryd.underlying172 Tryd.underlying174 rfl rfl Tryd.underlying9 errw.cellsErr errw.cellsStr
  exact ⟨a0, c0⟩
theorem synG : Tryd.prog.globalNamed "strconv.ErrSyntax" = some 18 := by kernel_rfl
theorem synT : (Tryd.prog.globals[18]?).map (·.type) = some 28 := by kernel_rfl
theorem rngG : Tryd.prog.globalNamed "strconv.ErrRange" = some 19 := by kernel_rfl
theorem rngT : (Tryd.prog.globals[19]?).map (·.type) = some 28 := by kernel_rfl
/-- all that the readers of cookies lean on -/
theorem env6_of {w : World} {rest : List (String × DataW Unit)} (h : laidMet Tryd.prog (("internal/strconv.uint64pow10", Rows.laid_internal_strconv_uint64pow10) :: ("strconv.ErrRange", Rows.laid_strconv_ErrRange) :: ("strconv.ErrSyntax", Rows.laid_strconv_ErrSyntax) :: rest) w) (hs : w.ShapedOpen Tryd.prog) (ea : Addr) (he : w.cell? ⟨0, 0, none⟩ = some (X ea)) : Env6 w ea := by
  obtain ⟨ar, hr⟩ := sent_head h.tail rngG rngT
  obtain ⟨ay, hy⟩ := sent_head h.tail.tail synG synT
  exact ⟨pow_head h, he, jl.lays145.s1_3 w hs, ⟨_, _, hy⟩, ⟨_, _, hr⟩⟩

theorem array4J {α : Type} {cs : Array α} (h : cs.size = 4) : ∃ c0 c1 c2 c3, cs = #[c0, c1, c2, c3] := by
  obtain ⟨l⟩ := cs
  match l, h with
  | [c0, c1, c2, c3], _ => exact ⟨c0, c1, c2, c3, rfl⟩
theorem cellsJar : Tryd.prog.cellsOf 54 = 4 := by kernel_rfl
theorem k_cookieJ : Tryd.prog.cellsOf 52 = 3 := by kernel_rfl
theorem k_stringJ : Tryd.prog.cellsOf 9 = 1 := by kernel_rfl
theorem k_intJ : Tryd.prog.cellsOf 3 = 1 := by kernel_rfl
set_option maxRecDepth 100000 in
theorem jar_of {H : Type} {enc : TypeId × Value → H} {W : World} {r : Reach} {b0 : Nat} {v : Value} {d : DataW H} {p : List MemPlace}
    (hv : Value.okWide Tryd.prog W r b0 54 v) (h : DataW.Trod enc Tryd.prog W 0 (fun _ => true) true 54 v d p) :
    ∃ (cn cv u : ByteArray) (m : Int), v = .agg #[.string cn, .string cv, .int .i64 m, .string u] ∧
      d = .agg [.agg [.lit (.string cn.data.toList), .lit (.string cv.data.toList), .lit (.int .i64 m)], .lit (.string u.data.toList)] ∧ (Lit.int .i64 m).wf = true := by
  obtain ⟨cs, rfl, hsz⟩ := okWide_struct Tryd.underlying54 hv
  obtain ⟨c1, c2, c3, c4, rfl⟩ := array4J (hsz.trans cellsJar)
  obtain ⟨fuel, hf⟩ := h
  obtain ⟨xs, n, _, hx, hl, hlen, hfs⟩ := DataW.trod_struct Tryd.underlying54 hf
  match xs, hlen with
  | [y1, y2], _ =>
    have h1 := hfs 0 _ rfl
    have h2 := hfs 1 _ rfl
    simp only [Value.cells] at h1 h2
    have h1' : DataW.trod enc Tryd.prog W 0 (fun _ => true) true n 52 [c1, c2, c3] = some y1 := h1
    have h2' : DataW.trod enc Tryd.prog W 0 (fun _ => true) true n 9 [c4] = some y2 := h2
    obtain ⟨z0, z1, z2, n2, hz, _, g0, g1, g2⟩ := trod_struct3 Tryd.underlying52 h1'
    simp only [k_stringJ, k_intJ] at g0 g1 g2
    have g0' : DataW.trod enc Tryd.prog W 0 (fun _ => true) true n2 9 [c1] = some z0 := g0
    have g1' : DataW.trod enc Tryd.prog W 0 (fun _ => true) true n2 9 [c2] = some z1 := g1
    have g2' : DataW.trod enc Tryd.prog W 0 (fun _ => true) true n2 3 [c3] = some z2 := g2
    obtain ⟨cn, e1, rfl, _⟩ := DataW.trod_string Tryd.underlying9 g0'
    obtain ⟨cv, e2, rfl, _⟩ := DataW.trod_string Tryd.underlying9 g1'
    obtain ⟨m, e3, rfl, w3⟩ := DataW.trod_int Tryd.underlying3 g2'
    obtain ⟨u, e4, rfl, _⟩ := DataW.trod_string Tryd.underlying9 h2'
    simp at e1 e2 e3 e4
    subst e1 e2 e3 e4 hz
    simp only [Prod.mk.injEq] at hx
    exact ⟨cn, cv, u, m, rfl, by simpa using hx.1, w3⟩

end Go.Proofs.YthhkhpgffamdhaaDoor.fd
