import Derived.Test.YtjalggkhpnfbiaaDoorBEscWalks
import Derived.Lib.LaidTab
import Derived.Test.YtjalggkhpnfbiaaDoorBSentKey
import Derived.Deep.Slices
import Derived.Lib.SmallJoins
import Derived.Test.YtjalggkhpnfbiaaDoorBFormWalks
import Derived.Test.YtjalggkhpnfbiaaDoorBBrWalk
import Derived.Test.YtjalggkhpnfbiaaDoorBErrWalks
import Derived.Test.YtjalggkhpnfbiaaDoorBPageEsc
import Derived.LaidLaws
import Derived.Stop.LaidErr
import Derived.Lib.LaidU8
import Derived.Test.YtjalggkhpnfbiaaDoorBPageMath
import Derived.Lay
import Derived.Deep.DeepWitnessRowRef
namespace Go.Proofs.YtjalggkhpnfbiaaDoor.pctw
open Go.ChangeShapes Go.WideShapes Go.ChangeAt Go.RowKit Go.Proofs.YtjalggkhpnfbiaaDoor.common

theorem cells64 : Tryd.prog.cellsOf 119 = 1 := by kernel_rfl
theorem tabG : Tryd.prog.globalNamed "usher/pct.unreserved" = some 3 := by kernel_rfl
theorem tabType : (Tryd.prog.globals[3]?).map (·.type) = some 120 := by kernel_rfl
theorem tabCells : Tryd.prog.cellsOf 120 = 4 := by kernel_rfl
theorem tab_of_laid {W : World} {rest : List (String × DataW Unit)} (h : laidMet Tryd.prog (("usher/pct.unreserved", Rows.laid_usher_pct_unreserved) :: rest) W) : Tab W := by
  have t : Lib.TabIs Tryd.prog W "usher/pct.unreserved" .u64 [288054454291267584, 5188146764422578174, 0, 0] :=
    Lib.tabIs_of_head (rest := rest) tabG tabType Tryd.underlying120 Tryd.underlying119 cells64 tabCells h
  intro i hi
  rw [t.cell tabG i (by simpa using hi)]
  match i, hi with
  | 0, _ => rfl
  | 1, _ => rfl
  | 2, _ => rfl
  | 3, _ => rfl

end Go.Proofs.YtjalggkhpnfbiaaDoor.pctw

namespace Go.Proofs.YtjalggkhpnfbiaaDoor.lst
open Go.ChangeShapes Go.WideShapes Go.ChangeAt Go.RowKit Go.Joins Go.Deep Go.WideElems Go.Maps Go.Proofs.YtjalggkhpnfbiaaDoor.common

theorem weightsAll_mem {H : Type} {P : Program} {e : TypeId} {p : Nat → Bool} : ∀ (l : List (DataW H)), (DataW.weightsAll P e l).all p = true → ∀ d ∈ l, (d.weights P e).all p = true
  | [], _, d, hd => by cases hd
  | x :: r, h, d, hd => by
    rw [DataW.weightsAll, List.all_append, Bool.and_eq_true] at h
    rcases List.mem_cons.1 hd with rfl | hd
    · exact h.1
    · exact weightsAll_mem r h.2 d hd

theorem cellsPair : Tryd.prog.cellsOf 66 = 2 := by kernel_rfl
theorem bytesPair : Tryd.prog.bytesOf 66 = 32 := by kernel_rfl

/-- a pair as it is read -/
def dat {H : Type} (p : PB) : DataW H := .agg [.lit (.string p.1.data.toList), .lit (.string p.2.data.toList)]

set_option maxRecDepth 100000 in
theorem pairs_of {H : Type} {enc : TypeId × Value → H} {W : World} {fuel : Nat} {v : Value} {d : DataW H} {pl : List MemPlace}
    (h : DataW.trod enc Tryd.prog W 0 (fun _ => true) true fuel 43 [v] = some (d, pl)) (hsz : (d.weights Tryd.prog 43).all (· ≤ reachBytes) = true) :
    ∃ l, Lies W v l ∧ l.length * 32 ≤ reachBytes ∧ (∀ p ∈ l, p.1.size ≤ reachBytes ∧ p.2.size ≤ reachBytes) ∧ ((d = .nil ∧ l = []) ∨ ∃ sp, d = .slice (l.map dat) sp) := by
  rcases Deep.open_slice Tryd.underlying43 h with ⟨hcs, hx⟩ | ⟨a, len, cap, m, n, D, Pl, hcs, hb, hl, hm, hmm, hx, hall⟩
  · obtain rfl : v = .slice none 0 0 := by simpa using hcs
    exact ⟨[], ⟨none, 0, rfl, fun i hi => absurd hi (Nat.not_lt_zero _)⟩, by decide, fun p hp => (by cases hp), Or.inl ⟨(Prod.mk.inj hx).1, rfl⟩⟩
  · obtain rfl : v = .slice (some a) len cap := by simpa using hcs
    have hd : d = .slice ((List.range len).map D) ((List.range (m - len)).map fun j => D (len + j)) := (Prod.mk.inj hx).1
    subst hd
    simp only [DataW.weights, Tryd.underlying43, List.all_cons, List.all_append, Bool.and_eq_true] at hsz
    have each : ∀ i, ∃ p : PB, i < len → D i = dat p ∧ p.1.size ≤ reachBytes ∧ p.2.size ≤ reachBytes ∧ ∃ b o, a = ⟨b, o, none⟩ ∧ b < W.heap.size ∧ W.cell? ⟨b, o + i * 2, none⟩ = some (.string p.1) ∧ W.cell? ⟨b, o + i * 2 + 1, none⟩ = some (.string p.2) := by
      intro i
      by_cases hi : i < len
      · have hwi := weightsAll_mem _ hsz.2.1 (D i) (List.mem_map.2 ⟨i, List.mem_range.2 hi, rfl⟩)
        obtain ⟨cs', h1, h2⟩ := hall i (by rw [hmm]; simp; omega)
        rw [cellsPair] at h1
        obtain ⟨_, hlen, hcell⟩ := World.cells?_some h1
        match cs', hlen with
        | [v0, v1], _ =>
          obtain ⟨y0, y1, n', hxy, _, t0, t1⟩ := trod_struct2 Tryd.underlying66 h2
          have t0' : DataW.trod enc Tryd.prog W 0 (fun _ => true) true n' 9 [v0] = some y0 := by rw [← t0]; rfl
          have t1' : DataW.trod enc Tryd.prog W 0 (fun _ => true) true n' 9 [v1] = some y1 := by rw [← t1]; rfl
          obtain ⟨s, es, rfl, _⟩ := DataW.trod_string Tryd.underlying9 t0'
          obtain ⟨t, et, rfl, _⟩ := DataW.trod_string Tryd.underlying9 t1'
          simp at es et
          subst es et
          have hDi : D i = dat (s, t) := (Prod.mk.inj hxy).1
          rw [hDi] at hwi
          have hts : s.size ≤ reachBytes ∧ t.size ≤ reachBytes := by
            simp [dat, DataW.weights, DataW.weightsEach, Tryd.underlying66] at hwi
            simpa using hwi
          have c0 := hcell 0 (by decide)
          have c1 := hcell 1 (by decide)
          have hsp : a.spot = none := by
            have q0 := hall 0 (by rw [hmm]; simp; omega)
            obtain ⟨cs0, g1, _⟩ := q0
            rw [cellsPair] at g1
            obtain ⟨_, hlen0, hcell0⟩ := World.cells?_some g1
            have g2 := hcell0 0 (by decide)
            rw [List.getElem?_eq_getElem (by omega)] at g2
            have := World.cell?_spot g2
            simpa [Addr.add] using this
          obtain ⟨b, o, sp⟩ := a
          simp at hsp
          subst hsp
          rw [Addr.add_mid, Addr.add_mid] at c0 c1
          have c0' : W.cell? ⟨b, o + i * 2, none⟩ = some (.string s) := by simpa using c0
          exact ⟨(s, t), fun _ => ⟨hDi, hts.1, hts.2, b, o, rfl, World.block_lt_of_cell? W _ c0', c0', by simpa using c1⟩⟩
      · exact ⟨(ByteArray.empty, ByteArray.empty), fun h => absurd h hi⟩
    obtain ⟨f, hf⟩ := Classical.axiomOfChoice each
    have hlen : ((List.range len).map f).length = len := by simp
    refine ⟨(List.range len).map f, ⟨some a, cap, by rw [hlen], fun i hi => ?_⟩, ?_, ?_, Or.inr ⟨(List.range (m - len)).map fun j => D (len + j), ?_⟩⟩
    · rw [hlen] at hi
      obtain ⟨_, _, _, b, o, rfl, hb, c0, c1⟩ := hf i hi
      exact ⟨b, o, rfl, hb, by simpa using c0, by simpa using c1⟩
    · rw [hlen]
      have h1 := hsz.1
      rw [bytesPair] at h1
      simp at h1
      omega
    · intro p hp
      obtain ⟨i, hi, rfl⟩ := List.mem_map.1 hp
      exact ⟨(hf i (List.mem_range.1 hi)).2.1, (hf i (List.mem_range.1 hi)).2.2.1⟩
    · congr 1
      rw [List.map_map]
      apply List.map_congr_left
      intro i hi
      exact (hf i (List.mem_range.1 hi)).1

end Go.Proofs.YtjalggkhpnfbiaaDoor.lst

namespace Go.Proofs.YtjalggkhpnfbiaaDoor.pctw
open Go.ChangeShapes Go.WideShapes Go.ChangeAt Go.RowKit Go.Proofs.YtjalggkhpnfbiaaDoor.common
open Go.Proofs.YtjalggkhpnfbiaaDoor.lst (PB Lies dat)

theorem bulk_pairs {H : Type} (l : List PB) : tot l + l.length ≤ Rows.uptoBulkAll (l.map (dat (H := H))) := by
  induction l with
  | nil => exact Nat.zero_le _
  | cons p r ih =>
    have e : Rows.uptoBulkAll ((p :: r).map (dat (H := H))) = Rows.uptoBulk (dat (H := H) p) + Rows.uptoBulkAll (r.map (dat (H := H))) := by
      rw [List.map_cons, Rows.uptoBulkAll]
    have h2 : p.1.size + p.2.size + 2 ≤ Rows.uptoBulk (dat (H := H) p) := by
      unfold dat
      simp only [Rows.uptoBulk, Rows.uptoBulkAll, len_list]
      omega
    rw [e]
    show p.1.size + p.2.size + 1 + tot r + (r.length + 1) ≤ _
    omega

end Go.Proofs.YtjalggkhpnfbiaaDoor.pctw

namespace Go.Proofs.YtjalggkhpnfbiaaDoor.br
open Go.ChangeShapes Go.WideShapes Go.ChangeAt Go.RowKit Go.Proofs.YtjalggkhpnfbiaaDoor.common
open Go.Proofs.YtjalggkhpnfbiaaDoor.lst (PB)
theorem sent_head {w : World} {n : String} {text : List UInt8} {g : Nat} {rest : List (String × DataW Unit)} (h : laidMet Tryd.prog ((n, .iface "*errors.errorString" (.ptr (.agg [.lit (.string text)]))) :: rest) w)
    (hg : Tryd.prog.globalNamed n = some g) (ht : (Tryd.prog.globals[g]?).map (·.type) = some 33) : ∃ a, w.cell? ⟨g, 0, none⟩ = some (pctw.X a) := by
  obtain ⟨ps, h0, hnd, hrows⟩ := h
  obtain ⟨a0, q0, c0, _, _⟩ := errw.peel h0 hrows hg ht Tryd.underlying33 errw.rowErr Tryd.underlying141 Tryd.underlying156 rfl rfl Tryd.underlying9 errw.cellsErr errw.cellsStr
  exact ⟨a0, c0⟩
theorem env_of_laid {W : World} {rest : List (String × DataW Unit)} (h : laidMet Tryd.prog (("unicode/utf8.acceptRanges", Rows.laid_unicode_utf8_acceptRanges) :: ("usher/api.ErrArg", Rows.laid_usher_api_ErrArg) :: ("usher/api.ErrText", Rows.laid_usher_api_ErrText) :: ("usher/api.ErrMany", Rows.laid_usher_api_ErrMany) :: ("usher/page.escapes", Rows.laid_usher_page_escapes) :: ("usher/pct.unreserved", Rows.laid_usher_pct_unreserved) :: rest) W) :
    ∃ (eA : Value) (ea em : Addr), W.cell? ⟨0, 0, none⟩ = some eA ∧ pg.Txt W ea ∧ EnvB W ea em := by
  obtain ⟨a0, h0⟩ := sent_head h.tail errw.g0 errw.t0
  obtain ⟨a1, h1⟩ := sent_head h.tail.tail errw.g1 errw.t1
  obtain ⟨a2, h2⟩ := sent_head h.tail.tail.tail errw.g2 errw.t2
  exact ⟨_, a1, a2, h0, h1, pctw.tab_of_laid h.tail.tail.tail.tail.tail, h1, h2⟩
theorem array5 {α : Type} {cs : Array α} (h : cs.size = 5) : ∃ c0 c1 c2 c3 c4, cs = #[c0, c1, c2, c3, c4] := by
  obtain ⟨l⟩ := cs
  match l, h with
  | [c0, c1, c2, c3, c4], _ => exact ⟨c0, c1, c2, c3, c4, rfl⟩
theorem tot_mem : ∀ (l : List PB) (k : Nat), (l.getD k (⟨#[]⟩, ⟨#[]⟩)).1.size + (l.getD k (⟨#[]⟩, ⟨#[]⟩)).2.size ≤ pctw.tot l
  | [], k => Nat.zero_le _
  | p :: r, 0 => by show p.1.size + p.2.size ≤ p.1.size + p.2.size + 1 + pctw.tot r; omega
  | p :: r, k + 1 => by
    have := tot_mem r k
    show (r.getD k _).1.size + (r.getD k _).2.size ≤ p.1.size + p.2.size + 1 + pctw.tot r
    omega
end Go.Proofs.YtjalggkhpnfbiaaDoor.br

namespace Go.Proofs.YtjalggkhpnfbiaaDoor.pg
open Go.ChangeShapes Go.WideShapes Go.ChangeAt Go.RowKit Go.Proofs.YtjalggkhpnfbiaaDoor.common
open Go.Shelf Go.Lib

theorem escG : Tryd.prog.globalNamed "usher/page.escapes" = some 4 := by kernel_rfl
theorem escT : (Tryd.prog.globals[4]?).map (·.type) = some 125 := by kernel_rfl
theorem escC : Tryd.prog.cellsOf 124 = 2 := by kernel_rfl
theorem cells8 : Tryd.prog.cellsOf 5 = 1 := by kernel_rfl
theorem cellsS : Tryd.prog.cellsOf 9 = 1 := by kernel_rfl
theorem esc_is : (Rows.laid_usher_page_escapes : DataW Unit) = .agg ((List.range 5).map fun i => .agg [.lit (.int .u8 ((tC i).toNat : Int)), .lit (.string (tS i))]) := by kernel_rfl
theorem esc_of_laid {w : World} {l : List (String × DataW Unit)} (h : laidMet Tryd.prog l w) (h1 : ("usher/page.escapes", Rows.laid_usher_page_escapes) ∈ l) : Esc w := by
  have a := laidMet.reads h h1
  rw [esc_is] at a
  intro i hi
  obtain ⟨g, t, cs, fuel, p, hg, hty, hvar, hd⟩ := a
  obtain rfl := Option.some.inj (escG.symm.trans hg)
  obtain rfl := Option.some.inj (escT.symm.trans hty)
  obtain ⟨fuel', d, q, hdi, he⟩ := array_elem Tryd.underlying125 hd i hi
  simp only [List.getElem?_map, List.getElem?_range hi, Option.map_some, Option.some.injEq] at hdi
  subst hdi
  rw [escC] at he
  obtain ⟨xs, n, rfl, hx, hl, hxl, hall⟩ := DataW.trod_struct Tryd.underlying124 he
  have hxs : xs.map (·.1) = [(DataW.lit (.int .u8 ((tC i).toNat : Int)) : DataW Unit), .lit (.string (tS i))] := by
    have := congrArg Prod.fst hx
    simpa using this.symm
  match xs, hxs with
  | [(x0, p0), (x1, p1)], hxs =>
    simp only [List.map_cons, List.map_nil, List.cons.injEq, and_true] at hxs
    generalize hfs : (#[_, _] : Array Field) = fs at hall
    obtain ⟨f0, k0, t0, o0⟩ : ∃ f, fs[0]? = some f ∧ f.type = 5 ∧ f.offset = 0 := by rw [← hfs]; exact ⟨_, rfl, rfl, rfl⟩
    obtain ⟨f1, k1, t1, o1⟩ : ∃ f, fs[1]? = some f ∧ f.type = 9 ∧ f.offset = 1 := by rw [← hfs]; exact ⟨_, rfl, rfl, rfl⟩
    have a0 := hall 0 f0 k0
    have a1 := hall 1 f1 k1
    rw [t0, o0] at a0
    rw [t1, o1] at a1
    simp only [List.getElem?_cons_zero, List.getElem?_cons_succ] at a0 a1
    rw [cells8] at a0
    rw [cellsS] at a1
    obtain ⟨z0, e0, f0⟩ := DataW.trod_int Tryd.underlying5 a0
    obtain ⟨z1, e1, f1⟩ := DataW.trod_string Tryd.underlying9 a1
    have f0 : x0 = _ := congrArg Prod.fst f0.1
    have f1 : x1 = _ := congrArg Prod.fst f1.1
    rw [hxs.1] at f0
    rw [hxs.2] at f1
    simp only [DataW.lit.injEq, Lit.int.injEq, Lit.string.injEq, true_and] at f0 f1
    subst f0
    have e0 := congrArg (·[0]?) e0
    have e1 := congrArg (·[0]?) e1
    simp only [List.getElem?_take, List.getElem?_drop] at e0 e1
    constructor
    · rw [World.var?_cell hg hvar (i * 2), ← Array.getElem?_toList]
      simpa using e0
    · rw [World.var?_cell hg hvar (i * 2 + 1), ← Array.getElem?_toList]
      have : S (tS i) = .string z1 := congrArg Value.string (str_eq _ _ f1)
      rw [this]
      simpa using e1
end Go.Proofs.YtjalggkhpnfbiaaDoor.pg

namespace Go.Proofs.YtjalggkhpnfbiaaDoor.fd
open Go
section
variable {H : Type} {enc : TypeId × Value → H}
/-- there is an input that fits, at a world whose shape is told in one pass -/
theorem witness_row_zip {C : Checked} {os : Os} {f : FuncId} {fn : Func} {s : OpenSpec} {conds : List PathCond} {apart : Bool} {laid : List (String × DataW Unit)} (modest : Bool) (w0 : World) (args : Array Value) (hos : w0.os = os)
    (hv : (w0.forCall (fun _ _ => 0) ⟨#[], args, []⟩).variablesZipB C.prog = true)
    (hr : ((w0.forCall (fun _ _ => 0) ⟨#[], args, []⟩).heap.toList.drop C.prog.globals.size).take ((begin C.prog (fun _ _ => 0) default).world.heap.size - C.prog.globals.size) =
      (begin C.prog (fun _ _ => 0) default).world.heap.toList.drop C.prog.globals.size)
    (hok : Input.okWideB C.prog (w0.forCall (fun _ _ => 0) ⟨#[], args, []⟩) f ⟨#[], args, []⟩ = true)
    (hrow : s.preRow enc C.prog fn conds apart laid (w0.forCall (fun _ _ => 0) ⟨#[], args, []⟩).memory args) :
    ∃ (w : World) (tape : Tape) (i : Input), w.os = os ∧ (w.forCall tape i).Shaped C.prog ∧ i.vars = [] ∧ Input.okWide C.prog (w.forCall tape i) .any w.heap.size f i ∧
      s.preRow enc C.prog fn conds apart laid (w.forCall tape i).memory i.args ∧ ({ modest := modest } : Assume).holds C.prog (lone (Frame.enter C.prog f i.args .normal) [] (w.forCall tape i)) :=
  ⟨w0, fun _ _ => 0, ⟨#[], args, []⟩, hos, World.shaped_of_ZipB hv hr, (Input.okWide_of_okWideB (base := 0) hok).1, (Input.okWide_of_okWideB hok).2, hrow, by
    simp only [Assume.holds]
    exact ⟨by simp, by simp, fun _ => Modest.zero, by simp, by simp⟩⟩
end
end Go.Proofs.YtjalggkhpnfbiaaDoor.fd
