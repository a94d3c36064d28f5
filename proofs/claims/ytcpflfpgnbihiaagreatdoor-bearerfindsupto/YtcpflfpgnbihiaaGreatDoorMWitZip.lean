import Derived.Test.YtcpflfpgnbihiaaGreatDoorMListKit0
import Derived.Deep.Slices
import Derived.Lib.SmallJoins
import Derived.Test.YtcpflfpgnbihiaaGreatDoorMBfLaw
import Derived.Lib.LaidTab
import Derived.LaidMore
import Derived.Test.YtcpflfpgnbihiaaGreatDoorMRanges
import Derived.Lay
import Derived.Deep.DeepWitnessRowRef
namespace Go.Proofs.YtcpflfpgnbihiaaGreatDoor.lst
open Go.ChangeShapes Go.WideShapes Go.ChangeAt Go.RowKit Go.Joins Go.Deep Go.WideElems Go.Maps Go.Proofs.YtcpflfpgnbihiaaGreatDoor.common

theorem weightsAll_mem {H : Type} {P : Program} {e : TypeId} {p : Nat → Bool} : ∀ (l : List (DataW H)), (DataW.weightsAll P e l).all p = true → ∀ d ∈ l, (d.weights P e).all p = true
  | [], _, d, hd => by cases hd
  | x :: r, h, d, hd => by
    rw [DataW.weightsAll, List.all_append, Bool.and_eq_true] at h
    rcases List.mem_cons.1 hd with rfl | hd
    · exact h.1
    · exact weightsAll_mem r h.2 d hd

theorem cellsPair : Tryz.prog.cellsOf 35 = 2 := by kernel_rfl
theorem bytesPair : Tryz.prog.bytesOf 35 = 32 := by kernel_rfl

/-- a pair as it is read -/
def dat {H : Type} (p : PB) : DataW H := .agg [.lit (.string p.1.data.toList), .lit (.string p.2.data.toList)]

set_option maxRecDepth 100000 in
theorem pairs_of {H : Type} {enc : TypeId × Value → H} {W : World} {fuel : Nat} {v : Value} {d : DataW H} {pl : List MemPlace}
    (h : DataW.trod enc Tryz.prog W 0 (fun _ => true) true fuel 22 [v] = some (d, pl)) (hsz : (d.weights Tryz.prog 22).all (· ≤ reachBytes) = true) :
    ∃ l, Lies W v l ∧ l.length * 32 ≤ reachBytes ∧ (∀ p ∈ l, p.1.size ≤ reachBytes ∧ p.2.size ≤ reachBytes) ∧ ((d = .nil ∧ l = []) ∨ ∃ sp, d = .slice (l.map dat) sp) := by
  rcases Deep.open_slice Tryz.underlying22 h with ⟨hcs, hx⟩ | ⟨a, len, cap, m, n, D, Pl, hcs, hb, hl, hm, hmm, hx, hall⟩
  · obtain rfl : v = .slice none 0 0 := by simpa using hcs
    exact ⟨[], ⟨none, 0, rfl, fun i hi => absurd hi (Nat.not_lt_zero _)⟩, by decide, fun p hp => (by cases hp), Or.inl ⟨(Prod.mk.inj hx).1, rfl⟩⟩
  · obtain rfl : v = .slice (some a) len cap := by simpa using hcs
    have hd : d = .slice ((List.range len).map D) ((List.range (m - len)).map fun j => D (len + j)) := (Prod.mk.inj hx).1
    subst hd
    simp only [DataW.weights, Tryz.underlying22, List.all_cons, List.all_append, Bool.and_eq_true] at hsz
    have each : ∀ i, ∃ p : PB, i < len → D i = dat p ∧ p.1.size ≤ reachBytes ∧ p.2.size ≤ reachBytes ∧ ∃ b o, a = ⟨b, o, none⟩ ∧ b < W.heap.size ∧ W.cell? ⟨b, o + i * 2, none⟩ = some (.string p.1) ∧ W.cell? ⟨b, o + i * 2 + 1, none⟩ = some (.string p.2) := by
      intro i
      by_cases hi : i < len
      · have hwi := weightsAll_mem _ hsz.2.1 (D i) (List.mem_map.2 ⟨i, List.mem_range.2 hi, rfl⟩)
        obtain ⟨cs', h1, h2⟩ := hall i (by rw [hmm]; simp; omega)
        rw [cellsPair] at h1
        obtain ⟨_, hlen, hcell⟩ := World.cells?_some h1
        match cs', hlen with
        | [v0, v1], _ =>
          obtain ⟨y0, y1, n', hxy, _, t0, t1⟩ := trod_struct2 Tryz.underlying35 h2
          have t0' : DataW.trod enc Tryz.prog W 0 (fun _ => true) true n' 9 [v0] = some y0 := by rw [← t0]; rfl
          have t1' : DataW.trod enc Tryz.prog W 0 (fun _ => true) true n' 9 [v1] = some y1 := by rw [← t1]; rfl
          obtain ⟨s, es, rfl, _⟩ := DataW.trod_string Tryz.underlying9 t0'
          obtain ⟨t, et, rfl, _⟩ := DataW.trod_string Tryz.underlying9 t1'
          simp at es et
          subst es et
          have hDi : D i = dat (s, t) := (Prod.mk.inj hxy).1
          rw [hDi] at hwi
          have hts : s.size ≤ reachBytes ∧ t.size ≤ reachBytes := by
            simp [dat, DataW.weights, DataW.weightsEach, Tryz.underlying35] at hwi
            simpa using hwi
          have c0 := hcell 0 (by decide)
          have c1 := hcell 1 (by decide)
          have hsp : a.spot = none := by
            have q0 := hall 0 (by rw [hmm]; simp; omega)
            obtain ⟨cs0, g1, _⟩ := q0
            rw [cellsPair] at g1
            obtain ⟨_, hlen0, hcell0⟩ := World.cells?_some g1
            have g2 := hcell0 0 (by decide)
            rw [List.getElem?_eq_getElem (by omega)] at g2
            have := World.cell?_spot g2
            simpa [Addr.add] using this
          obtain ⟨b, o, sp⟩ := a
          simp at hsp
          subst hsp
          rw [Addr.add_mid, Addr.add_mid] at c0 c1
          have c0' : W.cell? ⟨b, o + i * 2, none⟩ = some (.string s) := by simpa using c0
          exact ⟨(s, t), fun _ => ⟨hDi, hts.1, hts.2, b, o, rfl, World.block_lt_of_cell? W _ c0', c0', by simpa using c1⟩⟩
      · exact ⟨(ByteArray.empty, ByteArray.empty), fun h => absurd h hi⟩
    obtain ⟨f, hf⟩ := Classical.axiomOfChoice each
    have hlen : ((List.range len).map f).length = len := by simp
    refine ⟨(List.range len).map f, ⟨some a, cap, by rw [hlen], fun i hi => ?_⟩, ?_, ?_, Or.inr ⟨(List.range (m - len)).map fun j => D (len + j), ?_⟩⟩
    · rw [hlen] at hi
      obtain ⟨_, _, _, b, o, rfl, hb, c0, c1⟩ := hf i hi
      exact ⟨b, o, rfl, hb, by simpa using c0, by simpa using c1⟩
    · rw [hlen]
      have h1 := hsz.1
      rw [bytesPair] at h1
      simp at h1
      omega
    · intro p hp
      obtain ⟨i, hi, rfl⟩ := List.mem_map.1 hp
      exact ⟨(hf i (List.mem_range.1 hi)).2.1, (hf i (List.mem_range.1 hi)).2.2.1⟩
    · congr 1
      rw [List.map_map]
      apply List.map_congr_left
      intro i hi
      exact (hf i (List.mem_range.1 hi)).1

end Go.Proofs.YtcpflfpgnbihiaaGreatDoor.lst

namespace Go.Proofs.YtcpflfpgnbihiaaGreatDoor.bf
open Go.ChangeShapes Go.WideShapes Go.ChangeAt Go.RowKit Go.Joins Go.Deep Go.WideElems Go.Maps Go.Proofs.YtcpflfpgnbihiaaGreatDoor.common
open Go.Proofs.YtcpflfpgnbihiaaGreatDoor.lst (PB Lies dat pairs_of)

def foldZ : List Int := [0, 1, 2, 3, 4, 5, 6, 7, 8, 9, 10, 11, 12, 13, 14, 15, 16, 17, 18, 19, 20, 21, 22, 23, 24, 25, 26, 27, 28, 29, 30, 31, 32, 33, 34, 35, 36, 37, 38, 39, 40, 41, 42, 43, 44, 45, 46, 47, 48, 49, 50, 51, 52, 53, 54, 55, 56, 57, 58, 59, 60, 61, 62, 63, 64, 97, 98, 99, 100, 101, 102, 103, 104, 105, 106, 107, 108, 109, 110, 111, 112, 113, 114, 115, 116, 117, 118, 119, 120, 121, 122, 91, 92, 93, 94, 95, 96, 65, 66, 67, 68, 69, 70, 71, 72, 73, 74, 8490, 76, 77, 78, 79, 80, 81, 82, 383, 84, 85, 86, 87, 88, 89, 90, 123, 124, 125, 126, 127]
theorem afG : Tryz.prog.globalNamed "unicode.asciiFold" = some 13 := by kernel_rfl
theorem afT : (Tryz.prog.globals[13]?).map (·.type) = some 94 := by kernel_rfl
theorem afC : Tryz.prog.cellsOf 94 = 128 := by kernel_rfl
theorem u16C : Tryz.prog.cellsOf 93 = 1 := by kernel_rfl
theorem fold_of {W : World} {rest : List (String × DataW Unit)} (h : laidMet Tryz.prog (("unicode.asciiFold", Rows.laid_unicode_asciiFold) :: rest) W) : FoldT W := by
  have t : Lib.TabIs Tryz.prog W "unicode.asciiFold" .u16 foldZ := Lib.tabIs_of_head (rest := rest) afG afT Tryz.underlying94 Tryz.underlying93 u16C afC h
  intro r hr
  have h1 := t.cell afG r (by have := (isL_facts hr).2.1; exact this)
  rw [h1]
  rcases hr with rfl | rfl | rfl | rfl | rfl | rfl | rfl | rfl <;> rfl

theorem bulk_dat {H : Type} (l : List PB) : l.length ≤ Rows.uptoBulkAll (l.map (dat (H := H))) ∧ ∀ p ∈ l, p.1.size ≤ Rows.uptoBulkAll (l.map (dat (H := H))) ∧ p.2.size ≤ Rows.uptoBulkAll (l.map (dat (H := H))) := by
  induction l with
  | nil => exact ⟨Nat.zero_le _, fun p hp => by cases hp⟩
  | cons q r ih =>
    have e : Rows.uptoBulkAll ((q :: r).map (dat (H := H))) = Rows.uptoBulk (dat (H := H) q) + Rows.uptoBulkAll (r.map (dat (H := H))) := by
      rw [List.map_cons, Rows.uptoBulkAll]
    have z1 : q.1.data.toList.length = q.1.size := by simp
    have z2 : q.2.data.toList.length = q.2.size := by simp
    have h2 : q.1.size + q.2.size + 2 ≤ Rows.uptoBulk (dat (H := H) q) := by
      unfold dat
      simp only [Rows.uptoBulk, Rows.uptoBulkAll]
      omega
    rw [e, List.length_cons]
    refine ⟨by have := ih.1; omega, fun p hp => ?_⟩
    rcases List.mem_cons.1 hp with rfl | hp
    · exact ⟨by omega, by omega⟩
    · obtain ⟨a, b⟩ := ih.2 p hp
      exact ⟨by omega, by omega⟩

set_option maxRecDepth 100000 in
/-- a request as an argument -/
theorem req_of {H : Type} {enc : TypeId × Value → H} {W : World} {fuel : Nat} {q0 q1 q2 q3 q4 q5 : Value} {d : DataW H} {pl : List MemPlace}
    (h : DataW.trod enc Tryz.prog W 0 (fun _ => true) true fuel 24 [q0, q1, q2, q3, q4, q5] = some (d, pl)) (hw : (d.weights Tryz.prog 24).all (· ≤ reachBytes) = true) (hB : Rows.uptoBulk d ≤ 1048576) :
    ∃ (m t : ByteArray) (n : Int) (b : ByteArray) (c : Bool) (fs : List PB), q0 = .string m ∧ q1 = .string t ∧ q2 = .int .i64 n ∧ q4 = .string b ∧ q5 = .bool c ∧ Lies W q3 fs ∧ Fs1 fs ∧ t.size ≤ 1048576 ∧ b.size ≤ 1048576 := by
  obtain ⟨xs, n, _, hx, hl, hlen, hf⟩ := DataW.trod_struct Tryz.underlying24 h
  match xs, hlen with
  | [y0, y1, y2, y3, y4, y5], _ =>
    have g0 : DataW.trod enc Tryz.prog W 0 (fun _ => true) true n 9 [q0] = some y0 := by have := hf 0 _ rfl; simp only [List.getElem?_cons_zero] at this; rw [← this]; rfl
    have g1 : DataW.trod enc Tryz.prog W 0 (fun _ => true) true n 9 [q1] = some y1 := by have := hf 1 _ rfl; simp only [List.getElem?_cons_zero, List.getElem?_cons_succ] at this; rw [← this]; rfl
    have g2 : DataW.trod enc Tryz.prog W 0 (fun _ => true) true n 3 [q2] = some y2 := by have := hf 2 _ rfl; simp only [List.getElem?_cons_zero, List.getElem?_cons_succ] at this; rw [← this]; rfl
    have g3 : DataW.trod enc Tryz.prog W 0 (fun _ => true) true n 22 [q3] = some y3 := by have := hf 3 _ rfl; simp only [List.getElem?_cons_zero, List.getElem?_cons_succ] at this; rw [← this]; rfl
    have g4 : DataW.trod enc Tryz.prog W 0 (fun _ => true) true n 9 [q4] = some y4 := by have := hf 4 _ rfl; simp only [List.getElem?_cons_zero, List.getElem?_cons_succ] at this; rw [← this]; rfl
    have g5 : DataW.trod enc Tryz.prog W 0 (fun _ => true) true n 4 [q5] = some y5 := by have := hf 5 _ rfl; simp only [List.getElem?_cons_zero, List.getElem?_cons_succ] at this; rw [← this]; rfl
    obtain ⟨s0, e0, rfl, _⟩ := DataW.trod_string Tryz.underlying9 g0
    simp at e0
    subst e0
    obtain ⟨s1, e1, rfl, _⟩ := DataW.trod_string Tryz.underlying9 g1
    simp at e1
    subst e1
    obtain ⟨x2, e2, rfl, _⟩ := DataW.trod_int Tryz.underlying3 g2
    simp at e2
    subst e2
    obtain ⟨s4, e4, rfl, _⟩ := DataW.trod_string Tryz.underlying9 g4
    simp at e4
    subst e4
    obtain ⟨x5, e5, rfl⟩ := DataW.trod_bool Tryz.underlying4 g5
    simp at e5
    subst e5
    obtain ⟨d3, p3⟩ := y3
    have hd : d = .agg [.lit (.string s0.data.toList), .lit (.string s1.data.toList), .lit (.int .i64 x2), d3, .lit (.string s4.data.toList), .lit (.bool x5)] := by
      have := (Prod.mk.inj hx).1
      simpa using this
    subst hd
    have hw3 : (d3.weights Tryz.prog 22).all (· ≤ reachBytes) = true := by
      simp only [DataW.weights, Tryz.underlying24] at hw
      rw [List.all_eq_true] at hw ⊢
      intro x hx
      refine hw x ?_
      simp [DataW.weightsEach, hx]
    obtain ⟨l, hL, _, _, ht⟩ := pairs_of g3 hw3
    have z1 : s1.data.toList.length = s1.size := by simp
    have z4 : s4.data.toList.length = s4.size := by simp
    simp only [Rows.uptoBulk, Rows.uptoBulkAll] at hB
    refine ⟨s0, s1, x2, s4, x5, l, rfl, rfl, rfl, rfl, rfl, hL, ?_, by omega, by omega⟩
    rcases ht with ⟨_, rfl⟩ | ⟨sp, rfl⟩
    · exact ⟨Nat.zero_le _, fun p hp => by cases hp⟩
    · obtain ⟨b1, b2⟩ := bulk_dat (H := H) l
      simp only [Rows.uptoBulk] at hB
      refine ⟨by omega, fun p hp => ?_⟩
      obtain ⟨a, b⟩ := b2 p hp
      exact ⟨by omega, by omega⟩
end Go.Proofs.YtcpflfpgnbihiaaGreatDoor.bf

namespace Go.Proofs.YtcpflfpgnbihiaaGreatDoor.fd
open Go
section
variable {H : Type} {enc : TypeId × Value → H}
/-- there is an input that fits, at a world whose shape is told in one pass -/
theorem witness_row_zip {C : Checked} {os : Os} {f : FuncId} {fn : Func} {s : OpenSpec} {conds : List PathCond} {apart : Bool} {laid : List (String × DataW Unit)} (modest : Bool) (w0 : World) (args : Array Value) (hos : w0.os = os)
    (hv : (w0.forCall (fun _ _ => 0) ⟨#[], args, []⟩).variablesZipB C.prog = true)
    (hr : ((w0.forCall (fun _ _ => 0) ⟨#[], args, []⟩).heap.toList.drop C.prog.globals.size).take ((begin C.prog (fun _ _ => 0) default).world.heap.size - C.prog.globals.size) =
      (begin C.prog (fun _ _ => 0) default).world.heap.toList.drop C.prog.globals.size)
    (hok : Input.okWideB C.prog (w0.forCall (fun _ _ => 0) ⟨#[], args, []⟩) f ⟨#[], args, []⟩ = true)
    (hrow : s.preRow enc C.prog fn conds apart laid (w0.forCall (fun _ _ => 0) ⟨#[], args, []⟩).memory args) :
    ∃ (w : World) (tape : Tape) (i : Input), w.os = os ∧ (w.forCall tape i).Shaped C.prog ∧ i.vars = [] ∧ Input.okWide C.prog (w.forCall tape i) .any w.heap.size f i ∧
      s.preRow enc C.prog fn conds apart laid (w.forCall tape i).memory i.args ∧ ({ modest := modest } : Assume).holds C.prog (lone (Frame.enter C.prog f i.args .normal) [] (w.forCall tape i)) :=
  ⟨w0, fun _ _ => 0, ⟨#[], args, []⟩, hos, World.shaped_of_ZipB hv hr, (Input.okWide_of_okWideB (base := 0) hok).1, (Input.okWide_of_okWideB hok).2, hrow, by
    simp only [Assume.holds]
    exact ⟨by simp, by simp, fun _ => Modest.zero, by simp, by simp⟩⟩
end
end Go.Proofs.YtcpflfpgnbihiaaGreatDoor.fd
