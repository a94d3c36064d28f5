import Derived.Test.YthhkhpgffamdhaaDoorCkRd
namespace Go.Proofs.YthhkhpgffamdhaaDoor.fd
open Go.ChangeShapes Go.WideShapes Go.ChangeAt Go.RowKit Go.Proofs.YthhkhpgffamdhaaDoor.common Go.Proofs.YthhkhpgffamdhaaDoor.bk
attribute [local go_sem ↓] Go.wp_at_zero Go.wp_at_succ

/-- a piece's name, its value, and whether it is a pair -/
def pcName (l : List UInt8) : List UInt8 := before 61 l
def pcVal (l : List UInt8) : List UInt8 := unq (behind 61 l)
def pcOk (l : List UInt8) : Bool := l.contains 61 && isCk ⟨(pcName l).toArray⟩ ⟨(pcVal l).toArray⟩
theorem unq_len (l : List UInt8) : (unq l).length ≤ l.length := by
  unfold unq
  by_cases h : 2 ≤ l.length ∧ l.getD 0 0 = 34 ∧ l.getD (l.length - 1) 0 = 34
  · rw [if_pos h, List.length_drop, List.length_take]; omega
  · rw [if_neg h]; exact Nat.le_refl _
theorem cut_lens (c : UInt8) (l : List UInt8) : (before c l).length ≤ l.length ∧ (behind c l).length ≤ l.length := by
  refine ⟨(List.takeWhile_prefix _).length_le, ?_⟩
  unfold behind
  have := (List.dropWhile_suffix (l := l) fun x => decide (x ≠ c)).length_le
  rw [List.length_tail]; omega

theorem results_ct {fn : Func} {p t : Tmp} {ty : TypeId} {P : Program} {w : World} {b o : Nat} {cs : List Value} {d : TypeDesc} {u : Value} (h : fn.results = #[.cell p ty, .tmp t]) (tmps : Array Value) (hx : tmps.getD p undef = .pointer (some ⟨b, o, none⟩))
    (hc : w.rangeAt b o cs) (hu : P.underlying ty = some d) (hd : d.isRow = true) (hi : (P.info? ty).map (·.size) = some cs.length) (ht : tmps.getD t undef = u) : (results fn tmps).run P w = .ok (.tuple #[.agg cs.toArray, u]) w := by
  have hx' : tmps[p]?.getD undef = .pointer (some ⟨b, o, none⟩) := by simpa using hx
  have ht' : tmps[t]?.getD undef = u := by simpa using ht
  simp only [results, h]
  simp [hx', ht', asAddr, run_loadVar_mid w b o ty cs d hc hu hd hi]

theorem sizePair : (Tryd.prog.info? 41).map (·.size) = some 2 := by kernel_rfl
theorem two_put (w : World) (R : Nat) (x y v0 v1 : Value) (h0 : w.cell? ⟨R, 0, none⟩ = some v0) (h1 : w.cell? ⟨R, 1, none⟩ = some v1) : ((w.setCell ⟨R, 0, none⟩ x).setCell ⟨R, 1, none⟩ y).rangeAt R 0 [x, y] := by
  have r : w.rangeAt R 0 [v0, v1] := by
    intro j u hu
    match j, hu with
    | 0, hu => cases hu; exact h0
    | 1, hu => cases hu; exact h1
  have r1 := range_set r 0 (by simp) x
  have r2 := range_set r1 1 (by simp) y
  simpa using r2

set_option maxRecDepth 100000 in
set_option maxHeartbeats 1600000 in
theorem pair_any (b : Nat) (p : ByteArray) (w : World) (h : Tab w b 2) (hp : p.size ≤ 4611686018427387904) :
    Calls Tryd.prog 41 #[ptr b, .string p] w fun e w' => e = .returned (.tuple #[.agg #[S (pcName p.data.toList), S (pcVal p.data.toList)], .bool (pcOk p.data.toList)]) ∧ Below w.heap.size w w' := by
  have hl := cut_lens 61 p.data.toList
  have hq := unq_len (behind 61 p.data.toList)
  rw [len_list] at hl
  have HC := hide (fun W => cut_any p 61 W hp)
  have HU : Hid (∀ W, Calls Tryd.prog 73 #[S (behind 61 p.data.toList)] W fun e w' => e = .returned (S (pcVal p.data.toList)) ∧ w' = W) := fun W => unquoted_any ⟨(behind 61 p.data.toList).toArray⟩ W (by rw [str_size]; omega)
  have HK : Hid (∀ W, Below w.heap.size w W → Calls Tryd.prog 37 #[.pointer (some ⟨b, 2, none⟩), S (pcName p.data.toList), S (pcVal p.data.toList)] W fun e w' => e = .returned (.bool (isCk ⟨(pcName p.data.toList).toArray⟩ ⟨(pcVal p.data.toList).toArray⟩)) ∧ w' = W) :=
    fun W hW => isCookie_any b 2 ⟨(pcName p.data.toList).toArray⟩ ⟨(pcVal p.data.toList).toArray⟩ W (h.below hW) (by rw [str_size]; unfold pcName; omega) (by rw [str_size]; unfold pcVal; omega)
  have HO : Hid (pcOk p.data.toList = (p.data.toList.contains 61 && isCk ⟨(pcName p.data.toList).toArray⟩ ⟨(pcVal p.data.toList).toArray⟩)) := rfl
  have HN : Hid (before 61 p.data.toList = pcName p.data.toList) := rfl
  clear h hl hq
  rw [HO.out]
  clear HO
  rw [HN.out] at HC
  generalize isCk ⟨(pcName p.data.toList).toArray⟩ ⟨(pcVal p.data.toList).toArray⟩ = K at *
  generalize p.data.toList.contains 61 = F at *
  generalize pcName p.data.toList = NM at *
  generalize pcVal p.data.toList = VL at *
  generalize behind 61 p.data.toList = BH at *
  obtain ⟨W0, hW0⟩ : ∃ W0 : World, W0 = w.alloc (.cells #[.string ⟨#[]⟩, .string ⟨#[]⟩] 41) := ⟨_, rfl⟩
  have HBL : Hid (Below w.heap.size w W0) := by rw [hW0]; exact (Below.refl _ _).alloc (Nat.le_refl _) _
  have HLT : Hid (w.heap.size < W0.heap.size) := by show _ < _; rw [hW0]; simp
  have HC0 : Hid (W0.cell? ⟨w.heap.size, 0, none⟩ = some (.string ⟨#[]⟩)) := by show _ = _; rw [hW0]; exact range_new w #[.string ⟨#[]⟩, .string ⟨#[]⟩] _ 0 _ rfl
  have HC1 : Hid (W0.cell? ⟨w.heap.size, 1, none⟩ = some (.string ⟨#[]⟩)) := by show _ = _; rw [hW0]; exact range_new w #[.string ⟨#[]⟩, .string ⟨#[]⟩] _ 1 _ rfl
  have HF0 : Hid (∀ i, W0.frozen? ⟨w.heap.size, i, none⟩ = false) := by intro i; rw [hW0]; exact World.frozen?_alloc_at _ _ _ _ rfl
  have HW0 := hide hW0
  clear hW0
  cases F
  all_goals
    go_enter Tryd.func41, Tryd.ntmps41
    go_wp2_with fail
    rw [← HW0.out]
    refine (HC.out _).mono ?_
    rintro x w1 ⟨rfl, hb1⟩
    have c0 := (hb1.cell (p := ⟨w.heap.size, 0, none⟩) HLT.out).trans HC0.out
    have c1 := (hb1.cell (p := ⟨w.heap.size, 1, none⟩) HLT.out).trans HC1.out
    have f0 := (hb1.frozen (p := ⟨w.heap.size, 0, none⟩) HLT.out).trans (HF0.out 0)
    have f1 := (hb1.frozen (p := ⟨w.heap.size, 1, none⟩) HLT.out).trans (HF0.out 1)
    have HB1 := hide (HBL.out.trans (hb1.mono HBL.out.size))
    clear hb1
    go_wp2_with fail
    refine (HU.out _).mono ?_
    rintro x w2 ⟨rfl, rfl⟩
    go_wp2_with (go_at_call 37; refine (HK.out _ HB1.out).mono ?_; rintro x w3 ⟨rfl, rfl⟩)
    refine bodyPost_ret (v := .tuple #[.agg #[S NM, S VL], .bool _]) (results_ct (b := w.heap.size) (o := 0) (cs := [S NM, S VL]) Tryd.results41 _ rfl (two_put _ w.heap.size (S NM) (S VL) _ _ c0 c1) Tryd.underlying41 rfl sizePair rfl) rfl ⟨rfl, (HB1.out.setCell (p := ⟨w.heap.size, 0, none⟩) (Nat.le_refl _) _).setCell (p := ⟨w.heap.size, 1, none⟩) (Nat.le_refl _) _⟩

end Go.Proofs.YthhkhpgffamdhaaDoor.fd
