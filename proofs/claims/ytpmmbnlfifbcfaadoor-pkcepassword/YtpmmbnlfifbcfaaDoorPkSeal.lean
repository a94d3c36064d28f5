import Derived.Test.YtpmmbnlfifbcfaaDoorPkSame
import Derived.Test.YtpmmbnlfifbcfaaDoorRefStretch
namespace Go.Proofs.YtpmmbnlfifbcfaaDoor.pk
open Go.ChangeShapes Go.WideShapes Go.ChangeAt Go.RowKit Go.Proofs.YtpmmbnlfifbcfaaDoor.common

theorem results_ct {fn : Func} {p t : Tmp} {ty : TypeId} {P : Program} {w : World} {b o : Nat} {cs : List Value} {d : TypeDesc} {u : Value} (h : fn.results = #[.cell p ty, .tmp t]) (tmps : Array Value) (hx : tmps.getD p undef = .pointer (some ⟨b, o, none⟩))
    (hc : w.rangeAt b o cs) (hu : P.underlying ty = some d) (hd : d.isRow = true) (hi : (P.info? ty).map (·.size) = some cs.length) (ht : tmps.getD t undef = u) : (results fn tmps).run P w = .ok (.tuple #[.agg cs.toArray, u]) w := by
  have hx' : tmps[p]?.getD undef = .pointer (some ⟨b, o, none⟩) := by simpa using hx
  have ht' : tmps[t]?.getD undef = u := by simpa using ht
  simp only [results, h]
  simp [hx', ht', asAddr, run_loadVar_mid w b o ty cs d hc hu hd hi]
theorem sizeSec : (Tryd.prog.info? 25).map (·.size) = some 2 := by kernel_rfl
theorem two_put (w : World) (R : Nat) (x y v0 v1 : Value) (h0 : w.cell? ⟨R, 0, none⟩ = some v0) (h1 : w.cell? ⟨R, 1, none⟩ = some v1) : ((w.setCell ⟨R, 0, none⟩ x).setCell ⟨R, 1, none⟩ y).rangeAt R 0 [x, y] := by
  have r : w.rangeAt R 0 [v0, v1] := by
    intro j u hu
    match j, hu with
    | 0, hu => cases hu; exact h0
    | 1, hu => cases hu; exact h1
  have r1 := range_set r 0 (by simp) x
  have r2 := range_set r1 1 (by simp) y
  simpa using r2
theorem nonempty {s : ByteArray} (h : 1 ≤ s.size) : (s.toList == []) = false := by
  rw [ByteArray.toList_eq]
  refine beq_false_of_ne fun e => ?_
  have h0 : s.size = 0 := by
    have := congrArg List.length e
    rwa [plen] at this
  omega
theorem empty_is {s : ByteArray} (h : s.size = 0) : s = ⟨#[]⟩ := by
  apply pext
  apply List.eq_nil_of_length_eq_zero
  rw [plen]; exact h

/-- the tables of the digest -/
structure Sh (w : World) : Prop where
  rw : shaw.RW w
  fw : shaw.FW w
theorem Sh.below {w w' : World} (h : Sh w) (hb : Below w.heap.size w w') : Sh w' := ⟨h.rw.below hb h.rw.lt, h.fw.below hb h.fw.lt⟩
/-- the refusal of an argument -/
abbrev XA (a : Addr) : Value := .iface 76 (.pointer (some a))
def Arg (w : World) (a : Addr) : Prop := w.cell? ⟨0, 0, none⟩ = some (XA a)
theorem Arg.below {w w' : World} {a : Addr} (h : Arg w a) (hb : Below w.heap.size w w') : Arg w' a := (hb.cell (World.block_lt_of_cell? w _ h)).trans h

set_option maxRecDepth 100000 in
set_option maxHeartbeats 1600000 in
theorem st_bad (p s : ByteArray) (n : Int) (w : World) (hn : ¬ (1 ≤ n ∧ n ≤ 1000)) (a0 : Addr) (he : Arg w a0) :
    Calls Tryd.prog 11 #[.string p, .string s, .int .i64 n] w fun x w' => x = .returned (.tuple #[.string ⟨#[]⟩, XA a0]) ∧ Below w.heap.size w w' := by
  have ce : w.cell? ⟨0, 0, none⟩ = some (XA a0) := he
  clear he
  by_cases h1 : n < 1
  · go_enter Tryd.func11, Tryd.ntmps11
    go_wp2_with fail
    go_region
    go_wp2
    go_ret2
    exact ⟨rfl, (Below.refl _ _).drew⟩
  · have h2 : 1000 < n := by omega
    go_enter Tryd.func11, Tryd.ntmps11
    go_wp2_with fail
    go_region
    go_wp2
    go_ret2
    exact ⟨rfl, (Below.refl _ _).drew⟩

/-- a number of rounds that is taken -/
def okR (n : Int) : Prop := 1 ≤ n ∧ n ≤ 1000
/-- the stretched password -/
def sd (p s : ByteArray) (n : Int) : ByteArray := ⟨(shaw.foldOf p.data.toList s.data.toList (n - 1).toNat).toArray⟩
theorem sd_size (p s : ByteArray) (n : Int) : (sd p s n).size = 32 := by
  unfold sd
  show (shaw.foldOf p.data.toList s.data.toList (n - 1).toNat).toArray.size = _
  rw [List.size_toArray, shaw.foldOf_len]
theorem st_good (p s : ByteArray) (n : Int) (w : World) (hn : okR n) (hp : p.size ≤ 140737488351232) (hs : s.size ≤ 140737488351232) (ht : Sh w) :
    Calls Tryd.prog 11 #[.string p, .string s, .int .i64 n] w fun x w' => x = .returned (.tuple #[.string (sd p s n), .nilIface]) ∧ Below w.heap.size w w' := by
  obtain ⟨m, rfl, hm⟩ : ∃ m : Nat, n = (m : Int) + 1 ∧ m ≤ 999 := ⟨(n - 1).toNat, by unfold okR at hn; omega, by unfold okR at hn; omega⟩
  have := shaw.stretch_good p s m w hm (by omega) hs ht.rw ht.fw
  have e : (((m : Int) + 1) - 1).toNat = m := by omega
  unfold sd
  rw [e]; exact this
theorem rst_good (p s : ByteArray) (n : Int) (w : World) (hn : okR n) (hp : p.size ≤ 140737488351232) (hs : s.size ≤ 140737488351232) (ht : refw.Tabs w) :
    Calls Tryd.prog 13 #[.string p, .string s, .int .i64 n] w fun x w' => x = .returned (.tuple #[.string (sd p s n), .int .i64 0]) ∧ Below w.heap.size w w' := by
  obtain ⟨m, rfl, hm⟩ : ∃ m : Nat, n = (m : Int) + 1 ∧ m ≤ 999 := ⟨(n - 1).toNat, by unfold okR at hn; omega, by unfold okR at hn; omega⟩
  have := refw.refStretch_good p s m w hm (by omega) hs ht
  have e : (((m : Int) + 1) - 1).toNat = m := by omega
  unfold sd
  rw [e]; exact this

/-- what Seal takes -/
def okS (s : ByteArray) (n : Int) : Prop := (1 ≤ s.size ∧ s.size ≤ 64) ∧ okR n
abbrev sec (a b : ByteArray) : Value := .agg #[.string a, .string b]

/-- the cell of the answer, laid first -/
theorem cell_laid (w : World) : ∃ W0 : World, W0 = w.alloc (.cells #[.string ⟨#[]⟩, .string ⟨#[]⟩] 25) ∧ Below w.heap.size w W0 ∧
    ∀ X, Below W0.heap.size W0 X → X.cell? ⟨w.heap.size, 0, none⟩ = some (.string ⟨#[]⟩) ∧ X.cell? ⟨w.heap.size, 1, none⟩ = some (.string ⟨#[]⟩) ∧ (∀ i, X.frozen? ⟨w.heap.size, i, none⟩ = false) := by
  refine ⟨_, rfl, (Below.refl _ _).alloc (Nat.le_refl _) _, fun X hX => ?_⟩
  have hlt : w.heap.size < (w.alloc (.cells #[.string ⟨#[]⟩, .string ⟨#[]⟩] 25)).heap.size := by simp
  refine ⟨?_, ?_, fun i => ?_⟩
  · rw [hX.cell (p := ⟨w.heap.size, 0, none⟩) hlt]; exact range_new w #[.string ⟨#[]⟩, .string ⟨#[]⟩] _ 0 _ rfl
  · rw [hX.cell (p := ⟨w.heap.size, 1, none⟩) hlt]; exact range_new w #[.string ⟨#[]⟩, .string ⟨#[]⟩] _ 1 _ rfl
  · rw [hX.frozen (p := ⟨w.heap.size, i, none⟩) hlt]; exact World.frozen?_alloc_at _ _ _ _ rfl

set_option maxRecDepth 100000 in
set_option maxHeartbeats 1600000 in
theorem seal_good (p s : ByteArray) (n : Int) (w : World) (hk : okS s n) (hp : p.size ≤ 140737488351232) (ht : Sh w) :
    Calls Tryd.prog 6 #[.string p, .string s, .int .i64 n] w fun x w' => x = .returned (.tuple #[sec s (sd p s n), .nilIface]) ∧ Below w.heap.size w w' := by
  obtain ⟨⟨h1, h2⟩, h3⟩ := hk
  have q1 := nonempty h1
  have q2 : ¬ (64 : Int) < (s.size : Int) := by omega
  obtain ⟨W0, hW0, hbl, hc0⟩ := cell_laid w
  have H1 := hide (st_good p s n W0 h3 hp (by omega) (ht.below hbl))
  have HBL := hide hbl
  have HC0 := hide hc0
  have HW0 := hide hW0
  generalize sd p s n = D at *
  clear hW0 hbl hc0 ht h1 h2 h3 hp
  go_enter Tryd.func6, Tryd.ntmps6
  go_wp2_with fail
  rw [← HW0.out]
  refine H1.out.mono ?_
  rintro x w1 ⟨rfl, hb1⟩
  obtain ⟨c0, c1, hf⟩ := HC0.out w1 hb1
  have f0 := hf 0
  have f1 := hf 1
  have HBw := hide (HBL.out.trans (hb1.mono HBL.out.size))
  clear hb1 hf
  go_wp2
  refine bodyPost_ret (v := .tuple #[sec s D, .nilIface]) (results_ct (b := w.heap.size) (o := 0) (cs := [.string s, .string D]) Tryd.results6 _ rfl (two_put w1 w.heap.size _ _ _ _ c0 c1) Tryd.underlying25 rfl sizeSec rfl) rfl ⟨rfl, (HBw.out.setCell (p := ⟨w.heap.size, 0, none⟩) (Nat.le_refl _) _).setCell (p := ⟨w.heap.size, 1, none⟩) (Nat.le_refl _) _⟩

set_option maxRecDepth 100000 in
set_option maxHeartbeats 3200000 in
theorem seal_bad (p s : ByteArray) (n : Int) (w : World) (hk : ¬ okS s n) (a0 : Addr) (he : Arg w a0) :
    Calls Tryd.prog 6 #[.string p, .string s, .int .i64 n] w fun x w' => x = .returned (.tuple #[sec ⟨#[]⟩ ⟨#[]⟩, XA a0]) ∧ Below w.heap.size w w' := by
  obtain ⟨W0, hW0, hbl, hc0⟩ := cell_laid w
  have HN : Hid (¬ okR n ∨ ¬ (1 ≤ s.size ∧ s.size ≤ 64)) := by
    by_cases h : okR n
    · exact Or.inr fun h2 => hk ⟨h2, h⟩
    · exact Or.inl h
  have H1 : Hid (¬ okR n → Calls Tryd.prog 11 #[.string p, .string s, .int .i64 n] W0 fun x w' => x = .returned (.tuple #[.string ⟨#[]⟩, XA a0]) ∧ Below W0.heap.size W0 w') := fun h => st_bad p s n W0 h a0 (he.below hbl)
  have ce : W0.cell? ⟨0, 0, none⟩ = some (XA a0) := he.below hbl
  have hge : 0 < w.heap.size := World.block_lt_of_cell? w _ he
  obtain ⟨c0, c1, hf⟩ := hc0 W0 (Below.refl _ _)
  have f0 := hf 0
  have f1 := hf 1
  have HBL := hide hbl
  have HC0 := hide hc0
  have HW0 := hide hW0
  have cx1 : (W0.setCell ⟨w.heap.size, 0, none⟩ (.string ⟨#[]⟩)).cell? ⟨0, 0, none⟩ = some (XA a0) := (World.cell?_setCell_other (h := by intro e; injection e with e; omega) ..).trans ce
  clear hW0 hbl hc0 he hk hf
  by_cases h1 : 1 ≤ s.size
  · by_cases h2 : s.size ≤ 64
    · have q1 := nonempty h1
      have q2 : ¬ (64 : Int) < (s.size : Int) := by omega
      have H2 := hide (H1.out (by rcases HN.out with h | h; exact h; exact absurd ⟨h1, h2⟩ h))
      clear HN H1 h1 h2
      go_enter Tryd.func6, Tryd.ntmps6
      go_wp2_with fail
      rw [← HW0.out]
      refine H2.out.mono ?_
      rintro x w1 ⟨rfl, hb1⟩
      clear c0 c1 f0 f1 ce cx1
      obtain ⟨c0, c1, hf⟩ := HC0.out w1 hb1
      have f0 := hf 0
      have f1 := hf 1
      have HBw := hide (HBL.out.trans (hb1.mono HBL.out.size))
      clear hb1 hf
      go_wp2
      refine bodyPost_ret (v := .tuple #[sec ⟨#[]⟩ ⟨#[]⟩, XA a0]) (results_ct (b := w.heap.size) (o := 0) (cs := [.string ⟨#[]⟩, .string ⟨#[]⟩]) Tryd.results6 _ rfl (two_put w1 w.heap.size _ _ _ _ c0 c1) Tryd.underlying25 rfl sizeSec rfl) rfl ⟨rfl, (HBw.out.setCell (p := ⟨w.heap.size, 0, none⟩) (Nat.le_refl _) _).setCell (p := ⟨w.heap.size, 1, none⟩) (Nat.le_refl _) _⟩
    · have q2 : (64 : Int) < (s.size : Int) := by omega
      have q1 := nonempty h1
      clear HN H1 h1 h2 HC0
      go_enter Tryd.func6, Tryd.ntmps6
      go_wp2_with fail
      rw [← HW0.out]
      go_region
      all_goals (try go_wp2)
      all_goals refine bodyPost_ret (v := .tuple #[sec ⟨#[]⟩ ⟨#[]⟩, XA a0]) (results_ct (b := w.heap.size) (o := 0) (cs := [.string ⟨#[]⟩, .string ⟨#[]⟩]) Tryd.results6 _ rfl ?_ Tryd.underlying25 rfl sizeSec rfl) rfl ⟨rfl, ?_⟩
      all_goals first
        | exact ((HBL.out.setCell (p := ⟨w.heap.size, 0, none⟩) (Nat.le_refl _) _).setCell (p := ⟨w.heap.size, 1, none⟩) (Nat.le_refl _) _).drew
        | exact (HBL.out.drew.setCell (p := ⟨w.heap.size, 0, none⟩) (Nat.le_refl _) _).setCell (p := ⟨w.heap.size, 1, none⟩) (Nat.le_refl _) _
        | exact two_put W0 w.heap.size _ _ _ _ c0 c1
        | exact two_put W0.drew w.heap.size _ _ _ _ c0 c1
  · obtain rfl := empty_is (s := s) (by omega)
    clear HN H1 h1 HC0
    go_enter Tryd.func6, Tryd.ntmps6
    go_wp2_with fail
    rw [← HW0.out]
    go_region
    all_goals (try go_wp2)
    all_goals refine bodyPost_ret (v := .tuple #[sec ⟨#[]⟩ ⟨#[]⟩, XA a0]) (results_ct (b := w.heap.size) (o := 0) (cs := [.string ⟨#[]⟩, .string ⟨#[]⟩]) Tryd.results6 _ rfl ?_ Tryd.underlying25 rfl sizeSec rfl) rfl ⟨rfl, ?_⟩
    all_goals first
      | exact ((HBL.out.setCell (p := ⟨w.heap.size, 0, none⟩) (Nat.le_refl _) _).setCell (p := ⟨w.heap.size, 1, none⟩) (Nat.le_refl _) _).drew
      | exact (HBL.out.drew.setCell (p := ⟨w.heap.size, 0, none⟩) (Nat.le_refl _) _).setCell (p := ⟨w.heap.size, 1, none⟩) (Nat.le_refl _) _
      | exact two_put W0 w.heap.size _ _ _ _ c0 c1
      | exact two_put W0.drew w.heap.size _ _ _ _ c0 c1

end Go.Proofs.YtpmmbnlfifbcfaaDoor.pk
