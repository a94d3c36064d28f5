import Derived.Test.YtpfamgahnphceaaDoorPkIdent
import Derived.Test.YtpfamgahnphceaaDoorErrWalks
import Derived.Deep.RegionHeld3
import Derived.Lib.LazyBuf
import Derived.Great.BuildSlice
import Derived.Deep.AppendLies
namespace Go.Proofs.YtpfamgahnphceaaDoor.pk
open Go.ChangeShapes Go.WideShapes Go.ChangeAt Go.RowKit Go.Proofs.YtpfamgahnphceaaDoor.common
open Go.Proofs.YtpfamgahnphceaaDoor.radw (B Lay)
attribute [local go_sem ↓] Go.wp_at_zero Go.wp_at_succ

abbrev XE (a : Addr) : Value := .iface 69 (.pointer (some a))
def ErrAt (w : World) (g : Nat) (a : Addr) : Prop := w.cell? ⟨g, 0, none⟩ = some (XE a)

set_option maxHeartbeats 800000 in
theorem push_size (w : World) (p : Nat) (s : ByteArray) (a : Addr) (hs : s.size ≠ 32) (he : ErrAt w 0 a) :
    Calls Tryd.prog 6 #[ptr p, .string s] w fun e w' => e = .returned (XE a) ∧ w' = w := by
  have h1 : ¬ (s.size : Int) = 32 := by omega
  have h2 : ((s.size : Int) == 32) = false := beq_false_of_ne h1
  have c0 : w.cell? ⟨0, 0, none⟩ = some (XE a) := he
  clear hs he
  go_enter Tryd.func6, Tryd.ntmps6
  go_wp2
  go_ret
  exact ⟨rfl, rfl⟩

set_option maxHeartbeats 800000 in
theorem push_many (w : World) (p : Nat) (gb : Option Nat) (l : List (List UInt8)) (s : ByteArray) (a : Addr) (hs : s.size = 32) (hl : 1024 ≤ l.length) (h : Src w p gb l) (he : ErrAt w 1 a) :
    Calls Tryd.prog 6 #[ptr p, .string s] w fun e w' => e = .returned (XE a) ∧ w' = w := by
  obtain ⟨v, hv, hL⟩ := h.lie
  obtain ⟨ao, cap, rfl⟩ := hL.len
  have c1 := cell0 hv
  have h1 : (1024 : Int) ≤ (l.length : Int) := by omega
  have h2 : ((s.size : Int) == 32) = true := by rw [hs]; rfl
  have c0 : w.cell? ⟨1, 0, none⟩ = some (XE a) := he
  clear hs he hv hL h hl
  generalize l.length = n at *
  go_enter Tryd.func6, Tryd.ntmps6
  go_wp2
  go_ret
  exact ⟨rfl, rfl⟩

/-- copy of a string's first bytes into a row -/
theorem run_copy_min {P : Program} (w : World) (dT sT ty elem : TypeId) (b o dLen dCap m : Nat) (t : ByteArray)
    (hu : P.underlying dT = some (.slice elem)) (hz : ∀ w, (Go.sizeOf elem).run P w = .ok 1 w) (hm : Nat.min t.size dLen = m)
    (hc : ∀ j, j < m → (w.cell? ⟨b, o + j, none⟩).isSome = true) (hf : ∀ j, j < m → w.frozen? ⟨b, o + j, none⟩ = false) :
    (Builtin.copy_ #[dT, sT] ty #[.slice (some ⟨b, o, none⟩) dLen dCap, .string t]).run P w = .ok (goInt m) (w.setCells b o ((t.data.toList.take m).map B)) := by
  have hms : m ≤ t.size := by rw [← hm]; exact Nat.min_le_left _ _
  have hl : ((t.data.toList.take m).map B).length = m := by simp; omega
  have hst := run_storeCells_cells (P := P) b o ((t.data.toList.take m).map B) 0 w (by rw [hl]; simpa using hc) (by rw [hl]; simpa using hf) (by
    intro v hv
    obtain ⟨x, _, rfl⟩ := List.mem_map.1 hv
    rfl)
  simp [Builtin.copy_, run_underlying hu, Builtin.lenOf, Builtin.firstCells, hz, hm]
  rw [List.map_take] at hst
  rw [hst]
  rfl

theorem sizeOf8 (w : World) : (Go.sizeOf 5).run Tryd.prog w = .ok 1 w := by kernel_rfl
theorem copyD (W : World) (L : ByteArray) (hL : L.size = 32) : ∃ W' : World,
    (Builtin.copy_ #[56, 9] 3 #[.slice (some ⟨W.heap.size, 0, none⟩) 32 32, .string L]).run Tryd.prog (W.alloc (.cells zero32 55)) = .ok (goInt 32) W' ∧
      W'.rangeAt W.heap.size 0 (L.data.toList.map B) ∧ Below W.heap.size W W' ∧ W'.heap.size = W.heap.size + 1 := by
  have ht : (W.alloc (.cells zero32 55)).there W.heap.size 0 32 := there32 (heap_alloc_new W _)
  have hb : Below W.heap.size W (W.alloc (.cells zero32 55)) := (Below.refl _ _).alloc (Nat.le_refl _) _
  have hll : L.data.toList.length = 32 := by rw [plen, hL]
  have hk : (L.data.toList.take 32).map B = L.data.toList.map B := by rw [List.take_of_length_le (by omega)]
  have c := run_copy_min (P := Tryd.prog) (W.alloc (.cells zero32 55)) 56 9 3 5 W.heap.size 0 32 32 32 L Tryd.underlying56 sizeOf8 (by rw [hL]; rfl) (fun j hj => (ht j hj).1) (fun j hj => (ht j hj).2)
  rw [hk] at c
  exact ⟨_, c, World.rangeAt_setCells_same _ _ _ _ (by rw [List.length_map, hll]; exact ht), common.below_setCells hb (Nat.le_refl _) _ _, by rw [size_sets]; simp⟩

theorem infoD : (Tryd.prog.info? 55).map (fun i => (i.zero, i.size, i.bytes)) = some (some (.agg zero32), 32, 32) := by kernel_rfl
theorem undD : Tryd.prog.underlying 55 = some (.array 32 5) := Tryd.underlying55

theorem own_form {w : World} {base : Nat} {e : TypeId} {size : Nat} {v : Value} {n : Nat} {xs : List Value} (h : w.ownsRow base e size v n xs) (hn : 0 < n) : ∃ gg cap', v = .slice (some ⟨gg, 0, none⟩) n cap' := by
  rcases h.2 with ⟨_, h0⟩ | ⟨gg, cap', _, h0, _⟩
  · omega
  · exact ⟨gg, cap', h0⟩

/-- a slice of one array -/
theorem fill_one (A : Array Value) (v : Value) (hA : A.size = 32) (hv : v.cells.size = 32) : Instr.fill (fun i => some (i * 32, 32)) A [(0, v)] = some v.cells := by
  obtain ⟨r, h1, h2, h3⟩ := Go.Great.fill_dense (s := 32) (by decide) [v] 0 A (by intro u hu; rw [List.mem_singleton.1 hu]; exact hv) (by simp; omega)
  have e : r = v.cells := by
    apply Array.ext_getElem?
    intro k
    rw [h3 k]
    by_cases hk : k < 32
    · rw [if_pos (by simp; omega), Nat.div_eq_of_lt hk, Nat.mod_eq_of_lt hk]; rfl
    · rw [if_neg (by simp; omega), Array.getElem?_eq_none (by omega), Array.getElem?_eq_none (by omega)]
  rw [← e]
  exact h1
theorem build_one (dst : Option Tmp) (ty : TypeId) (pos : String) (after : Array Edge) (n : Tmp) (a : Act) (w : World) (K : Act → World → Prop) (Q : Exit → Act → World → Prop) (h : (a.eval (.tmp n)).cells.size = 32) :
    Oper.wp Tryd.prog { dst := dst, op := .buildSlice 51 1 #[(0, .tmp n)], type := ty, pos := pos, after := after, guard := none } a w K Q = K (a.put dst (.slice (some ⟨w.heap.size, 0, none⟩) 1 1)) (w.alloc (.cells (a.eval (.tmp n)).cells 55)) := by
  obtain ⟨i0, hi, hz0, hz1, hz2⟩ := info_parts infoD
  have hf : Instr.fill (fun i => some (i * i0.size, i0.size)) ((Array.range (1 * i0.size)).map ((Value.agg zero32).cells[· % (Value.agg zero32).cells.size]!)) ((#[(0, Operand.tmp n)] : Array (Nat × Operand)).map fun (i, x) => (i, a.eval x)).toList = some (a.eval (.tmp n)).cells := by
    rw [hz1]
    have e : ((#[(0, Operand.tmp n)] : Array (Nat × Operand)).map fun (i, x) => (i, a.eval x)).toList = [(0, a.eval (.tmp n))] := by simp
    rw [e]
    refine fill_one _ _ ?_ h
    rw [Array.size_map, Array.size_range]
  unfold Oper.wp execOp
  simp only [Sem.run_bind, run_buildSlice w 51 55 1 _ _ i0 _ Tryd.underlying51 hi hz0 (by rw [hz1]; decide) (by rw [hz1]; decide) hf, Result.andThen_ok]
  rfl

/-- the cells of an array -/
def arrAt (w : World) : Value → Array Value
  | .pointer (some ad) => ((List.range 32).map fun j => (w.cell? ⟨ad.block, ad.off + j, none⟩).getD undef).toArray
  | _ => #[]
/-- a pointer to an array whose cells are there -/
def Full (w : World) (v : Value) : Prop := ∃ b o cs, v = .pointer (some ⟨b, o, none⟩) ∧ cs.length = 32 ∧ w.rangeAt b o cs
theorem arr_is {w : World} {b o : Nat} {cs : List Value} (h : w.rangeAt b o cs) (hl : cs.length = 32) : arrAt w (.pointer (some ⟨b, o, none⟩)) = cs.toArray := by
  show ((List.range 32).map fun j => (w.cell? ⟨b, o + j, none⟩).getD undef).toArray = _
  congr 1
  apply List.ext_getElem
  · simp [hl]
  · intro j h1 h2
    have := h j cs[j] (List.getElem?_eq_getElem h2)
    simp [this]
theorem load_long (dst : Option Tmp) (ty : TypeId) (pos : String) (after : Array Edge) (n : Tmp) (a : Act) (w : World) (K : Act → World → Prop) (Q : Exit → Act → World → Prop) (h : Full w (a.eval (.tmp n))) :
    Oper.wp Tryd.prog { dst := dst, op := .load 55 (.tmp n), type := ty, pos := pos, after := after, guard := none } a w K Q = K (a.put dst (.agg (arrAt w (a.eval (.tmp n))))) w := by
  obtain ⟨b, o, cs, hv, hl, hr⟩ := h
  rw [hv, arr_is hr hl]
  unfold Oper.wp execOp
  simp only [hv, Instr.loadAt, Instr.sureAddr, Sem.run_bind, Sem.run_pure, Result.andThen_ok, run_loadVar_mid (P := Tryd.prog) w b o 55 cs (.array 32 5) hr undD rfl (by rw [hl]; exact sizeD)]
  rfl

attribute [local go_sem ↓] build_one load_long
/-- how putting a draw behind the others ends -/
def PsOut (p : Nat) (gb : Option Nat) (l : List (List UInt8)) (w w' : World) : Prop := ∃ gb', (gb' = gb ∨ ∃ g, gb' = some g ∧ w.heap.size ≤ g) ∧ Src w' p gb' l ∧ Fr p gb w w'

set_option maxRecDepth 100000 in
set_option maxHeartbeats 3200000 in
theorem push_room (w : World) (p g o cap : Nat) (l : List (List UInt8)) (s : ByteArray) (hs : s.size = 32) (hl : l.length < 1024) (hall : ∀ d ∈ l, d.length = 32)
    (hv : w.heap[p]? = some (.cells #[.slice (some ⟨g, o, none⟩) l.length cap] 53 (0, 0))) (hL : Ln w 55 32 (some g) (.slice (some ⟨g, o, none⟩) l.length cap) l.length (dcs l)) (hroom : l.length + 1 ≤ cap) :
    Calls Tryd.prog 6 #[ptr p, .string s] w fun e w' => e = .returned .nilIface ∧ PsOut p (some g) (l ++ [s.data.toList]) w w' := by
  have hz32 := zero32_run
  have hp : p < w.heap.size := (Array.getElem?_eq_some_iff.1 hv).1
  have hpg : p ≠ g := fun e => by
    obtain ⟨_, cur, hc⟩ := hL.lt g rfl
    rw [← e, hv] at hc
    simp at hc
  have hg : g < w.heap.size := (hL.lt g rfl).1
  obtain ⟨i0, hi, hz0, hz1, hz2⟩ := info_parts infoD
  obtain ⟨W3, hcp, r3, b3, z3⟩ := copyD w s hs
  have hDl : (s.data.toList.map B).length = 32 := by rw [List.length_map, plen, hs]
  have h1 : ∀ u ∈ s.data.toList.map B, u.oneCell' = true := by intro v hv; obtain ⟨x, _, rfl⟩ := List.mem_map.1 hv; rfl
  have hsn : dcs (l ++ [s.data.toList]) = dcs l ++ s.data.toList.map B := dcs_snoc _ _
  have hall2 : ∀ d ∈ l ++ [s.data.toList], d.length = 32 := by
    intro d hd
    rcases List.mem_append.1 hd with h | h
    · exact hall d h
    · rw [List.mem_singleton.1 h, plen, hs]
  have hv3 : W3.heap[p]? = some (.cells #[.slice (some ⟨g, o, none⟩) l.length cap] 53 (0, 0)) := (b3.block p hp).trans hv
  have hL3 : Ln W3 55 32 (some g) (.slice (some ⟨g, o, none⟩) l.length cap) l.length (dcs l) := hL.keep fun k hk => by cases hk; exact b3.block g hg
  generalize s.data.toList.map B = D at *
  have cp : (w.alloc (.cells zero32 55)).cell? ⟨p, 0, none⟩ = some (.slice (some ⟨g, o, none⟩) l.length cap) := cell0 ((heap_alloc_old w _ hp).trans hv)
  have cw := cell0 hv
  have q1 : ((s.size : Int) == 32) = true := by rw [hs]; rfl
  have q2 : ¬ (1024 : Int) ≤ (l.length : Int) := by omega
  have hI : (Tryd.prog.info? 55).map (·.size) = some D.length := by rw [hDl]; exact sizeD
  have hU := undD
  have c3 := cell0 hv3
  go_enter Tryd.func6, Tryd.ntmps6
  go_wp2_with fail
  have f3 := free0 hv3
  have HV3 := hide hv3
  have HL3 := hide hL3
  have HB3 := hide b3
  have HZ3 := hide z3
  have HP := hide hp
  have HG := hide hg
  have HPG := hide hpg
  have HR := hide hroom
  have HD := hide hDl
  have H1 := hide h1
  have HSN := hide hsn
  have HA2 := hide hall2
  have hDs : D.toArray.size = 32 := by rw [List.size_toArray]; exact hDl
  clear hv3 hL3 b3 z3 hp hg hpg hroom hcp hv hL cp cw h1 hsn hall2 hall hl hs
  have hF3 : w.heap.size < W3.heap.size := by have := HZ3.out; omega
  have r4 : (W3.alloc (.cells D.toArray 55)).drew.rangeAt w.heap.size 0 D := range_block r3 (heap_alloc_old W3 _ hF3)
  have hv4 : (W3.alloc (.cells D.toArray 55)).drew.heap[p]? = some (.cells #[.slice (some ⟨g, o, none⟩) l.length cap] 53 (0, 0)) := (heap_alloc_old W3 _ (Nat.lt_trans HP.out hF3)).trans HV3.out
  have hL4 : Ln (W3.alloc (.cells D.toArray 55)).drew 55 32 (some g) (.slice (some ⟨g, o, none⟩) l.length cap) l.length (dcs l) := HL3.out.keep fun k hk => by cases hk; exact heap_alloc_old W3 _ (Nat.lt_trans HG.out hF3)
  have c4 := cell0 hv4
  have r5 : ((W3.alloc (.cells D.toArray 55)).drew.setCells g (o + l.length * 32) D).rangeAt w.heap.size 0 D := range_block r4 (sets_other _ _ _ _ _ (by have := HG.out; omega))
  have hv5 : ((W3.alloc (.cells D.toArray 55)).drew.setCells g (o + l.length * 32) D).heap[p]? = some (.cells #[.slice (some ⟨g, o, none⟩) l.length cap] 53 (0, 0)) := (sets_other _ _ _ _ _ HPG.out).trans hv4
  have c5 := cell0 hv5
  have f5 := free0 hv5
  have HV5 := hide hv5
  have HL5 := hide (hL4.room HR.out HD.out)
  have HSP : Hid (∀ j, j < D.length → ((W3.alloc (.cells D.toArray 55)).drew.cell? ⟨g, o + l.length * 32 + j, none⟩).isSome = true ∧ (W3.alloc (.cells D.toArray 55)).drew.frozen? ⟨g, o + l.length * 32 + j, none⟩ = false) := by
    intro j hj
    rcases hL4.2 with ⟨h0, _⟩ | ⟨g', o', cap', h0, hv', _, _, _, ht, _⟩
    · cases h0
    · cases h0
      cases hv'
      have := ht (l.length * 32 + j) (by have := HR.out; have := HD.out; omega)
      rwa [← Nat.add_assoc] at this
  clear hv4 hL4 hv5 hF3
  have hfull : Full W3 (.pointer (some ⟨w.heap.size, 0, none⟩)) := ⟨_, _, D, rfl, hDl, r3⟩
  have harr : arrAt W3 (.pointer (some ⟨w.heap.size, 0, none⟩)) = D.toArray := arr_is r3 hDl
  have hfull' : Full W3.drew (.pointer (some ⟨w.heap.size, 0, none⟩)) := hfull
  have harr' : arrAt W3.drew (.pointer (some ⟨w.heap.size, 0, none⟩)) = D.toArray := harr
  go_region_law ((refine step_append_room (by rfl) _ _ _ (by rfl) 55 i0 32 Tryd.underlying51 hi hz1 g o l.length cap (by rfl) ⟨W3.heap.size, 0, none⟩ 1 1 D (by rfl) (by rw [HD.out]) (World.news_of_block (cs := D.toArray) (t := 55) (fr := (0, 0)) (heap_alloc_new W3 _)) H1.out HR.out HSP.out ?_))
  all_goals
    go_wp2
    go_ret
    refine ⟨rfl, some g, Or.inl rfl, ⟨⟨_, set_here HV5.out, ?_⟩, HA2.out⟩, ?_⟩
    · have := HL5.out.keep (w' := ((W3.alloc (.cells D.toArray 55)).drew.setCells g (o + l.length * 32) D).setCell ⟨p, 0, none⟩ (.slice (some ⟨g, o, none⟩) (l.length + 1) cap)) fun k hk => by cases hk; exact set_other _ _ _ _ (Ne.symm HPG.out)
      rw [HSN.out, List.length_append]
      exact this
    · refine ⟨?_, ?_, ?_, ?_, fun k hk h1 h2 => ?_⟩
      · exact (os_sets g D _ _).1.trans HB3.out.os
      · exact (os_sets g D _ _).2.1.trans HB3.out.tape
      · exact (os_sets g D _ _).2.2.trans HB3.out.output
      · rw [size_set, size_sets]
        show w.heap.size ≤ (W3.alloc _).heap.size
        have := HZ3.out
        simp
        omega
      · rw [set_other _ _ _ _ h1, sets_other _ _ _ _ _ (fun e => h2 (by rw [e]))]
        exact (heap_alloc_old W3 _ (by have := HZ3.out; omega)).trans (HB3.out.block k hk)

set_option maxRecDepth 100000 in
set_option maxHeartbeats 3200000 in
theorem push_grow (w : World) (p cap : Nat) (gb : Option Nat) (ao : Option Addr) (l : List (List UInt8)) (s : ByteArray) (hs : s.size = 32) (hl : l.length < 1024) (hall : ∀ d ∈ l, d.length = 32)
    (hv : w.heap[p]? = some (.cells #[.slice ao l.length cap] 53 (0, 0))) (hnone : ao = none → l.length = 0 ∧ cap = 0)
    (holds : ∀ b, ao = some b → ∀ j u, (dcs l)[j]? = some u → (l.length = 0 ∨ b.block < w.heap.size) ∧ w.cell? (b.add j) = some u) (hlen : (dcs l).length = l.length * 32) (hroom : cap < l.length + 1) :
    Calls Tryd.prog 6 #[ptr p, .string s] w fun e w' => e = .returned .nilIface ∧ PsOut p gb (l ++ [s.data.toList]) w w' := by
  have hz32 := zero32_run
  have hp : p < w.heap.size := (Array.getElem?_eq_some_iff.1 hv).1
  obtain ⟨i0, hi, hz0, hz1, hz2⟩ := info_parts infoD
  obtain ⟨W3, hcp, r3, b3, z3⟩ := copyD w s hs
  have hDl : (s.data.toList.map B).length = 32 := by rw [List.length_map, plen, hs]
  have h1 : ∀ u ∈ s.data.toList.map B, u.oneCell' = true := by intro v hv; obtain ⟨x, _, rfl⟩ := List.mem_map.1 hv; rfl
  have hsn : dcs (l ++ [s.data.toList]) = dcs l ++ s.data.toList.map B := dcs_snoc _ _
  have hall2 : ∀ d ∈ l ++ [s.data.toList], d.length = 32 := by
    intro d hd
    rcases List.mem_append.1 hd with h | h
    · exact hall d h
    · rw [List.mem_singleton.1 h, plen, hs]
  have hv3 : W3.heap[p]? = some (.cells #[.slice ao l.length cap] 53 (0, 0)) := (b3.block p hp).trans hv
  generalize s.data.toList.map B = D at *
  have cp : (w.alloc (.cells zero32 55)).cell? ⟨p, 0, none⟩ = some (.slice ao l.length cap) := cell0 ((heap_alloc_old w _ hp).trans hv)
  have cw := cell0 hv
  have q1 : ((s.size : Int) == 32) = true := by rw [hs]; rfl
  have q2 : ¬ (1024 : Int) ≤ (l.length : Int) := by omega
  have c3 := cell0 hv3
  have hF3 : w.heap.size < W3.heap.size := by omega
  have hv4 : (W3.alloc (.cells D.toArray 55)).drew.heap[p]? = some (.cells #[.slice ao l.length cap] 53 (0, 0)) := (heap_alloc_old W3 _ (Nat.lt_trans hp hF3)).trans hv3
  have c4 := cell0 hv4
  have HO : Hid (∀ b, ao = some b → ∀ j u, (dcs l)[j]? = some u → (W3.alloc (.cells D.toArray 55)).drew.cell? (b.add j) = some u) := by
    intro b hb j u hu
    obtain ⟨hb2, hc⟩ := holds b hb j u hu
    have hlt : b.block < w.heap.size := by
      rcases hb2 with h0 | h0
      · have hj := (List.getElem?_eq_some_iff.1 hu).1
        rw [hlen, h0] at hj
        omega
      · exact h0
    have hbl : (b.add j).block = b.block := by unfold Addr.add; split <;> rfl
    rw [← hc]
    apply World.cell?_of_block
    rw [hbl]
    exact (heap_alloc_old W3 _ (Nat.lt_trans hlt hF3)).trans (b3.block _ hlt)
  have hfull : Full W3 (.pointer (some ⟨w.heap.size, 0, none⟩)) := ⟨_, _, D, rfl, hDl, r3⟩
  have harr : arrAt W3 (.pointer (some ⟨w.heap.size, 0, none⟩)) = D.toArray := arr_is r3 hDl
  have hfull' : Full W3.drew (.pointer (some ⟨w.heap.size, 0, none⟩)) := hfull
  have harr' : arrAt W3.drew (.pointer (some ⟨w.heap.size, 0, none⟩)) = D.toArray := harr
  have HV4 := hide hv4
  have HB3 := hide b3
  have HZ3 := hide z3
  have HP := hide hp
  have HR := hide hroom
  have HD := hide hDl
  have H1 := hide h1
  have HSN := hide hsn
  have HA2 := hide hall2
  have HN := hide hnone
  have HLN := hide hlen
  have HL := hide hl
  have hDs : D.toArray.size = 32 := by rw [List.size_toArray]; exact hDl
  clear hv3 b3 z3 hp hroom hv h1 hsn hall2 hall hl hs hF3 hv4 holds hlen hnone
  go_enter Tryd.func6, Tryd.ntmps6
  go_wp2_with fail
  clear hcp cp cw
  go_region_law ((refine step_append_grows (by rfl) _ _ _ (by rfl) 55 i0 (.agg zero32) 32 32 Tryd.underlying51 hi hz0 hz1 hz2 rfl (by decide) ao l.length cap (dcs l) (by rfl) HN.out HLN.out HO.out ⟨W3.heap.size, 0, none⟩ 1 1 D (by rfl) (by rw [HD.out]) (World.news_of_block (cs := D.toArray) (t := 55) (fr := (0, 0)) (heap_alloc_new W3 _)) H1.out HR.out (by have := HL.out; unfold maxLen; omega) (by have := HL.out; omega) ?_; intro v' w4 hown hgrow; obtain ⟨gg, cap', rfl⟩ := own_form hown (Nat.succ_pos _); have hv5 : w4.heap[p]? = some (.cells #[.slice ao l.length cap] 53 (0, 0)) := (hgrow.block p (by show p < (W3.alloc _).heap.size; have := HP.out; have := HZ3.out; simp; omega) (by simp)).trans HV4.out; have c5 := cell0 hv5; have f5 := free0 hv5))
  all_goals
    have HO5 := hide hown
    have HG5 := hide hgrow
    have HV5 := hide hv5
    clear hown hgrow hv5
    go_wp2
    go_ret
    obtain ⟨gn, hln, hge⟩ := Ln.own HO5.out (Nat.succ_pos _)
    have hge2 : w.heap.size < gn := by
      have h3 : (W3.alloc (.cells D.toArray 55)).drew.heap.size = W3.heap.size + 1 := by show (W3.alloc _).heap.size = _; simp
      have := HZ3.out
      omega
    have hsz4 : W3.heap.size + 1 ≤ w4.heap.size := by
      have h3 : (W3.alloc (.cells D.toArray 55)).drew.heap.size = W3.heap.size + 1 := by show (W3.alloc _).heap.size = _; simp
      have := HG5.out.size
      omega
    refine ⟨rfl, some gn, Or.inr ⟨gn, rfl, by omega⟩, ⟨⟨_, set_here HV5.out, ?_⟩, HA2.out⟩, ?_⟩
    · have := hln.keep (w' := w4.setCell ⟨p, 0, none⟩ (.slice (some ⟨gg, 0, none⟩) (l.length + 1) cap')) fun k hk => by cases hk; exact set_other _ _ _ _ (by show _ ≠ p; have := HP.out; omega)
      rw [HSN.out, List.length_append]
      exact this
    · refine ⟨HG5.out.os.trans HB3.out.os, HG5.out.tape.trans HB3.out.tape, HG5.out.output.trans HB3.out.output, ?_, fun k hk h1 h2 => ?_⟩
      · rw [size_set]
        have := HZ3.out
        omega
      · rw [set_other _ _ _ _ h1]
        have hk3 : k < W3.heap.size := by have := HZ3.out; omega
        have h4 := HG5.out.block k (by show k < (W3.alloc _).heap.size; simp; omega) (by simp)
        exact h4.trans ((heap_alloc_old W3 _ hk3).trans (HB3.out.block k hk))

theorem push_good (w : World) (p : Nat) (gb : Option Nat) (l : List (List UInt8)) (s : ByteArray) (hs : s.size = 32) (hl : l.length < 1024) (h : Src w p gb l) :
    Calls Tryd.prog 6 #[ptr p, .string s] w fun e w' => e = .returned .nilIface ∧ PsOut p gb (l ++ [s.data.toList]) w w' := by
  obtain ⟨v, hv, hL⟩ := h.lie
  rcases hL.2 with ⟨rfl, h0, ao, rfl⟩ | ⟨g, o, cap, rfl, rfl, _, h1, h2, h3, h4⟩
  · have hnil : dcs l = [] := List.eq_nil_of_length_eq_zero (by rw [hL.1, h0])
    have hv' : w.heap[p]? = some (.cells #[.slice ao l.length 0] 53 (0, 0)) := by rw [h0]; exact hv
    exact push_grow w p 0 none ao l s hs hl h.all hv' (fun _ => ⟨h0, rfl⟩) (fun b _ j u hu => by rw [hnil] at hu; cases hu) hL.1 (by omega)
  · by_cases hr : l.length + 1 ≤ cap
    · exact push_room w p g o cap l s hs hl h.all hv hL hr
    · refine push_grow w p cap (some g) _ l s hs hl h.all hv (fun e => by cases e) (fun b hb j u hu => ?_) hL.1 (by omega)
      cases hb
      refine ⟨Or.inr (hL.lt g rfl).1, ?_⟩
      rw [Addr.add_lit]
      exact h4 j u hu

end Go.Proofs.YtpfamgahnphceaaDoor.pk
