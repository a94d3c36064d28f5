import Derived.Test.YtjalggkhpnfbiaaDoorBRdPg
import Derived.Defers
import Derived.Recover
namespace Go.Proofs.YtjalggkhpnfbiaaDoor.pg
open Go.ChangeShapes Go.WideShapes Go.ChangeAt Go.RowKit Go.Proofs.YtjalggkhpnfbiaaDoor.common Go.Maps
attribute [local go_sem ↓] Go.wp_at_zero Go.wp_at_succ

/-- a page and an error are written into their cells -/
abbrev wPE (w : World) (M E : Nat) (a b c e : Value) : World := (((w.setCell ⟨M, 0, none⟩ a).setCell ⟨M, 1, none⟩ b).setCell ⟨M, 2, none⟩ c).setCell ⟨E, 0, none⟩ e

set_option maxRecDepth 100000 in
set_option maxHeartbeats 1600000 in
theorem rcatch_panicking (M E : Nat) (hME : ¬ M = E) (ea : Addr) (u : TypeId) (pv : Value) (older : List PanicEntry) (w : World) (x y z e0 : Value) (hM : w.heap[M]? = some (.cells #[x, y, z] 25)) (hE : w.heap[E]? = some (.cells #[e0] 33)) (he : Txt w ea) :
    CallsD Tryd.prog 18 #[.pointer (some ⟨M, 0, none⟩), .pointer (some ⟨E, 0, none⟩)] (.panicking ({ v := .iface u pv, recovered := false } :: older)) w fun e u' w' =>
      e = .returned (.tuple #[]) ∧ u' = .panicking ({ v := .iface u pv, recovered := true } :: older) ∧ w' = wPE w M E (.string ⟨#[]⟩) (.slice none 0 0) (.slice none 0 0) (X ea) := by
  refine callsD_of_wpS Tryd.func18 rfl fun c₀ cs hu => ?_
  obtain ⟨q0, q1, q2, y0, y1, y2⟩ := three_cells hM
  have hE2 : (((w.setCell ⟨M, 0, none⟩ (.string ⟨#[]⟩)).setCell ⟨M, 1, none⟩ (.slice none 0 0)).setCell ⟨M, 2, none⟩ (.slice none 0 0)).heap[E]? = some (.cells #[e0] 33) := by
    rw [Below.heap_setCell _ _ _ _ (Ne.symm hME), Below.heap_setCell _ _ _ _ (Ne.symm hME), Below.heap_setCell _ _ _ _ (Ne.symm hME)]; exact hE
  have e1 : (((w.setCell ⟨M, 0, none⟩ (.string ⟨#[]⟩)).setCell ⟨M, 1, none⟩ (.slice none 0 0)).setCell ⟨M, 2, none⟩ (.slice none 0 0)).cell? ⟨E, 0, none⟩ = some e0 := by simp only [World.cell?, hE2]; simp
  have e2 : (((w.setCell ⟨M, 0, none⟩ (.string ⟨#[]⟩)).setCell ⟨M, 1, none⟩ (.slice none 0 0)).setCell ⟨M, 2, none⟩ (.slice none 0 0)).frozen? ⟨E, 0, none⟩ = false := by simp only [World.frozen?, hE2]; simp
  unfold Txt at he
  clear hM hE hE2
  apply wpS_seq
  apply wpS_region
  simp [wpOpsS, go_sem, recoverD, hu, Tryd.ntmps18, Exit.thenS]
  refine wpS_cond (t := true) (by simp [Act.eval, Array.replicate]) ?_
  simp only [if_true]
  apply wpS_region
  simp [wpOpsS, go_sem, he, q0, q1, q2, y0, y1, y2, e1, e2, bodyPostS, results, Tryd.results18]

set_option maxRecDepth 100000 in
theorem rcatch_idle (p q : Value) (w : World) :
    CallsD Tryd.prog 18 #[p, q] .returning w fun e u' w' => e = .returned (.tuple #[]) ∧ u' = .returning ∧ w' = w := by
  refine callsD_of_wpS Tryd.func18 rfl fun c₀ cs hu => ?_
  apply wpS_seq
  apply wpS_region
  simp [wpOpsS, go_sem, recoverD, hu, Tryd.ntmps18, Exit.thenS]
  refine wpS_cond (t := false) (by simp [Act.eval, Array.replicate]) ?_
  simp only [Bool.false_eq_true, if_false]
  refine wpS_of_wp (wp_skip ?_)
  cases c₀
  simp_all [bodyPostS, results, Tryd.results18]

theorem wPE_at {w : World} {M E : Nat} {x y z e0 : Value} (hME : M ≠ E) (hM : w.heap[M]? = some (.cells #[x, y, z] 25)) (hE : w.heap[E]? = some (.cells #[e0] 33)) (a b c e : Value) :
    (wPE w M E a b c e).rangeAt M 0 [a, b, c] ∧ (wPE w M E a b c e).cell? ⟨E, 0, none⟩ = some e := by
  have h1 := set_three hM a b c
  have h2 : (((w.setCell ⟨M, 0, none⟩ a).setCell ⟨M, 1, none⟩ b).setCell ⟨M, 2, none⟩ c).heap[E]? = some (.cells #[e0] 33) := by
    rw [Below.heap_setCell _ _ _ _ (Ne.symm hME), Below.heap_setCell _ _ _ _ (Ne.symm hME), Below.heap_setCell _ _ _ _ (Ne.symm hME)]; exact hE
  refine ⟨range3 ((Below.heap_setCell _ ⟨E, 0, none⟩ _ _ hME).trans h1), ?_⟩
  have h3 : (((w.setCell ⟨M, 0, none⟩ a).setCell ⟨M, 1, none⟩ b).setCell ⟨M, 2, none⟩ c).cell? ⟨E, 0, none⟩ = some e0 := by
    simp only [World.cell?, h2]
    simp
  exact World.cell?_setCell_same _ _ _ h3
theorem wPE_below {w0 w : World} (h : Below w0.heap.size w0 w) (a b c e : Value) : Below w0.heap.size w0 (wPE w w0.heap.size (w0.heap.size + 1) a b c e) :=
  (((h.setCell (p := ⟨w0.heap.size, 0, none⟩) (Nat.le_refl _) _).setCell (p := ⟨w0.heap.size, 1, none⟩) (Nat.le_refl _) _).setCell (p := ⟨w0.heap.size, 2, none⟩) (Nat.le_refl _) _).setCell (p := ⟨w0.heap.size + 1, 0, none⟩) (Nat.le_succ _) _
/-- what Read answers -/
def RdOut (b : Nat) (ea : Addr) (l : List UInt8) (x : Ending) (w' : World) : Prop :=
  (∃ t ls fs vL vF ss, pageRd l = some (t, ls, fs) ∧ x = .returned (.tuple #[.agg #[.string t, vL, vF], .nilIface]) ∧ w'.ownsRow b 9 1 vL ls.length (ls.map Value.string) ∧ OwnF b w' vF fs ss ∧ Aside ss) ∨
  (pageRd l = none ∧ x = .returned (.tuple #[.agg #[.string ⟨#[]⟩, .slice none 0 0, .slice none 0 0], X ea]))
theorem range_three {w : World} {M : Nat} {a b c : Value} (h : w.rangeAt M 0 [a, b, c]) : w.cell? ⟨M, 0, none⟩ = some a ∧ w.cell? ⟨M, 1, none⟩ = some b ∧ w.cell? ⟨M, 2, none⟩ = some c :=
  ⟨h 0 a rfl, h 1 b rfl, h 2 c rfl⟩

set_option maxRecDepth 100000 in
set_option maxHeartbeats 3200000 in
theorem read_any (s : ByteArray) (w : World) (hs : s.size ≤ 1099511627776) (ea : Addr) (hE : Esc w) (hT : Txt w ea) :
    Calls Tryd.prog 7 #[.string s] w fun x w' => RdOut w.heap.size ea s.data.toList x w' ∧ Below w.heap.size w w' := by
  have hmf : ∀ (fn : Fn) (first cap : Array Value) (w : World), (Instr.makeFunc fn first cap).run Tryd.prog w = .ok (.func fn first cap) w := fun _ _ _ _ => rfl
  have hl1 : 4 < w.heap.size := hE.lt
  have hl2 : 1 < w.heap.size := World.block_lt_of_cell? w _ hT
  have hB0 : Below w.heap.size w (((w.alloc cP).alloc (.cells #[.nilIface] 33)).alloc (.cells #[.string s] 61)) :=
    (((Below.refl w.heap.size w).alloc (Nat.le_refl _) _).alloc (by simp) _).alloc (by simp; omega) _
  have hR0 : Rr (((w.alloc cP).alloc (.cells #[.nilIface] 33)).alloc (.cells #[.string s] 61)) (w.heap.size + 1 + 1) s := by
    have := heap_alloc_new ((w.alloc cP).alloc (.cells #[.nilIface] 33)) (.cells #[.string s] 61)
    simp only [World.size_alloc] at this
    exact this
  have hM0 : (((w.alloc cP).alloc (.cells #[.nilIface] 33)).alloc (.cells #[.string s] 61)).heap[w.heap.size]? = some cP := by
    rw [Below.heap_alloc _ _ _ (by simp; omega), Below.heap_alloc _ _ _ (by simp)]; exact heap_alloc_new w _
  have hE0 : (((w.alloc cP).alloc (.cells #[.nilIface] 33)).alloc (.cells #[.string s] 61)).heap[w.heap.size + 1]? = some (.cells #[.nilIface] 33) := by
    rw [Below.heap_alloc _ _ _ (by simp)]
    have := heap_alloc_new (w.alloc cP) (.cells #[.nilIface] 33)
    simp only [World.size_alloc] at this
    exact this
  have henv : REnv (((w.alloc cP).alloc (.cells #[.nilIface] 33)).alloc (.cells #[.string s] 61)) (w.heap.size + 1 + 1) ea := ⟨hE.under hB0 hl1, hT.under hB0 hl2, by omega, by omega⟩
  have hsz : (((w.alloc cP).alloc (.cells #[.nilIface] 33)).alloc (.cells #[.string s] 61)).heap.size = w.heap.size + 1 + 1 + 1 := by simp
  have HC := hide (rpage_any (w.heap.size + 1 + 1) s ea _ hs hR0 henv)
  have HB0 := hide hB0
  have HM0 := hide hM0
  have HE0 := hide hE0
  have HSZ := hide hsz
  have HTX := hide hT
  have HL2 := hide hl2
  clear hB0 hR0 hM0 hE0 henv hsz hE hT hl1 hl2 hs
  go_enter_defers Tryd.func7, Tryd.ntmps7
  go_wp2_with fail
  generalize ((w.alloc cP).alloc (.cells #[.nilIface] 33)).alloc (.cells #[.string s] 61) = W0 at *
  refine HC.out.mono ?_
  rintro x w1 ⟨k1, ⟨t, ls, fs, vL, vF, ss, g1, rfl, hL, hF, hA⟩ | ⟨g1, rfl⟩⟩
  · have hM1 := k1.at HM0.out (by omega)
    have hE1 := k1.at HE0.out (by omega)
    have hS1 := k1.size
    have HBW : Hid (Below w.heap.size w w1) := by
      have h1 := HSZ.out
      exact HB0.out.trans ⟨k1.os, k1.tape, k1.output, k1.size, fun k hk => k1.block k (by omega) (by omega)⟩
    have G1 := hide g1
    have HL := hide hL
    have HF := hide hF
    have HA := hide hA
    obtain ⟨oa, cap, rfl⟩ := form_w hL
    obtain ⟨ob, cab, rfl⟩ := form_w hF.row
    have HWL : Hid (w.heap.size + 1 < W0.heap.size) := by have := HSZ.out; show _ < _; omega
    obtain ⟨q0, q1, q2, y0, y1, y2⟩ := three_cells hM1
    have hE2 : (((w1.setCell ⟨w.heap.size, 0, none⟩ (.string t)).setCell ⟨w.heap.size, 1, none⟩ (.slice oa ls.length cap)).setCell ⟨w.heap.size, 2, none⟩ (.slice ob fs.length cab)).heap[w.heap.size + 1]? = some (.cells #[.nilIface] 33) := by
      rw [Below.heap_setCell _ _ _ _ (by simp), Below.heap_setCell _ _ _ _ (by simp), Below.heap_setCell _ _ _ _ (by simp)]; exact hE1
    have e1 : (((w1.setCell ⟨w.heap.size, 0, none⟩ (.string t)).setCell ⟨w.heap.size, 1, none⟩ (.slice oa ls.length cap)).setCell ⟨w.heap.size, 2, none⟩ (.slice ob fs.length cab)).cell? ⟨w.heap.size + 1, 0, none⟩ = some .nilIface := by simp only [World.cell?, hE2]; simp
    have e2 : (((w1.setCell ⟨w.heap.size, 0, none⟩ (.string t)).setCell ⟨w.heap.size, 1, none⟩ (.slice oa ls.length cap)).setCell ⟨w.heap.size, 2, none⟩ (.slice ob fs.length cab)).frozen? ⟨w.heap.size + 1, 0, none⟩ = false := by simp only [World.frozen?, hE2]; simp
    have HPE := hide (wPE_at (M := w.heap.size) (E := w.heap.size + 1) (by omega) hM1 hE1 (.string t) (.slice oa ls.length cap) (.slice ob fs.length cab) .nilIface)
    have HBF := hide (wPE_below HBW.out (.string t) (.slice oa ls.length cap) (.slice ob fs.length cab) .nilIface)
    have HLF : Hid ((wPE w1 w.heap.size (w.heap.size + 1) (.string t) (.slice oa ls.length cap) (.slice ob fs.length cab) .nilIface).ownsRow w.heap.size 9 1 (.slice oa ls.length cap) ls.length (ls.map Value.string) ∧ OwnF w.heap.size (wPE w1 w.heap.size (w.heap.size + 1) (.string t) (.slice oa ls.length cap) (.slice ob fs.length cab) .nilIface) (.slice ob fs.length cab) fs ss) := by
      have hlo : w.heap.size < W0.heap.size := Nat.lt_of_succ_lt HWL.out
      exact ⟨own_low (own_off (own_off (own_off (own_off HL.out ⟨w.heap.size, 0, none⟩ (.string t) (Or.inl hlo)) ⟨w.heap.size, 1, none⟩ (.slice oa ls.length cap) (Or.inl hlo)) ⟨w.heap.size, 2, none⟩ (.slice ob fs.length cab) (Or.inl hlo)) ⟨w.heap.size + 1, 0, none⟩ .nilIface (Or.inl HWL.out)) (Nat.le_of_lt hlo),
        ((((HF.out.off ⟨w.heap.size, 0, none⟩ (.string t) (Or.inl hlo)).off ⟨w.heap.size, 1, none⟩ (.slice oa ls.length cap) (Or.inl hlo)).off ⟨w.heap.size, 2, none⟩ (.slice ob fs.length cab) (Or.inl hlo)).off ⟨w.heap.size + 1, 0, none⟩ .nilIface (Or.inl HWL.out)).lower (Nat.le_of_lt hlo)⟩
    clear g1 hL hF hA k1 hM1 hE1 hE2 hS1 HC HL HF
    go_wp2
    change Leaves _ _ _ _ _ _ (wPE w1 w.heap.size (w.heap.size + 1) (.string t) (.slice oa ls.length cap) (.slice ob fs.length cab) .nilIface)
    generalize wPE w1 w.heap.size (w.heap.size + 1) (.string t) (.slice oa ls.length cap) (.slice ob fs.length cab) .nilIface = WF at *
    refine leaves_cons (f := 18) (args := #[.pointer (some ⟨w.heap.size, 0, none⟩), .pointer (some ⟨w.heap.size + 1, 0, none⟩)]) (by simp) (by simp [go_sem]) ?_
    refine (rcatch_idle _ _ _).mono ?_
    rintro x u' w9 ⟨rfl, rfl, rfl⟩
    simp only [Leaves, settle]
    obtain ⟨p0, p1⟩ := HPE.out
    obtain ⟨d0, d1, d2⟩ := range_three p0
    refine ⟨.tuple #[.agg #[.string t, .slice oa ls.length cap, .slice ob fs.length cab], .nilIface], ?_, Or.inl ⟨t, ls, fs, _, _, ss, G1.out, rfl, HLF.out.1, HLF.out.2, HA.out⟩, HBF.out⟩
    simp [results, Tryd.results7, go_sem, d0, d1, d2, p1]
  · have hM1 := k1.at HM0.out (by omega)
    have hE1 := k1.at HE0.out (by omega)
    have HBW : Hid (Below w.heap.size w w1) := by
      have h1 := HSZ.out
      exact HB0.out.trans ⟨k1.os, k1.tape, k1.output, k1.size, fun k hk => k1.block k (by omega) (by omega)⟩
    have G1 := hide g1
    have hT1 := HTX.out.under HBW.out HL2.out
    have HCP := hide (rcatch_panicking w.heap.size (w.heap.size + 1) (by omega) ea 141 (.pointer (some ea)) [] w1 _ _ _ _ hM1 hE1 hT1)
    have HPE := hide (wPE_at (M := w.heap.size) (E := w.heap.size + 1) (by omega) hM1 hE1 (.string ⟨#[]⟩) (.slice none 0 0) (.slice none 0 0) (X ea))
    have HBF := hide (wPE_below HBW.out (.string ⟨#[]⟩) (.slice none 0 0) (.slice none 0 0) (X ea))
    clear g1 k1 hM1 hE1 hT1 HC
    go_wp2
    refine leaves_cons (f := 18) (args := #[.pointer (some ⟨w.heap.size, 0, none⟩), .pointer (some ⟨w.heap.size + 1, 0, none⟩)]) (by simp) (by simp [go_sem]) ?_
    refine HCP.out.mono ?_
    rintro x u' w9 ⟨rfl, rfl, rfl⟩
    obtain ⟨p0, p1⟩ := HPE.out
    obtain ⟨d0, d1, d2⟩ := range_three p0
    have HBF' := HBF.out
    show Leaves _ _ _ _ [] .returning (wPE w1 w.heap.size (w.heap.size + 1) (.string ⟨#[]⟩) (.slice none 0 0) (.slice none 0 0) (X ea))
    clear HBF HPE HCP
    generalize wPE w1 w.heap.size (w.heap.size + 1) (.string ⟨#[]⟩) (.slice none 0 0) (.slice none 0 0) (X ea) = WF at *
    simp only [Leaves]
    refine ⟨.tuple #[.agg #[.string ⟨#[]⟩, .slice none 0 0, .slice none 0 0], X ea], ?_, Or.inr ⟨G1.out, rfl⟩, HBF'⟩
    simp [results, Tryd.results7, go_sem, d0, d1, d2, p1]
end Go.Proofs.YtjalggkhpnfbiaaDoor.pg
