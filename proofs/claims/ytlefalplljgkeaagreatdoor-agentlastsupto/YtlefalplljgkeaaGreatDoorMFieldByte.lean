import Derived.Test.YtlefalplljgkeaaGreatDoorMAgMath
import Derived.Test.YtlefalplljgkeaaGreatDoorMLookWalks
import Derived.Laws.Tables
namespace Go.Proofs.YtlefalplljgkeaaGreatDoor.fd
open Go.ChangeShapes Go.WideShapes Go.ChangeAt Go.RowKit Go.Proofs.YtlefalplljgkeaaGreatDoor.common Go.Proofs.YtlefalplljgkeaaGreatDoor.bk
attribute [local go_sem ↓] Go.wp_at_zero Go.wp_at_succ

/-- the table's cells -/
def tabL : List Value := (List.range 256).map fun n => Value.int .u8 (Fd.flagN n : Int)
theorem tabL_len : tabL.length = 256 := by unfold tabL; rw [List.length_map, List.length_range]
theorem tabL_at (c : UInt8) : tabL[c.toNat]? = some (.int .u8 (Fd.flagN c.toNat : Int)) := by
  have h := c.toNat_lt
  unfold tabL
  rw [List.getElem?_map, List.getElem?_range (by omega)]; rfl
theorem tabL_one : tabL.toArray.all (·.oneCell') = true := all_oneCell_toArray (by intro v hv; obtain ⟨x, _, rfl⟩ := List.mem_map.1 hv; rfl)
theorem size_tab : (Tryz.prog.info? 62).map (·.size) = some tabL.length := by rw [tabL_len]; kernel_rfl
theorem size_tab2 : (Tryz.prog.info? 62).map (·.size) = some tabL.toArray.size := by rw [List.size_toArray]; exact size_tab

theorem wpList_build_is {P : Program} {ops : Array Oper} {rest : List Oper} {o : Oper} {a : Act} {w : World} {Q : Exit → Act → World → Prop} (hg : o.guard = none) (t : TypeId) (parts : Array (Nat × Operand)) (ho : o.op = .build t parts)
    (cells : Array Value) (hc : P.built t (parts.map fun (i, x) => (i, a.eval x)).toList = some cells)
    (h : wpList P ops Q rest (a.put o.dst (.agg cells)) w) : wpList P ops Q (o :: rest) a w :=
  wpList_build hg t parts ho (by rw [hc]; rfl) (by rw [hc]; exact h)

/-- the table lies in the block b from the place o on -/
def Tab (w : World) (b o : Nat) : Prop := w.rangeAt b o tabL
theorem Tab.cell {w : World} {b o : Nat} (h : Tab w b o) (c : UInt8) : w.cell? ⟨b, o + c.toNat, none⟩ = some (.int .u8 (Fd.flagN c.toNat : Int)) := h c.toNat _ (tabL_at c)
theorem Tab.lt {w : World} {b o : Nat} (h : Tab w b o) : b < w.heap.size := World.block_lt_of_cell? w _ (h.cell 0)
theorem Tab.below {w w' : World} {b o : Nat} (h : Tab w b o) (hb : Below w.heap.size w w') : Tab w' b o := range_below h hb h.lt
theorem Tab.drew {w : World} {b o : Nat} (h : Tab w b o) : Tab w.drew b o := h

set_option maxRecDepth 100000 in
set_option maxHeartbeats 1600000 in
theorem classes_any (w : World) : Calls Tryz.prog 15 #[] w fun e w' => e = .returned (.agg tabL.toArray) ∧ Below w.heap.size w w' := by
  have hth : (w.alloc (.cells Tryz.zeroCells62 62)).there w.heap.size 0 tabL.toArray.size := by
    have e : tabL.toArray.size = Tryz.zeroCells62.size := by rw [List.size_toArray, tabL_len]; kernel_rfl
    rw [e]
    exact there_new_at w _ _ _ _ rfl rfl
  have HTH := hide hth
  clear hth
  go_enter Tryz.func15, Tryz.ntmps15
  go_wp2_with (first
    | (refine wpList_build_is rfl 62 _ rfl tabL.toArray (by kernel_rfl) ?_)
    | (refine wpList_store_mid rfl 62 (.tmp 0) (.tmp 1) rfl w.heap.size 0 tabL.toArray rfl rfl HTH.out size_tab2 tabL_one ?_))
  refine bodyPost_ret (v := .agg tabL.toArray) (results_cell1 (b := w.heap.size) (o := 0) (cs := tabL) Tryz.results15 _ rfl ?_ Tryz.underlying62 rfl size_tab) rfl ⟨rfl, ?_⟩
  · have := World.rangeAt_setCells_same (w.alloc (.cells Tryz.zeroCells62 62)) w.heap.size 0 tabL (by simpa using HTH.out)
    simpa using this
  · exact below_setCells ((Below.refl _ _).alloc (Nat.le_refl _) _) (Nat.le_refl _) _ _

end Go.Proofs.YtlefalplljgkeaaGreatDoor.fd

namespace Go.Proofs.YtlefalplljgkeaaGreatDoor.fd
open Go.ChangeShapes Go.WideShapes Go.ChangeAt Go.RowKit Go.Proofs.YtlefalplljgkeaaGreatDoor.common Go.Proofs.YtlefalplljgkeaaGreatDoor.bk
attribute [local go_sem ↓] Go.wp_at_zero Go.wp_at_succ

theorem flag_tok (c : UInt8) : (Fd.tok c = true ∧ (Fd.flagN c.toNat = 1 ∨ Fd.flagN c.toNat = 3)) ∨ (Fd.tok c = false ∧ (Fd.flagN c.toNat = 0 ∨ Fd.flagN c.toNat = 2)) := by
  unfold Fd.tok Fd.flagN
  cases Fd.tokB c.toNat <;> cases Fd.ckB c.toNat <;> simp
theorem flag_ck (c : UInt8) : (Fd.ck c = true ∧ (Fd.flagN c.toNat = 2 ∨ Fd.flagN c.toNat = 3)) ∨ (Fd.ck c = false ∧ (Fd.flagN c.toNat = 0 ∨ Fd.flagN c.toNat = 1)) := by
  unfold Fd.ck Fd.flagN
  cases Fd.tokB c.toNat <;> cases Fd.ckB c.toNat <;> simp

set_option maxHeartbeats 800000 in
theorem isTokenByte_any (b o : Nat) (c : UInt8) (w : World) (h : Tab w b o) :
    Calls Tryz.prog 50 #[.pointer (some ⟨b, o, none⟩), B c] w fun e w' => e = .returned (.bool (Fd.tok c)) ∧ w' = w := by
  have hc := c.toNat_lt
  have c0 := h.cell c
  clear h
  have hF := flag_tok c
  generalize Fd.flagN c.toNat = f at *
  generalize Fd.tok c = t at *
  have hci : (c.toNat : Int) < 256 := by omega
  have hc0 : (0 : Int) ≤ (c.toNat : Int) := Int.natCast_nonneg _
  rcases hF with ⟨rfl, rfl | rfl⟩ | ⟨rfl, rfl | rfl⟩
  all_goals
    go_enter Tryz.func50, Tryz.ntmps50
    go_wp2
    go_ret
    exact ⟨rfl, rfl⟩

end Go.Proofs.YtlefalplljgkeaaGreatDoor.fd
