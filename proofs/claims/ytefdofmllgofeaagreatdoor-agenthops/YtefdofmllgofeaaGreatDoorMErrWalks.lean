import Derived.Test.YtefdofmllgofeaaGreatDoorRows
import Derived.Test.YtefdofmllgofeaaGreatDoorMRanges
import Derived.WalkKit
import Derived.WalkSpells
import Derived.WalkLawsBesides
import Derived.LaidLaws
import Derived.LaidEql
import Derived.Stop.LaidErr
namespace Go.Proofs.YtefdofmllgofeaaGreatDoor.errw
open Go.ChangeShapes Go.WideShapes Go.ChangeAt Go.RowKit Go.Proofs.YtefdofmllgofeaaGreatDoor.common

/-- ONE SENTINEL TAKEN OFF THE LIST. -/
theorem peel {P : Program} {W : World} {n nm : String} {text : List UInt8} {r : List (String × DataW Unit)} {ps : List MemPlace} {g : Nat} {ti tp te ts : TypeId} {ms : Array (String × TypeId)} {f : Field}
    (h : DataW.LaidVars P W ((n, .iface nm (.ptr (.agg [.lit (.string text)]))) :: r) ps)
    (hrows : ∀ b off, MemPlace.cell b off ∈ ps → (∃ c t, W.heap[b]? = some (.cells c t (0, 0))) ∧ ∀ u v, W.cell? ⟨b, off, none⟩ = some (.iface u v) → Value.okWide P W .any 0 u v)
    (hg : P.globalNamed n = some g) (ht : (P.globals[g]?).map (·.type) = some ti) (hi : P.underlying ti = some (.interface ms)) (hrow : ∀ u, P.typeName? 3 u = some nm → u = tp)
    (hp : P.underlying tp = some (.pointer te)) (he : P.underlying te = some (.struct #[f])) (hft : f.type = ts) (hfo : f.offset = 0) (hs : P.underlying ts = some .string) (hc : P.cellsOf te = 1) (hcs : P.cellsOf ts = 1) :
    ∃ (a : Addr) (q : List MemPlace), W.cell? ⟨g, 0, none⟩ = some (.iface tp (.pointer (some a))) ∧ DataW.LaidVars P W r q ∧ ps = MemPlace.cell g 0 :: MemPlace.cell a.block a.off :: q := by
  obtain ⟨g0, t0, cs0, f0, p0, q0, hg0, ht0, hv0, hd0, hr0, e0⟩ := h
  obtain rfl := Option.some.inj (hg.symm.trans hg0)
  obtain rfl := Option.some.inj (ht.symm.trans ht0)
  subst e0
  obtain ⟨l0⟩ := cs0
  have ok0 : ∀ u v, l0 = [.iface u v] → Value.okWide P W .any 0 u v := fun u v e => by
    subst e
    exact (hrows g 0 (by simp [MemPlace.row])).2 u v (by simpa using World.var?_cell hg0 hv0 0)
  obtain ⟨a0, s0, rfl, hc0, hs0, hz0, rfl⟩ := errorString_of_trod hi hrow hp he hft hfo hs hc hcs hd0 ok0
  exact ⟨a0, q0, by simpa using World.var?_cell hg0 hv0 0, hr0, by simp [MemPlace.row]⟩

theorem star : "*" ++ "errors.errorString" = "*errors.errorString" := by decide
theorem rowErr (u : TypeId) (h : Tryz.prog.typeName? 3 u = some "*errors.errorString") : u = 211 :=
  typeName_ptr_named (nm := "errors.errorString") (by rw [star]; kernel_rfl) (by kernel_rfl) (by decide) u (by rw [star]; exact h)
theorem cellsErr : Tryz.prog.cellsOf 213 = 1 := by kernel_rfl
theorem cellsStr : Tryz.prog.cellsOf 9 = 1 := by kernel_rfl
theorem compErr : (Tryz.prog.info? 211).map (·.comparable) = some true := by kernel_rfl
theorem sizeErr : (Tryz.prog.info? 213).map (·.size) = some 1 := by kernel_rfl
theorem g0 : Tryz.prog.globalNamed "usher/api.ErrArg" = some 2 := by kernel_rfl
theorem t0 : (Tryz.prog.globals[2]?).map (·.type) = some 32 := by kernel_rfl
theorem g1 : Tryz.prog.globalNamed "usher/api.ErrText" = some 0 := by kernel_rfl
theorem t1 : (Tryz.prog.globals[0]?).map (·.type) = some 32 := by kernel_rfl
theorem g2 : Tryz.prog.globalNamed "usher/api.ErrMany" = some 3 := by kernel_rfl
theorem t2 : (Tryz.prog.globals[3]?).map (·.type) = some 32 := by kernel_rfl
theorem g3 : Tryz.prog.globalNamed "usher/api.ErrTwice" = some 4 := by kernel_rfl
theorem t3 : (Tryz.prog.globals[4]?).map (·.type) = some 32 := by kernel_rfl
theorem g4 : Tryz.prog.globalNamed "usher/api.ErrScheme" = some 5 := by kernel_rfl
theorem t4 : (Tryz.prog.globals[5]?).map (·.type) = some 32 := by kernel_rfl
theorem g5 : Tryz.prog.globalNamed "usher/api.ErrShort" = some 6 := by kernel_rfl
theorem t5 : (Tryz.prog.globals[6]?).map (·.type) = some 32 := by kernel_rfl
theorem g6 : Tryz.prog.globalNamed "usher/api.ErrDry" = some 7 := by kernel_rfl
theorem t6 : (Tryz.prog.globals[7]?).map (·.type) = some 32 := by kernel_rfl
theorem g7 : Tryz.prog.globalNamed "usher/api.ErrTaken" = some 8 := by kernel_rfl
theorem t7 : (Tryz.prog.globals[8]?).map (·.type) = some 32 := by kernel_rfl
theorem g8 : Tryz.prog.globalNamed "usher/api.ErrFull" = some 9 := by kernel_rfl
theorem t8 : (Tryz.prog.globals[9]?).map (·.type) = some 32 := by kernel_rfl
theorem g9 : Tryz.prog.globalNamed "usher/api.ErrDead" = some 10 := by kernel_rfl
theorem t9 : (Tryz.prog.globals[10]?).map (·.type) = some 32 := by kernel_rfl
theorem g10 : Tryz.prog.globalNamed "usher/api.ErrLog" = some 11 := by kernel_rfl
theorem t10 : (Tryz.prog.globals[11]?).map (·.type) = some 32 := by kernel_rfl
theorem g11 : Tryz.prog.globalNamed "usher/api.ErrLost" = some 1 := by kernel_rfl
theorem t11 : (Tryz.prog.globals[1]?).map (·.type) = some 32 := by kernel_rfl
theorem g12 : Tryz.prog.globalNamed "usher/api.ErrDenied" = some 12 := by kernel_rfl
theorem t12 : (Tryz.prog.globals[12]?).map (·.type) = some 32 := by kernel_rfl

def errG : List Nat := [2, 0, 3, 4, 5, 6, 7, 8, 9, 10, 11, 1, 12]
abbrev E (e : Nat → Addr) (i : Nat) : Value := .iface 211 (.pointer (some (e i)))

/-- THE THIRTEEN REFUSALS LIE IN THEIR VARIABLES, thirteen pointers. -/
structure Errs (w : World) (e : Nat → Addr) : Prop where
  cell : ∀ i, i < 13 → w.cell? ⟨errG.getD i 0, 0, none⟩ = some (E e i)
  ne : ∀ i j, i < 13 → j < 13 → i ≠ j → e i ≠ e j
  row : ∀ i, i < 13 → ∃ c t, w.heap[(e i).block]? = some (.cells c t (0, 0))

theorem Errs.below {w w' : World} {e : Nat → Addr} (h : Errs w e) (hb : Below w.heap.size w w') : Errs w' e := by
  refine ⟨fun i hi => ?_, h.ne, fun i hi => ?_⟩
  · rw [← h.cell i hi]
    refine hb.cell ?_
    have := h.cell i hi
    exact World.block_lt_of_cell? w _ this
  · obtain ⟨c, t, hr⟩ := h.row i hi
    refine ⟨c, t, ?_⟩
    rw [hb.block _ (Array.getElem?_eq_some_iff.1 hr).1]
    exact hr

theorem Errs.eql {w : World} {e : Nat → Addr} (h : Errs w e) (i j : Nat) (hi : i < 13) (hj : j < 13) : (binOp .eql 32 (E e i) (E e j)).run Tryz.prog w = .ok (.bool (decide (i = j))) w := by
  obtain ⟨info, hinfo, hcomp⟩ := Option.map_eq_some_iff.1 compErr
  obtain ⟨jinfo, hj1, hj2⟩ := Option.map_eq_some_iff.1 sizeErr
  by_cases he : i = j
  · subst he
    rw [run_eql_iface_ptr_same w (e i) Tryz.underlying32 Tryz.underlying211 hinfo hcomp hj1]
    simp
  · obtain ⟨ca, ta, ha⟩ := h.row i hi
    obtain ⟨cb, tb, hb⟩ := h.row j hj
    rw [run_eql_iface_ptr_other w Tryz.underlying32 Tryz.underlying211 hinfo hcomp hj1 (by rw [hj2]; decide) (h.ne i j hi hj he) ha hb]
    simp [he]

theorem errs_of_laid {W : World} {rest : List (String × DataW Unit)} (h : laidMet Tryz.prog ([("usher/api.ErrArg", Rows.laid_usher_api_ErrArg), ("usher/api.ErrText", Rows.laid_usher_api_ErrText), ("usher/api.ErrMany", Rows.laid_usher_api_ErrMany), ("usher/api.ErrTwice", Rows.laid_usher_api_ErrTwice), ("usher/api.ErrScheme", Rows.laid_usher_api_ErrScheme), ("usher/api.ErrShort", Rows.laid_usher_api_ErrShort), ("usher/api.ErrDry", Rows.laid_usher_api_ErrDry), ("usher/api.ErrTaken", Rows.laid_usher_api_ErrTaken), ("usher/api.ErrFull", Rows.laid_usher_api_ErrFull), ("usher/api.ErrDead", Rows.laid_usher_api_ErrDead), ("usher/api.ErrLog", Rows.laid_usher_api_ErrLog), ("usher/api.ErrLost", Rows.laid_usher_api_ErrLost), ("usher/api.ErrDenied", Rows.laid_usher_api_ErrDenied)] ++ rest) W) : ∃ e, Errs W e := by
  obtain ⟨ps, h0, hnd, hrows⟩ := h
  obtain ⟨a0, q0, c0, h1, rfl⟩ := peel h0 (fun b off hm => hrows b off (by simp [hm])) g0 t0 Tryz.underlying32 rowErr Tryz.underlying211 Tryz.underlying213 rfl rfl Tryz.underlying9 cellsErr cellsStr
  obtain ⟨a1, q1, c1, h2, rfl⟩ := peel h1 (fun b off hm => hrows b off (by simp [hm])) g1 t1 Tryz.underlying32 rowErr Tryz.underlying211 Tryz.underlying213 rfl rfl Tryz.underlying9 cellsErr cellsStr
  obtain ⟨a2, q2, c2, h3, rfl⟩ := peel h2 (fun b off hm => hrows b off (by simp [hm])) g2 t2 Tryz.underlying32 rowErr Tryz.underlying211 Tryz.underlying213 rfl rfl Tryz.underlying9 cellsErr cellsStr
  obtain ⟨a3, q3, c3, h4, rfl⟩ := peel h3 (fun b off hm => hrows b off (by simp [hm])) g3 t3 Tryz.underlying32 rowErr Tryz.underlying211 Tryz.underlying213 rfl rfl Tryz.underlying9 cellsErr cellsStr
  obtain ⟨a4, q4, c4, h5, rfl⟩ := peel h4 (fun b off hm => hrows b off (by simp [hm])) g4 t4 Tryz.underlying32 rowErr Tryz.underlying211 Tryz.underlying213 rfl rfl Tryz.underlying9 cellsErr cellsStr
  obtain ⟨a5, q5, c5, h6, rfl⟩ := peel h5 (fun b off hm => hrows b off (by simp [hm])) g5 t5 Tryz.underlying32 rowErr Tryz.underlying211 Tryz.underlying213 rfl rfl Tryz.underlying9 cellsErr cellsStr
  obtain ⟨a6, q6, c6, h7, rfl⟩ := peel h6 (fun b off hm => hrows b off (by simp [hm])) g6 t6 Tryz.underlying32 rowErr Tryz.underlying211 Tryz.underlying213 rfl rfl Tryz.underlying9 cellsErr cellsStr
  obtain ⟨a7, q7, c7, h8, rfl⟩ := peel h7 (fun b off hm => hrows b off (by simp [hm])) g7 t7 Tryz.underlying32 rowErr Tryz.underlying211 Tryz.underlying213 rfl rfl Tryz.underlying9 cellsErr cellsStr
  obtain ⟨a8, q8, c8, h9, rfl⟩ := peel h8 (fun b off hm => hrows b off (by simp [hm])) g8 t8 Tryz.underlying32 rowErr Tryz.underlying211 Tryz.underlying213 rfl rfl Tryz.underlying9 cellsErr cellsStr
  obtain ⟨a9, q9, c9, h10, rfl⟩ := peel h9 (fun b off hm => hrows b off (by simp [hm])) g9 t9 Tryz.underlying32 rowErr Tryz.underlying211 Tryz.underlying213 rfl rfl Tryz.underlying9 cellsErr cellsStr
  obtain ⟨a10, q10, c10, h11, rfl⟩ := peel h10 (fun b off hm => hrows b off (by simp [hm])) g10 t10 Tryz.underlying32 rowErr Tryz.underlying211 Tryz.underlying213 rfl rfl Tryz.underlying9 cellsErr cellsStr
  obtain ⟨a11, q11, c11, h12, rfl⟩ := peel h11 (fun b off hm => hrows b off (by simp [hm])) g11 t11 Tryz.underlying32 rowErr Tryz.underlying211 Tryz.underlying213 rfl rfl Tryz.underlying9 cellsErr cellsStr
  obtain ⟨a12, q12, c12, h13, rfl⟩ := peel h12 (fun b off hm => hrows b off (by simp [hm])) g12 t12 Tryz.underlying32 rowErr Tryz.underlying211 Tryz.underlying213 rfl rfl Tryz.underlying9 cellsErr cellsStr
  have rowOf : ∀ a : Addr, a ∈ [a0, a1, a2, a3, a4, a5, a6, a7, a8, a9, a10, a11, a12] → ∃ c t, W.heap[a.block]? = some (.cells c t (0, 0)) := by
    intro a ha
    refine (hrows a.block a.off ?_).1
    simp only [List.mem_cons, List.not_mem_nil, or_false] at ha
    rcases ha with rfl | rfl | rfl | rfl | rfl | rfl | rfl | rfl | rfl | rfl | rfl | rfl | rfl <;> simp
  have nd : [a0, a1, a2, a3, a4, a5, a6, a7, a8, a9, a10, a11, a12].Nodup := by
    have hs : ([a0, a1, a2, a3, a4, a5, a6, a7, a8, a9, a10, a11, a12].map fun a : Addr => MemPlace.cell a.block a.off).Nodup := by
      refine List.Nodup.sublist ?_ hnd
      simp only [List.map_cons, List.map_nil]
      exact (List.Sublist.cons _ (List.Sublist.cons_cons _ (List.Sublist.cons _ (List.Sublist.cons_cons _ (List.Sublist.cons _ (List.Sublist.cons_cons _ (List.Sublist.cons _ (List.Sublist.cons_cons _ (List.Sublist.cons _ (List.Sublist.cons_cons _ (List.Sublist.cons _ (List.Sublist.cons_cons _ (List.Sublist.cons _ (List.Sublist.cons_cons _ (List.Sublist.cons _ (List.Sublist.cons_cons _ (List.Sublist.cons _ (List.Sublist.cons_cons _ (List.Sublist.cons _ (List.Sublist.cons_cons _ (List.Sublist.cons _ (List.Sublist.cons_cons _ (List.Sublist.cons _ (List.Sublist.cons_cons _ (List.Sublist.cons _ (List.Sublist.cons_cons _ (List.nil_sublist _)))))))))))))))))))))))))))
    exact (List.pairwise_map.1 hs).imp fun h he => h (by rw [he])
  refine ⟨fun i => [a0, a1, a2, a3, a4, a5, a6, a7, a8, a9, a10, a11, a12].getD i a0, ⟨?_, ?_, ?_⟩⟩
  · intro i hi
    match i, hi with
    | 0, _ => exact c0
    | 1, _ => exact c1
    | 2, _ => exact c2
    | 3, _ => exact c3
    | 4, _ => exact c4
    | 5, _ => exact c5
    | 6, _ => exact c6
    | 7, _ => exact c7
    | 8, _ => exact c8
    | 9, _ => exact c9
    | 10, _ => exact c10
    | 11, _ => exact c11
    | 12, _ => exact c12
  · intro i j hi hj hij he
    have := (List.getElem?_inj (by simpa using hi) nd (i := i) (j := j)).1 ?_
    · exact hij this
    · have hi' : i < [a0, a1, a2, a3, a4, a5, a6, a7, a8, a9, a10, a11, a12].length := hi
      have hj' : j < [a0, a1, a2, a3, a4, a5, a6, a7, a8, a9, a10, a11, a12].length := hj
      simp only [List.getD_eq_getElem?_getD] at he
      rw [List.getElem?_eq_getElem hi', List.getElem?_eq_getElem hj'] at he ⊢
      simpa using he
  · intro i hi
    refine rowOf _ ?_
    have hi' : i < [a0, a1, a2, a3, a4, a5, a6, a7, a8, a9, a10, a11, a12].length := hi
    show ([a0, a1, a2, a3, a4, a5, a6, a7, a8, a9, a10, a11, a12].getD i a0) ∈ _
    rw [List.getD_eq_getElem?_getD, List.getElem?_eq_getElem hi']
    exact List.getElem_mem hi'

theorem num_nil (w : World) : Calls Tryz.prog 10 #[.nilIface] w fun e w' => e = .returned (.int .i64 0) ∧ w' = w := by
  go_enter Tryz.func10, Tryz.ntmps10
  go_wp2
  go_ret
  exact ⟨rfl, rfl⟩

set_option maxHeartbeats 400000 in
theorem num_0 (w : World) (e : Nat → Addr) (h : Errs w e) : Calls Tryz.prog 10 #[E e 0] w fun x w' => x = .returned (.int .i64 1) ∧ w' = w := by
  have c0 : w.cell? ⟨2, 0, none⟩ = some (E e 0) := h.cell 0 (by decide)
  have q0 : (binOp .eql 32 (E e 0) (E e 0)).run Tryz.prog w = .ok (.bool true) w := h.eql 0 0 (by decide) (by decide)
  have H := hide h
  clear h
  go_enter Tryz.func10, Tryz.ntmps10
  go_wp2
  go_ret
  exact ⟨rfl, rfl⟩

set_option maxHeartbeats 400000 in
theorem num_1 (w : World) (e : Nat → Addr) (h : Errs w e) : Calls Tryz.prog 10 #[E e 1] w fun x w' => x = .returned (.int .i64 2) ∧ w' = w := by
  have c0 : w.cell? ⟨2, 0, none⟩ = some (E e 0) := h.cell 0 (by decide)
  have q0 : (binOp .eql 32 (E e 1) (E e 0)).run Tryz.prog w = .ok (.bool false) w := h.eql 1 0 (by decide) (by decide)
  have c1 : w.cell? ⟨0, 0, none⟩ = some (E e 1) := h.cell 1 (by decide)
  have q1 : (binOp .eql 32 (E e 1) (E e 1)).run Tryz.prog w = .ok (.bool true) w := h.eql 1 1 (by decide) (by decide)
  have H := hide h
  clear h
  go_enter Tryz.func10, Tryz.ntmps10
  go_wp2
  go_ret
  exact ⟨rfl, rfl⟩

set_option maxHeartbeats 400000 in
theorem num_2 (w : World) (e : Nat → Addr) (h : Errs w e) : Calls Tryz.prog 10 #[E e 2] w fun x w' => x = .returned (.int .i64 3) ∧ w' = w := by
  have c0 : w.cell? ⟨2, 0, none⟩ = some (E e 0) := h.cell 0 (by decide)
  have q0 : (binOp .eql 32 (E e 2) (E e 0)).run Tryz.prog w = .ok (.bool false) w := h.eql 2 0 (by decide) (by decide)
  have c1 : w.cell? ⟨0, 0, none⟩ = some (E e 1) := h.cell 1 (by decide)
  have q1 : (binOp .eql 32 (E e 2) (E e 1)).run Tryz.prog w = .ok (.bool false) w := h.eql 2 1 (by decide) (by decide)
  have c2 : w.cell? ⟨3, 0, none⟩ = some (E e 2) := h.cell 2 (by decide)
  have q2 : (binOp .eql 32 (E e 2) (E e 2)).run Tryz.prog w = .ok (.bool true) w := h.eql 2 2 (by decide) (by decide)
  have H := hide h
  clear h
  go_enter Tryz.func10, Tryz.ntmps10
  go_wp2
  go_ret
  exact ⟨rfl, rfl⟩

set_option maxHeartbeats 400000 in
theorem num_3 (w : World) (e : Nat → Addr) (h : Errs w e) : Calls Tryz.prog 10 #[E e 3] w fun x w' => x = .returned (.int .i64 4) ∧ w' = w := by
  have c0 : w.cell? ⟨2, 0, none⟩ = some (E e 0) := h.cell 0 (by decide)
  have q0 : (binOp .eql 32 (E e 3) (E e 0)).run Tryz.prog w = .ok (.bool false) w := h.eql 3 0 (by decide) (by decide)
  have c1 : w.cell? ⟨0, 0, none⟩ = some (E e 1) := h.cell 1 (by decide)
  have q1 : (binOp .eql 32 (E e 3) (E e 1)).run Tryz.prog w = .ok (.bool false) w := h.eql 3 1 (by decide) (by decide)
  have c2 : w.cell? ⟨3, 0, none⟩ = some (E e 2) := h.cell 2 (by decide)
  have q2 : (binOp .eql 32 (E e 3) (E e 2)).run Tryz.prog w = .ok (.bool false) w := h.eql 3 2 (by decide) (by decide)
  have c3 : w.cell? ⟨4, 0, none⟩ = some (E e 3) := h.cell 3 (by decide)
  have q3 : (binOp .eql 32 (E e 3) (E e 3)).run Tryz.prog w = .ok (.bool true) w := h.eql 3 3 (by decide) (by decide)
  have H := hide h
  clear h
  go_enter Tryz.func10, Tryz.ntmps10
  go_wp2
  go_ret
  exact ⟨rfl, rfl⟩

set_option maxHeartbeats 400000 in
theorem num_4 (w : World) (e : Nat → Addr) (h : Errs w e) : Calls Tryz.prog 10 #[E e 4] w fun x w' => x = .returned (.int .i64 5) ∧ w' = w := by
  have c0 : w.cell? ⟨2, 0, none⟩ = some (E e 0) := h.cell 0 (by decide)
  have q0 : (binOp .eql 32 (E e 4) (E e 0)).run Tryz.prog w = .ok (.bool false) w := h.eql 4 0 (by decide) (by decide)
  have c1 : w.cell? ⟨0, 0, none⟩ = some (E e 1) := h.cell 1 (by decide)
  have q1 : (binOp .eql 32 (E e 4) (E e 1)).run Tryz.prog w = .ok (.bool false) w := h.eql 4 1 (by decide) (by decide)
  have c2 : w.cell? ⟨3, 0, none⟩ = some (E e 2) := h.cell 2 (by decide)
  have q2 : (binOp .eql 32 (E e 4) (E e 2)).run Tryz.prog w = .ok (.bool false) w := h.eql 4 2 (by decide) (by decide)
  have c3 : w.cell? ⟨4, 0, none⟩ = some (E e 3) := h.cell 3 (by decide)
  have q3 : (binOp .eql 32 (E e 4) (E e 3)).run Tryz.prog w = .ok (.bool false) w := h.eql 4 3 (by decide) (by decide)
  have c4 : w.cell? ⟨5, 0, none⟩ = some (E e 4) := h.cell 4 (by decide)
  have q4 : (binOp .eql 32 (E e 4) (E e 4)).run Tryz.prog w = .ok (.bool true) w := h.eql 4 4 (by decide) (by decide)
  have H := hide h
  clear h
  go_enter Tryz.func10, Tryz.ntmps10
  go_wp2
  go_ret
  exact ⟨rfl, rfl⟩

set_option maxHeartbeats 400000 in
theorem num_5 (w : World) (e : Nat → Addr) (h : Errs w e) : Calls Tryz.prog 10 #[E e 5] w fun x w' => x = .returned (.int .i64 6) ∧ w' = w := by
  have c0 : w.cell? ⟨2, 0, none⟩ = some (E e 0) := h.cell 0 (by decide)
  have q0 : (binOp .eql 32 (E e 5) (E e 0)).run Tryz.prog w = .ok (.bool false) w := h.eql 5 0 (by decide) (by decide)
  have c1 : w.cell? ⟨0, 0, none⟩ = some (E e 1) := h.cell 1 (by decide)
  have q1 : (binOp .eql 32 (E e 5) (E e 1)).run Tryz.prog w = .ok (.bool false) w := h.eql 5 1 (by decide) (by decide)
  have c2 : w.cell? ⟨3, 0, none⟩ = some (E e 2) := h.cell 2 (by decide)
  have q2 : (binOp .eql 32 (E e 5) (E e 2)).run Tryz.prog w = .ok (.bool false) w := h.eql 5 2 (by decide) (by decide)
  have c3 : w.cell? ⟨4, 0, none⟩ = some (E e 3) := h.cell 3 (by decide)
  have q3 : (binOp .eql 32 (E e 5) (E e 3)).run Tryz.prog w = .ok (.bool false) w := h.eql 5 3 (by decide) (by decide)
  have c4 : w.cell? ⟨5, 0, none⟩ = some (E e 4) := h.cell 4 (by decide)
  have q4 : (binOp .eql 32 (E e 5) (E e 4)).run Tryz.prog w = .ok (.bool false) w := h.eql 5 4 (by decide) (by decide)
  have c5 : w.cell? ⟨6, 0, none⟩ = some (E e 5) := h.cell 5 (by decide)
  have q5 : (binOp .eql 32 (E e 5) (E e 5)).run Tryz.prog w = .ok (.bool true) w := h.eql 5 5 (by decide) (by decide)
  have H := hide h
  clear h
  go_enter Tryz.func10, Tryz.ntmps10
  go_wp2
  go_ret
  exact ⟨rfl, rfl⟩

set_option maxHeartbeats 400000 in
theorem num_6 (w : World) (e : Nat → Addr) (h : Errs w e) : Calls Tryz.prog 10 #[E e 6] w fun x w' => x = .returned (.int .i64 7) ∧ w' = w := by
  have c0 : w.cell? ⟨2, 0, none⟩ = some (E e 0) := h.cell 0 (by decide)
  have q0 : (binOp .eql 32 (E e 6) (E e 0)).run Tryz.prog w = .ok (.bool false) w := h.eql 6 0 (by decide) (by decide)
  have c1 : w.cell? ⟨0, 0, none⟩ = some (E e 1) := h.cell 1 (by decide)
  have q1 : (binOp .eql 32 (E e 6) (E e 1)).run Tryz.prog w = .ok (.bool false) w := h.eql 6 1 (by decide) (by decide)
  have c2 : w.cell? ⟨3, 0, none⟩ = some (E e 2) := h.cell 2 (by decide)
  have q2 : (binOp .eql 32 (E e 6) (E e 2)).run Tryz.prog w = .ok (.bool false) w := h.eql 6 2 (by decide) (by decide)
  have c3 : w.cell? ⟨4, 0, none⟩ = some (E e 3) := h.cell 3 (by decide)
  have q3 : (binOp .eql 32 (E e 6) (E e 3)).run Tryz.prog w = .ok (.bool false) w := h.eql 6 3 (by decide) (by decide)
  have c4 : w.cell? ⟨5, 0, none⟩ = some (E e 4) := h.cell 4 (by decide)
  have q4 : (binOp .eql 32 (E e 6) (E e 4)).run Tryz.prog w = .ok (.bool false) w := h.eql 6 4 (by decide) (by decide)
  have c5 : w.cell? ⟨6, 0, none⟩ = some (E e 5) := h.cell 5 (by decide)
  have q5 : (binOp .eql 32 (E e 6) (E e 5)).run Tryz.prog w = .ok (.bool false) w := h.eql 6 5 (by decide) (by decide)
  have c6 : w.cell? ⟨7, 0, none⟩ = some (E e 6) := h.cell 6 (by decide)
  have q6 : (binOp .eql 32 (E e 6) (E e 6)).run Tryz.prog w = .ok (.bool true) w := h.eql 6 6 (by decide) (by decide)
  have H := hide h
  clear h
  go_enter Tryz.func10, Tryz.ntmps10
  go_wp2
  go_ret
  exact ⟨rfl, rfl⟩

set_option maxHeartbeats 400000 in
theorem num_7 (w : World) (e : Nat → Addr) (h : Errs w e) : Calls Tryz.prog 10 #[E e 7] w fun x w' => x = .returned (.int .i64 8) ∧ w' = w := by
  have c0 : w.cell? ⟨2, 0, none⟩ = some (E e 0) := h.cell 0 (by decide)
  have q0 : (binOp .eql 32 (E e 7) (E e 0)).run Tryz.prog w = .ok (.bool false) w := h.eql 7 0 (by decide) (by decide)
  have c1 : w.cell? ⟨0, 0, none⟩ = some (E e 1) := h.cell 1 (by decide)
  have q1 : (binOp .eql 32 (E e 7) (E e 1)).run Tryz.prog w = .ok (.bool false) w := h.eql 7 1 (by decide) (by decide)
  have c2 : w.cell? ⟨3, 0, none⟩ = some (E e 2) := h.cell 2 (by decide)
  have q2 : (binOp .eql 32 (E e 7) (E e 2)).run Tryz.prog w = .ok (.bool false) w := h.eql 7 2 (by decide) (by decide)
  have c3 : w.cell? ⟨4, 0, none⟩ = some (E e 3) := h.cell 3 (by decide)
  have q3 : (binOp .eql 32 (E e 7) (E e 3)).run Tryz.prog w = .ok (.bool false) w := h.eql 7 3 (by decide) (by decide)
  have c4 : w.cell? ⟨5, 0, none⟩ = some (E e 4) := h.cell 4 (by decide)
  have q4 : (binOp .eql 32 (E e 7) (E e 4)).run Tryz.prog w = .ok (.bool false) w := h.eql 7 4 (by decide) (by decide)
  have c5 : w.cell? ⟨6, 0, none⟩ = some (E e 5) := h.cell 5 (by decide)
  have q5 : (binOp .eql 32 (E e 7) (E e 5)).run Tryz.prog w = .ok (.bool false) w := h.eql 7 5 (by decide) (by decide)
  have c6 : w.cell? ⟨7, 0, none⟩ = some (E e 6) := h.cell 6 (by decide)
  have q6 : (binOp .eql 32 (E e 7) (E e 6)).run Tryz.prog w = .ok (.bool false) w := h.eql 7 6 (by decide) (by decide)
  have c7 : w.cell? ⟨8, 0, none⟩ = some (E e 7) := h.cell 7 (by decide)
  have q7 : (binOp .eql 32 (E e 7) (E e 7)).run Tryz.prog w = .ok (.bool true) w := h.eql 7 7 (by decide) (by decide)
  have H := hide h
  clear h
  go_enter Tryz.func10, Tryz.ntmps10
  go_wp2
  go_ret
  exact ⟨rfl, rfl⟩

set_option maxHeartbeats 400000 in
theorem num_8 (w : World) (e : Nat → Addr) (h : Errs w e) : Calls Tryz.prog 10 #[E e 8] w fun x w' => x = .returned (.int .i64 9) ∧ w' = w := by
  have c0 : w.cell? ⟨2, 0, none⟩ = some (E e 0) := h.cell 0 (by decide)
  have q0 : (binOp .eql 32 (E e 8) (E e 0)).run Tryz.prog w = .ok (.bool false) w := h.eql 8 0 (by decide) (by decide)
  have c1 : w.cell? ⟨0, 0, none⟩ = some (E e 1) := h.cell 1 (by decide)
  have q1 : (binOp .eql 32 (E e 8) (E e 1)).run Tryz.prog w = .ok (.bool false) w := h.eql 8 1 (by decide) (by decide)
  have c2 : w.cell? ⟨3, 0, none⟩ = some (E e 2) := h.cell 2 (by decide)
  have q2 : (binOp .eql 32 (E e 8) (E e 2)).run Tryz.prog w = .ok (.bool false) w := h.eql 8 2 (by decide) (by decide)
  have c3 : w.cell? ⟨4, 0, none⟩ = some (E e 3) := h.cell 3 (by decide)
  have q3 : (binOp .eql 32 (E e 8) (E e 3)).run Tryz.prog w = .ok (.bool false) w := h.eql 8 3 (by decide) (by decide)
  have c4 : w.cell? ⟨5, 0, none⟩ = some (E e 4) := h.cell 4 (by decide)
  have q4 : (binOp .eql 32 (E e 8) (E e 4)).run Tryz.prog w = .ok (.bool false) w := h.eql 8 4 (by decide) (by decide)
  have c5 : w.cell? ⟨6, 0, none⟩ = some (E e 5) := h.cell 5 (by decide)
  have q5 : (binOp .eql 32 (E e 8) (E e 5)).run Tryz.prog w = .ok (.bool false) w := h.eql 8 5 (by decide) (by decide)
  have c6 : w.cell? ⟨7, 0, none⟩ = some (E e 6) := h.cell 6 (by decide)
  have q6 : (binOp .eql 32 (E e 8) (E e 6)).run Tryz.prog w = .ok (.bool false) w := h.eql 8 6 (by decide) (by decide)
  have c7 : w.cell? ⟨8, 0, none⟩ = some (E e 7) := h.cell 7 (by decide)
  have q7 : (binOp .eql 32 (E e 8) (E e 7)).run Tryz.prog w = .ok (.bool false) w := h.eql 8 7 (by decide) (by decide)
  have c8 : w.cell? ⟨9, 0, none⟩ = some (E e 8) := h.cell 8 (by decide)
  have q8 : (binOp .eql 32 (E e 8) (E e 8)).run Tryz.prog w = .ok (.bool true) w := h.eql 8 8 (by decide) (by decide)
  have H := hide h
  clear h
  go_enter Tryz.func10, Tryz.ntmps10
  go_wp2
  go_ret
  exact ⟨rfl, rfl⟩

set_option maxHeartbeats 400000 in
theorem num_9 (w : World) (e : Nat → Addr) (h : Errs w e) : Calls Tryz.prog 10 #[E e 9] w fun x w' => x = .returned (.int .i64 10) ∧ w' = w := by
  have c0 : w.cell? ⟨2, 0, none⟩ = some (E e 0) := h.cell 0 (by decide)
  have q0 : (binOp .eql 32 (E e 9) (E e 0)).run Tryz.prog w = .ok (.bool false) w := h.eql 9 0 (by decide) (by decide)
  have c1 : w.cell? ⟨0, 0, none⟩ = some (E e 1) := h.cell 1 (by decide)
  have q1 : (binOp .eql 32 (E e 9) (E e 1)).run Tryz.prog w = .ok (.bool false) w := h.eql 9 1 (by decide) (by decide)
  have c2 : w.cell? ⟨3, 0, none⟩ = some (E e 2) := h.cell 2 (by decide)
  have q2 : (binOp .eql 32 (E e 9) (E e 2)).run Tryz.prog w = .ok (.bool false) w := h.eql 9 2 (by decide) (by decide)
  have c3 : w.cell? ⟨4, 0, none⟩ = some (E e 3) := h.cell 3 (by decide)
  have q3 : (binOp .eql 32 (E e 9) (E e 3)).run Tryz.prog w = .ok (.bool false) w := h.eql 9 3 (by decide) (by decide)
  have c4 : w.cell? ⟨5, 0, none⟩ = some (E e 4) := h.cell 4 (by decide)
  have q4 : (binOp .eql 32 (E e 9) (E e 4)).run Tryz.prog w = .ok (.bool false) w := h.eql 9 4 (by decide) (by decide)
  have c5 : w.cell? ⟨6, 0, none⟩ = some (E e 5) := h.cell 5 (by decide)
  have q5 : (binOp .eql 32 (E e 9) (E e 5)).run Tryz.prog w = .ok (.bool false) w := h.eql 9 5 (by decide) (by decide)
  have c6 : w.cell? ⟨7, 0, none⟩ = some (E e 6) := h.cell 6 (by decide)
  have q6 : (binOp .eql 32 (E e 9) (E e 6)).run Tryz.prog w = .ok (.bool false) w := h.eql 9 6 (by decide) (by decide)
  have c7 : w.cell? ⟨8, 0, none⟩ = some (E e 7) := h.cell 7 (by decide)
  have q7 : (binOp .eql 32 (E e 9) (E e 7)).run Tryz.prog w = .ok (.bool false) w := h.eql 9 7 (by decide) (by decide)
  have c8 : w.cell? ⟨9, 0, none⟩ = some (E e 8) := h.cell 8 (by decide)
  have q8 : (binOp .eql 32 (E e 9) (E e 8)).run Tryz.prog w = .ok (.bool false) w := h.eql 9 8 (by decide) (by decide)
  have c9 : w.cell? ⟨10, 0, none⟩ = some (E e 9) := h.cell 9 (by decide)
  have q9 : (binOp .eql 32 (E e 9) (E e 9)).run Tryz.prog w = .ok (.bool true) w := h.eql 9 9 (by decide) (by decide)
  have H := hide h
  clear h
  go_enter Tryz.func10, Tryz.ntmps10
  go_wp2
  go_ret
  exact ⟨rfl, rfl⟩

set_option maxHeartbeats 400000 in
theorem num_10 (w : World) (e : Nat → Addr) (h : Errs w e) : Calls Tryz.prog 10 #[E e 10] w fun x w' => x = .returned (.int .i64 11) ∧ w' = w := by
  have c0 : w.cell? ⟨2, 0, none⟩ = some (E e 0) := h.cell 0 (by decide)
  have q0 : (binOp .eql 32 (E e 10) (E e 0)).run Tryz.prog w = .ok (.bool false) w := h.eql 10 0 (by decide) (by decide)
  have c1 : w.cell? ⟨0, 0, none⟩ = some (E e 1) := h.cell 1 (by decide)
  have q1 : (binOp .eql 32 (E e 10) (E e 1)).run Tryz.prog w = .ok (.bool false) w := h.eql 10 1 (by decide) (by decide)
  have c2 : w.cell? ⟨3, 0, none⟩ = some (E e 2) := h.cell 2 (by decide)
  have q2 : (binOp .eql 32 (E e 10) (E e 2)).run Tryz.prog w = .ok (.bool false) w := h.eql 10 2 (by decide) (by decide)
  have c3 : w.cell? ⟨4, 0, none⟩ = some (E e 3) := h.cell 3 (by decide)
  have q3 : (binOp .eql 32 (E e 10) (E e 3)).run Tryz.prog w = .ok (.bool false) w := h.eql 10 3 (by decide) (by decide)
  have c4 : w.cell? ⟨5, 0, none⟩ = some (E e 4) := h.cell 4 (by decide)
  have q4 : (binOp .eql 32 (E e 10) (E e 4)).run Tryz.prog w = .ok (.bool false) w := h.eql 10 4 (by decide) (by decide)
  have c5 : w.cell? ⟨6, 0, none⟩ = some (E e 5) := h.cell 5 (by decide)
  have q5 : (binOp .eql 32 (E e 10) (E e 5)).run Tryz.prog w = .ok (.bool false) w := h.eql 10 5 (by decide) (by decide)
  have c6 : w.cell? ⟨7, 0, none⟩ = some (E e 6) := h.cell 6 (by decide)
  have q6 : (binOp .eql 32 (E e 10) (E e 6)).run Tryz.prog w = .ok (.bool false) w := h.eql 10 6 (by decide) (by decide)
  have c7 : w.cell? ⟨8, 0, none⟩ = some (E e 7) := h.cell 7 (by decide)
  have q7 : (binOp .eql 32 (E e 10) (E e 7)).run Tryz.prog w = .ok (.bool false) w := h.eql 10 7 (by decide) (by decide)
  have c8 : w.cell? ⟨9, 0, none⟩ = some (E e 8) := h.cell 8 (by decide)
  have q8 : (binOp .eql 32 (E e 10) (E e 8)).run Tryz.prog w = .ok (.bool false) w := h.eql 10 8 (by decide) (by decide)
  have c9 : w.cell? ⟨10, 0, none⟩ = some (E e 9) := h.cell 9 (by decide)
  have q9 : (binOp .eql 32 (E e 10) (E e 9)).run Tryz.prog w = .ok (.bool false) w := h.eql 10 9 (by decide) (by decide)
  have c10 : w.cell? ⟨11, 0, none⟩ = some (E e 10) := h.cell 10 (by decide)
  have q10 : (binOp .eql 32 (E e 10) (E e 10)).run Tryz.prog w = .ok (.bool true) w := h.eql 10 10 (by decide) (by decide)
  have H := hide h
  clear h
  go_enter Tryz.func10, Tryz.ntmps10
  go_wp2
  go_ret
  exact ⟨rfl, rfl⟩

set_option maxHeartbeats 400000 in
theorem num_11 (w : World) (e : Nat → Addr) (h : Errs w e) : Calls Tryz.prog 10 #[E e 11] w fun x w' => x = .returned (.int .i64 12) ∧ w' = w := by
  have c0 : w.cell? ⟨2, 0, none⟩ = some (E e 0) := h.cell 0 (by decide)
  have q0 : (binOp .eql 32 (E e 11) (E e 0)).run Tryz.prog w = .ok (.bool false) w := h.eql 11 0 (by decide) (by decide)
  have c1 : w.cell? ⟨0, 0, none⟩ = some (E e 1) := h.cell 1 (by decide)
  have q1 : (binOp .eql 32 (E e 11) (E e 1)).run Tryz.prog w = .ok (.bool false) w := h.eql 11 1 (by decide) (by decide)
  have c2 : w.cell? ⟨3, 0, none⟩ = some (E e 2) := h.cell 2 (by decide)
  have q2 : (binOp .eql 32 (E e 11) (E e 2)).run Tryz.prog w = .ok (.bool false) w := h.eql 11 2 (by decide) (by decide)
  have c3 : w.cell? ⟨4, 0, none⟩ = some (E e 3) := h.cell 3 (by decide)
  have q3 : (binOp .eql 32 (E e 11) (E e 3)).run Tryz.prog w = .ok (.bool false) w := h.eql 11 3 (by decide) (by decide)
  have c4 : w.cell? ⟨5, 0, none⟩ = some (E e 4) := h.cell 4 (by decide)
  have q4 : (binOp .eql 32 (E e 11) (E e 4)).run Tryz.prog w = .ok (.bool false) w := h.eql 11 4 (by decide) (by decide)
  have c5 : w.cell? ⟨6, 0, none⟩ = some (E e 5) := h.cell 5 (by decide)
  have q5 : (binOp .eql 32 (E e 11) (E e 5)).run Tryz.prog w = .ok (.bool false) w := h.eql 11 5 (by decide) (by decide)
  have c6 : w.cell? ⟨7, 0, none⟩ = some (E e 6) := h.cell 6 (by decide)
  have q6 : (binOp .eql 32 (E e 11) (E e 6)).run Tryz.prog w = .ok (.bool false) w := h.eql 11 6 (by decide) (by decide)
  have c7 : w.cell? ⟨8, 0, none⟩ = some (E e 7) := h.cell 7 (by decide)
  have q7 : (binOp .eql 32 (E e 11) (E e 7)).run Tryz.prog w = .ok (.bool false) w := h.eql 11 7 (by decide) (by decide)
  have c8 : w.cell? ⟨9, 0, none⟩ = some (E e 8) := h.cell 8 (by decide)
  have q8 : (binOp .eql 32 (E e 11) (E e 8)).run Tryz.prog w = .ok (.bool false) w := h.eql 11 8 (by decide) (by decide)
  have c9 : w.cell? ⟨10, 0, none⟩ = some (E e 9) := h.cell 9 (by decide)
  have q9 : (binOp .eql 32 (E e 11) (E e 9)).run Tryz.prog w = .ok (.bool false) w := h.eql 11 9 (by decide) (by decide)
  have c10 : w.cell? ⟨11, 0, none⟩ = some (E e 10) := h.cell 10 (by decide)
  have q10 : (binOp .eql 32 (E e 11) (E e 10)).run Tryz.prog w = .ok (.bool false) w := h.eql 11 10 (by decide) (by decide)
  have c11 : w.cell? ⟨1, 0, none⟩ = some (E e 11) := h.cell 11 (by decide)
  have q11 : (binOp .eql 32 (E e 11) (E e 11)).run Tryz.prog w = .ok (.bool true) w := h.eql 11 11 (by decide) (by decide)
  have H := hide h
  clear h
  go_enter Tryz.func10, Tryz.ntmps10
  go_wp2
  go_ret
  exact ⟨rfl, rfl⟩

set_option maxHeartbeats 400000 in
theorem num_12 (w : World) (e : Nat → Addr) (h : Errs w e) : Calls Tryz.prog 10 #[E e 12] w fun x w' => x = .returned (.int .i64 13) ∧ w' = w := by
  have c0 : w.cell? ⟨2, 0, none⟩ = some (E e 0) := h.cell 0 (by decide)
  have q0 : (binOp .eql 32 (E e 12) (E e 0)).run Tryz.prog w = .ok (.bool false) w := h.eql 12 0 (by decide) (by decide)
  have c1 : w.cell? ⟨0, 0, none⟩ = some (E e 1) := h.cell 1 (by decide)
  have q1 : (binOp .eql 32 (E e 12) (E e 1)).run Tryz.prog w = .ok (.bool false) w := h.eql 12 1 (by decide) (by decide)
  have c2 : w.cell? ⟨3, 0, none⟩ = some (E e 2) := h.cell 2 (by decide)
  have q2 : (binOp .eql 32 (E e 12) (E e 2)).run Tryz.prog w = .ok (.bool false) w := h.eql 12 2 (by decide) (by decide)
  have c3 : w.cell? ⟨4, 0, none⟩ = some (E e 3) := h.cell 3 (by decide)
  have q3 : (binOp .eql 32 (E e 12) (E e 3)).run Tryz.prog w = .ok (.bool false) w := h.eql 12 3 (by decide) (by decide)
  have c4 : w.cell? ⟨5, 0, none⟩ = some (E e 4) := h.cell 4 (by decide)
  have q4 : (binOp .eql 32 (E e 12) (E e 4)).run Tryz.prog w = .ok (.bool false) w := h.eql 12 4 (by decide) (by decide)
  have c5 : w.cell? ⟨6, 0, none⟩ = some (E e 5) := h.cell 5 (by decide)
  have q5 : (binOp .eql 32 (E e 12) (E e 5)).run Tryz.prog w = .ok (.bool false) w := h.eql 12 5 (by decide) (by decide)
  have c6 : w.cell? ⟨7, 0, none⟩ = some (E e 6) := h.cell 6 (by decide)
  have q6 : (binOp .eql 32 (E e 12) (E e 6)).run Tryz.prog w = .ok (.bool false) w := h.eql 12 6 (by decide) (by decide)
  have c7 : w.cell? ⟨8, 0, none⟩ = some (E e 7) := h.cell 7 (by decide)
  have q7 : (binOp .eql 32 (E e 12) (E e 7)).run Tryz.prog w = .ok (.bool false) w := h.eql 12 7 (by decide) (by decide)
  have c8 : w.cell? ⟨9, 0, none⟩ = some (E e 8) := h.cell 8 (by decide)
  have q8 : (binOp .eql 32 (E e 12) (E e 8)).run Tryz.prog w = .ok (.bool false) w := h.eql 12 8 (by decide) (by decide)
  have c9 : w.cell? ⟨10, 0, none⟩ = some (E e 9) := h.cell 9 (by decide)
  have q9 : (binOp .eql 32 (E e 12) (E e 9)).run Tryz.prog w = .ok (.bool false) w := h.eql 12 9 (by decide) (by decide)
  have c10 : w.cell? ⟨11, 0, none⟩ = some (E e 10) := h.cell 10 (by decide)
  have q10 : (binOp .eql 32 (E e 12) (E e 10)).run Tryz.prog w = .ok (.bool false) w := h.eql 12 10 (by decide) (by decide)
  have c11 : w.cell? ⟨1, 0, none⟩ = some (E e 11) := h.cell 11 (by decide)
  have q11 : (binOp .eql 32 (E e 12) (E e 11)).run Tryz.prog w = .ok (.bool false) w := h.eql 12 11 (by decide) (by decide)
  have c12 : w.cell? ⟨12, 0, none⟩ = some (E e 12) := h.cell 12 (by decide)
  have q12 : (binOp .eql 32 (E e 12) (E e 12)).run Tryz.prog w = .ok (.bool true) w := h.eql 12 12 (by decide) (by decide)
  have H := hide h
  clear h
  go_enter Tryz.func10, Tryz.ntmps10
  go_wp2
  go_ret
  exact ⟨rfl, rfl⟩

end Go.Proofs.YtefdofmllgofeaaGreatDoor.errw
