import Derived.Test.YtlefalplljgkeaaGreatDoorMFieldRef
namespace Go.Proofs.YtlefalplljgkeaaGreatDoor.fd
open Go.ChangeShapes Go.WideShapes Go.ChangeAt Go.RowKit Go.Proofs.YtlefalplljgkeaaGreatDoor.common Go.Proofs.YtlefalplljgkeaaGreatDoor.bk
attribute [local go_sem ↓] Go.wp_at_zero Go.wp_at_succ

theorem tests_tok (b o : Nat) (w : World) (h : Tab w b o) : Tests 50 (.pointer (some ⟨b, o, none⟩)) Fd.tok w :=
  fun W c hb => isTokenByte_any b o c W (h.below hb)
theorem enters_tok : ∀ args w, (callFunc 50 args).run Tryz.prog w = .ok (.enter 50 args) w := enters_of Tryz.func50 (by kernel_rfl) rfl

set_option maxRecDepth 100000 in
set_option maxHeartbeats 800000 in
theorem isToken_any (b o : Nat) (s : ByteArray) (w : World) (h : Tab w b o) (hs : s.size ≤ 4611686018427387904) :
    Calls Tryz.prog 31 #[.pointer (some ⟨b, o, none⟩), .string s] w fun e w' => e = .returned (.bool (Fd.token s.data.toList)) ∧ w' = w := by
  have HA := hide (all_m s _ (.pointer (some ⟨b, o, none⟩)) Fd.tok w hs enters_tok (tests_tok b o w h))
  clear h
  have hmf : ∀ (fn : Fn) (first cap : Array Value) (w : World), (Instr.makeFunc fn first cap).run Tryz.prog w = .ok (.func fn first cap) w := fun _ _ _ _ => rfl
  by_cases he : s = ⟨#[]⟩
  · subst he
    go_enter Tryz.func31, Tryz.ntmps31
    go_wp2_with fail
    go_ret
    exact ⟨rfl, rfl⟩
  · have hne : ¬ s.toList = [] := fun e => he (ba_ext (by rw [ByteArray.toList_eq] at e; rw [e]))
    have hne3 : (s.toList == []) = false := beq_false_of_ne hne
    have hne4 : s.toList.isEmpty = false := by cases hh : s.toList with
      | nil => exact absurd hh hne
      | cons _ _ => rfl
    have HT : Hid (Fd.token s.data.toList = s.data.toList.all Fd.tok) := by
      show _ = _
      unfold Fd.token
      rw [← ByteArray.toList_eq, hne4]; rfl
    rw [HT.out]
    generalize s.data.toList.all Fd.tok = t at *
    go_enter Tryz.func31, Tryz.ntmps31
    go_wp2_with (go_at_call 32; refine HA.out.mono ?_; rintro x w2 ⟨rfl, rfl⟩)
    go_ret
    exact ⟨rfl, rfl⟩

/-- the table in a block of its own -/
theorem tab_put (w : World) : Tab ((w.alloc (.cells Tryz.zeroCells62 62)).setCells w.heap.size 0 tabL) w.heap.size 0 := by
  have e : tabL.length = Tryz.zeroCells62.size := by rw [tabL_len]; kernel_rfl
  exact World.rangeAt_setCells_same _ w.heap.size 0 tabL (by rw [e]; exact there_new_at w _ _ _ _ rfl rfl)
theorem there_put (w : World) : (w.alloc (.cells Tryz.zeroCells62 62)).there w.heap.size 0 tabL.toArray.size := by
  have e : tabL.toArray.size = Tryz.zeroCells62.size := by rw [List.size_toArray, tabL_len]; kernel_rfl
  rw [e]; exact there_new_at w _ _ _ _ rfl rfl

/-- the table as a value that is a letter -/
structure TabA (T : Array Value) : Prop where
  list : T.toList = tabL
  made : ∀ w, Calls Tryz.prog 15 #[] w fun e w' => e = .returned (.agg T) ∧ Below w.heap.size w w'
  room : ∀ w1 : World, (w1.alloc (.cells Tryz.zeroCells62 62)).there w1.heap.size 0 T.size
  size : (Tryz.prog.info? 62).map (·.size) = some T.size
  one : T.all (·.oneCell') = true
theorem tabA : ∃ T, TabA T := ⟨tabL.toArray, rfl, classes_any, there_put, size_tab2, tabL_one⟩
/-- a world with the table in a new block -/
def put (Z T : Array Value) (w : World) : World := (w.alloc (.cells Z 62)).setCells w.heap.size 0 T.toList
theorem TabA.tab {T : Array Value} (h : TabA T) (w : World) : Tab (put Tryz.zeroCells62 T w) w.heap.size 0 := by
  have := tab_put w
  unfold put
  rw [h.list]; exact this
theorem put_below (Z T : Array Value) (w : World) : Below w.heap.size w (put Z T w) := below_setCells ((Below.refl _ _).alloc (Nat.le_refl _) _) (Nat.le_refl _) _ _

end Go.Proofs.YtlefalplljgkeaaGreatDoor.fd
