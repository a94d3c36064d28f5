import Derived.Test.YtcpflfpgnbihiaaGreatDoorMFieldRef
namespace Go.Proofs.YtcpflfpgnbihiaaGreatDoor.fd
open Go.ChangeShapes Go.WideShapes Go.ChangeAt Go.RowKit Go.Proofs.YtcpflfpgnbihiaaGreatDoor.common Go.Proofs.YtcpflfpgnbihiaaGreatDoor.bk
attribute [local go_sem ↓] Go.wp_at_zero Go.wp_at_succ

theorem tests_tok (b o : Nat) (w : World) (h : Tab w b o) : Tests 84 (.pointer (some ⟨b, o, none⟩)) Fd.tok w :=
  fun W c hb => isTokenByte_any b o c W (h.below hb)
theorem enters_tok : ∀ args w, (callFunc 84 args).run Tryz.prog w = .ok (.enter 84 args) w := enters_of Tryz.func84 (by kernel_rfl) rfl

/-- the table in a block of its own -/
theorem tab_put (w : World) : Tab ((w.alloc (.cells Tryz.zeroCells88 88)).setCells w.heap.size 0 tabL) w.heap.size 0 := by
  have e : tabL.length = Tryz.zeroCells88.size := by rw [tabL_len]; kernel_rfl
  exact World.rangeAt_setCells_same _ w.heap.size 0 tabL (by rw [e]; exact there_new_at w _ _ _ _ rfl rfl)
theorem there_put (w : World) : (w.alloc (.cells Tryz.zeroCells88 88)).there w.heap.size 0 tabL.toArray.size := by
  have e : tabL.toArray.size = Tryz.zeroCells88.size := by rw [List.size_toArray, tabL_len]; kernel_rfl
  rw [e]; exact there_new_at w _ _ _ _ rfl rfl

/-- the table as a value that is a letter -/
structure TabA (T : Array Value) : Prop where
  list : T.toList = tabL
  made : ∀ w, Calls Tryz.prog 62 #[] w fun e w' => e = .returned (.agg T) ∧ Below w.heap.size w w'
  room : ∀ w1 : World, (w1.alloc (.cells Tryz.zeroCells88 88)).there w1.heap.size 0 T.size
  size : (Tryz.prog.info? 88).map (·.size) = some T.size
  one : T.all (·.oneCell') = true
theorem tabA : ∃ T, TabA T := ⟨tabL.toArray, rfl, classes_any, there_put, size_tab2, tabL_one⟩
/-- a world with the table in a new block -/
def put (Z T : Array Value) (w : World) : World := (w.alloc (.cells Z 88)).setCells w.heap.size 0 T.toList
theorem TabA.tab {T : Array Value} (h : TabA T) (w : World) : Tab (put Tryz.zeroCells88 T w) w.heap.size 0 := by
  have := tab_put w
  unfold put
  rw [h.list]; exact this
theorem put_below (Z T : Array Value) (w : World) : Below w.heap.size w (put Z T w) := below_setCells ((Below.refl _ _).alloc (Nat.le_refl _) _) (Nat.le_refl _) _ _

end Go.Proofs.YtcpflfpgnbihiaaGreatDoor.fd
