import Derived.Test.YthhkhpgffamdhaaDoorFieldRef
namespace Go.Proofs.YthhkhpgffamdhaaDoor.fd
open Go.ChangeShapes Go.WideShapes Go.ChangeAt Go.RowKit Go.Proofs.YthhkhpgffamdhaaDoor.common Go.Proofs.YthhkhpgffamdhaaDoor.bk
attribute [local go_sem ↓] Go.wp_at_zero Go.wp_at_succ

theorem tests_tok (b o : Nat) (w : World) (h : Tab w b o) : Tests 52 (.pointer (some ⟨b, o, none⟩)) Fd.tok w :=
  fun W c hb => isTokenByte_any b o c W (h.below hb)
theorem enters_tok : ∀ args w, (callFunc 52 args).run Tryd.prog w = .ok (.enter 52 args) w := enters_of Tryd.func52 (by kernel_rfl) rfl

set_option maxRecDepth 100000 in
set_option maxHeartbeats 800000 in
theorem isToken_any (b o : Nat) (s : ByteArray) (w : World) (h : Tab w b o) (hs : s.size ≤ 4611686018427387904) :
    Calls Tryd.prog 28 #[.pointer (some ⟨b, o, none⟩), .string s] w fun e w' => e = .returned (.bool (Fd.token s.data.toList)) ∧ w' = w := by
  have HA := hide (all_m s _ (.pointer (some ⟨b, o, none⟩)) Fd.tok w hs enters_tok (tests_tok b o w h))
  clear h
  have hmf : ∀ (fn : Fn) (first cap : Array Value) (w : World), (Instr.makeFunc fn first cap).run Tryd.prog w = .ok (.func fn first cap) w := fun _ _ _ _ => rfl
  by_cases he : s = ⟨#[]⟩
  · subst he
    go_enter Tryd.func28, Tryd.ntmps28
    go_wp2_with fail
    go_ret
    exact ⟨rfl, rfl⟩
  · have hne : ¬ s.toList = [] := fun e => he (ba_ext (by rw [ByteArray.toList_eq] at e; rw [e]))
    have hne3 : (s.toList == []) = false := beq_false_of_ne hne
    have hne4 : s.toList.isEmpty = false := by cases hh : s.toList with
      | nil => exact absurd hh hne
      | cons _ _ => rfl
    have HT : Hid (Fd.token s.data.toList = s.data.toList.all Fd.tok) := by
      show _ = _
      unfold Fd.token
      rw [← ByteArray.toList_eq, hne4]; rfl
    rw [HT.out]
    generalize s.data.toList.all Fd.tok = t at *
    go_enter Tryd.func28, Tryd.ntmps28
    go_wp2_with (go_at_call 51; refine HA.out.mono ?_; rintro x w2 ⟨rfl, rfl⟩)
    go_ret
    exact ⟨rfl, rfl⟩

/-- the table in a block of its own -/
theorem tab_put (w : World) : Tab ((w.alloc (.cells Tryd.zeroCells62 62)).setCells w.heap.size 0 tabL) w.heap.size 0 := by
  have e : tabL.length = Tryd.zeroCells62.size := by rw [tabL_len]; kernel_rfl
  exact World.rangeAt_setCells_same _ w.heap.size 0 tabL (by rw [e]; exact there_new_at w _ _ _ _ rfl rfl)
theorem there_put (w : World) : (w.alloc (.cells Tryd.zeroCells62 62)).there w.heap.size 0 tabL.toArray.size := by
  have e : tabL.toArray.size = Tryd.zeroCells62.size := by rw [List.size_toArray, tabL_len]; kernel_rfl
  rw [e]; exact there_new_at w _ _ _ _ rfl rfl

/-- the table as a value that is a letter -/
structure TabA (T : Array Value) : Prop where
  list : T.toList = tabL
  made : ∀ w, Calls Tryd.prog 27 #[] w fun e w' => e = .returned (.agg T) ∧ Below w.heap.size w w'
  room : ∀ w1 : World, (w1.alloc (.cells Tryd.zeroCells62 62)).there w1.heap.size 0 T.size
  size : (Tryd.prog.info? 62).map (·.size) = some T.size
  one : T.all (·.oneCell') = true
theorem tabA : ∃ T, TabA T := ⟨tabL.toArray, rfl, classes_any, there_put, size_tab2, tabL_one⟩
/-- a world with the table in a new block -/
def put (Z T : Array Value) (w : World) : World := (w.alloc (.cells Z 62)).setCells w.heap.size 0 T.toList
theorem TabA.tab {T : Array Value} (h : TabA T) (w : World) : Tab (put Tryd.zeroCells62 T w) w.heap.size 0 := by
  have := tab_put w
  unfold put
  rw [h.list]; exact this
theorem put_below (Z T : Array Value) (w : World) : Below w.heap.size w (put Z T w) := below_setCells ((Below.refl _ _).alloc (Nat.le_refl _) _) (Nat.le_refl _) _ _

set_option maxRecDepth 100000 in
set_option maxHeartbeats 800000 in
theorem token_any (s : ByteArray) (w : World) (hs : s.size ≤ 4611686018427387904) :
    Calls Tryd.prog 9 #[.string s] w fun e w' => e = .returned (.bool (Fd.token s.data.toList)) ∧ Below w.heap.size w w' := by
  obtain ⟨T, hT⟩ := tabA
  have HT := hide hT
  clear hT
  go_enter Tryd.func9, Tryd.ntmps9
  go_wp2_with fail
  refine (HT.out.made w).mono ?_
  rintro x w1 ⟨rfl, hb1⟩
  have HB := hide (keepD hb1 (put_below Tryd.zeroCells62 T w1))
  clear hb1
  go_wp2_with (refine wpList_store_mid rfl 62 (.tmp 3) (.tmp 4) rfl w1.heap.size 0 T rfl rfl (HT.out.room w1) HT.out.size HT.out.one ?_)
  refine (isToken_any w1.heap.size 0 s (put Tryd.zeroCells62 T w1) (HT.out.tab w1) hs).mono ?_
  rintro x w3 ⟨rfl, rfl⟩
  go_wp2_with fail
  go_ret
  exact ⟨rfl, HB.out⟩

set_option maxRecDepth 100000 in
set_option maxHeartbeats 800000 in
theorem refToken_any (s : ByteArray) (w : World) (hs : s.size ≤ 4611686018427387904) :
    Calls Tryd.prog 44 #[.string s] w fun e w' => e = .returned (.bool (Fd.token s.data.toList)) ∧ w' = w := by
  have HT : Hid (∀ k (_ : k < s.size), (s.data.toList.take (k + 1)).all Fd.tok = ((s.data.toList.take k).all Fd.tok && Fd.tok s[k])) := fun k h => all_take _ Fd.tok k (by simpa using h)
  have HE : Hid (s.data.toList.take s.size = s.data.toList) := take_all s
  have HA : Hid (∀ k, (s.data.toList.take k).all Fd.tok = false → Fd.token s.data.toList = false) := by
    intro k h
    have e : s.data.toList.all Fd.tok = ((s.data.toList.take k).all Fd.tok && (s.data.toList.drop k).all Fd.tok) := by rw [← List.all_append, List.take_append_drop]
    unfold Fd.token
    rw [e, h]; simp
  go_enter Tryd.func44, Tryd.ntmps44
  go_wp2_with fail
  go_loopw [3] (fun i wr => ∃ k : Nat, k ≤ s.size ∧ i = .int .i64 k ∧ (s.data.toList.take k).all Fd.tok = true ∧ wr = w) (fun i _ => s.size - (intOf i).toNat)
  case atStart => exact ⟨0, Nat.zero_le _, rfl, by simp, rfl⟩
  case round =>
    obtain ⟨k, hk, rfl, ha, rfl⟩ := hrel
    have HAK := hide ha
    clear ha
    by_cases hlt : k < s.size
    · have hki : (k : Int) < (s.size : Int) := by omega
      have HTK := hide (HT.out k hlt)
      cases hp : Fd.tok s[k] with
      | true =>
        have HP := hide hp
        clear hp
        go_wp2_with (go_at_call 66; refine (tokenByte_any _ _).mono ?_; rintro x w2 ⟨rfl, rfl⟩; rw [HP.out])
        go_roundw
        case rel => exact ⟨k + 1, by omega, by go_num, by rw [HTK.out, HAK.out, HP.out]; rfl, by trivial⟩
        case measure => simp [intOf]; omega
      | false =>
        have HP := hide hp
        clear hp
        have HR : Hid (Fd.token s.data.toList = false) := HA.out (k + 1) (by rw [HTK.out, HP.out, Bool.and_false])
        go_wp2_with (go_at_call 66; refine (tokenByte_any _ _).mono ?_; rintro x w2 ⟨rfl, rfl⟩; rw [HP.out])
        go_ret
        exact ⟨by rw [HR.out]; rfl, rfl⟩
    · obtain rfl : k = s.size := by omega
      rw [HE.out] at HAK
      by_cases he : s = ⟨#[]⟩
      · subst he
        go_wp2_with fail
        go_ret
        exact ⟨rfl, rfl⟩
      · have hne : ¬ s.toList = [] := fun e => he (ba_ext (by rw [ByteArray.toList_eq] at e; rw [e]))
        have hne3 : (s.toList == []) = false := beq_false_of_ne hne
        have hne4 : s.toList.isEmpty = false := by cases hh : s.toList with
          | nil => exact absurd hh hne
          | cons _ _ => rfl
        have HR : Hid (Fd.token s.data.toList = true) := by
          show _ = _
          unfold Fd.token
          rw [HAK.out, ← ByteArray.toList_eq, hne4]; rfl
        go_wp2_with fail
        go_ret
        exact ⟨by rw [HR.out]; rfl, rfl⟩

end Go.Proofs.YthhkhpgffamdhaaDoor.fd
