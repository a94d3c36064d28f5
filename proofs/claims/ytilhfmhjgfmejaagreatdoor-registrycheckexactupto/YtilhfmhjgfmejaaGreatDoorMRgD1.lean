import Derived.Test.YtilhfmhjgfmejaaGreatDoorMRgChD
import Derived.Test.YtilhfmhjgfmejaaGreatDoorMRefScopes9
import Derived.Test.YtilhfmhjgfmejaaGreatDoorMRefRed9
import Derived.Deep.DeepCutAuto
namespace Go.Proofs.YtilhfmhjgfmejaaGreatDoor.rg
open Go.ChangeShapes Go.WideShapes Go.ChangeAt Go.RowKit Go.Proofs.YtilhfmhjgfmejaaGreatDoor.common Go.Maps
attribute [local go_sem ↓] Go.wp_at_zero Go.wp_at_succ

theorem ba_ext {a b : ByteArray} (h : a.data.toList = b.data.toList) : a = b := by apply ByteArray.ext; apply Array.toList_inj.1; exact h
theorem size_one {a : ByteArray} : decide (a ≠ ⟨#[]⟩) = decide (1 ≤ a.size) := by
  by_cases h : a = ⟨#[]⟩
  · rw [decide_eq_false (fun h' => h' h), h]; rfl
  · rw [decide_eq_true h]
    have : a.size ≠ 0 := fun h0 => h (ba_ext (by
      have : a.data.toList.length = 0 := by simpa using h0
      rw [List.eq_nil_of_length_eq_zero this]))
    exact (decide_eq_true (by omega)).symm

set_option maxRecDepth 100000 in
set_option maxHeartbeats 1600000 in
theorem secretMayBe_any (a b : ByteArray) (w : World) : Calls Tryz.prog 60 #[.agg #[.string a, .string b]] w fun e w' => e = .returned (.bool (seB a b)) ∧ Below w.heap.size w w' := by
  have HB : Hid (Below w.heap.size w (w.alloc (.cells #[.string a, .string b] 42))) := (Below.refl _ _).alloc (Nat.le_refl _) _
  have HS : Hid (seB a b = (decide (1 ≤ a.size) && (decide (a.size ≤ 64) && decide (b.size = 32)))) := by show _ = _; unfold seB; rw [size_one]
  generalize seB a b = t at *
  by_cases h0 : 1 ≤ a.size
  · have e0 : (1 : Int) ≤ (a.size : Int) := by omega
    by_cases h1 : a.size ≤ 64
    · have e1 : (a.size : Int) ≤ 64 := by omega
      by_cases h2 : b.size = 32
      · have e2 : ((b.size : Int) == 32) = true := by rw [h2]; rfl
        have HT : Hid (t = true) := by show t = true; rw [HS.out, decide_eq_true h0, decide_eq_true h1, decide_eq_true h2]; rfl
        clear h2
        go_enter Tryz.func60, Tryz.ntmps60
        go_wp2
        go_ret
        exact ⟨by rw [HT.out] <;> rfl, HB.out⟩
      · have e2 : ((b.size : Int) == 32) = false := beq_false_of_ne (by omega)
        have HT : Hid (t = false) := by show t = false; rw [HS.out, decide_eq_true h0, decide_eq_true h1, decide_eq_false h2]; rfl
        clear h2
        go_enter Tryz.func60, Tryz.ntmps60
        go_wp2
        go_ret
        exact ⟨by rw [HT.out] <;> rfl, HB.out⟩
    · have e1 : ¬ (a.size : Int) ≤ 64 := by omega
      have HT : Hid (t = false) := by show t = false; rw [HS.out, decide_eq_true h0, decide_eq_false h1]; rfl
      go_enter Tryz.func60, Tryz.ntmps60
      go_wp2
      go_ret
      exact ⟨by rw [HT.out] <;> rfl, HB.out⟩
  · have e0 : ¬ (1 : Int) ≤ (a.size : Int) := by omega
    have HT : Hid (t = false) := by show t = false; rw [HS.out, decide_eq_false h0]; rfl
    go_enter Tryz.func60, Tryz.ntmps60
    go_wp2
    go_ret
    exact ⟨by rw [HT.out] <;> rfl, HB.out⟩

theorem oneSc_iff (s : ByteArray) : oneSc s = (decide (tm.scN s = 0) && decide (tm.scL s = [s])) := by
  unfold oneSc tm.scN
  cases tm.areSc s <;> cases tm.many s <;> simp
theorem one_of {l : List ByteArray} (h : l.length = 1) : ∃ t, l = [t] := by
  cases l with
  | nil => cases h
  | cons a r =>
    cases r with
    | nil => exact ⟨a, rfl⟩
    | cons c r => simp at h

set_option maxRecDepth 100000 in
set_option maxHeartbeats 1600000 in
theorem refIsScope_any (s : ByteArray) (w : World) (hs : s.size ≤ 4294967200) : Calls Tryz.prog 62 #[.string s] w fun e w' => e = .returned (.bool (oneSc s)) ∧ Below w.heap.size w w' := by
  have HU := hide (tm.refScopes_any s w hs)
  have HO := hide (oneSc_iff s)
  generalize oneSc s = t at *
  by_cases hn : tm.scN s = 0
  · rw [hn] at HU
    generalize tm.scL s = L at *
    by_cases hl1 : L.length = 1
    · obtain ⟨u, rfl⟩ := one_of hl1
      by_cases hus : u = s
      · subst hus
        have HT : Hid (t = true) := by show t = true; rw [HO.out, hn]; simp
        clear hn HO hl1
        go_enter Tryz.func62, Tryz.ntmps62
        go_wp2_with fail
        refine HU.out.mono ?_
        rintro x w2 ⟨v, rfl, ho, b2⟩
        obtain ⟨_, _, rfl, hc1⟩ := ss.lies_of_own ho
        obtain ⟨b1, oo1, rfl, _, d1⟩ := hc1 0 (by simp)
        simp only [Nat.add_zero, List.getElem_cons_zero, List.length_cons, List.length_nil, Nat.zero_add] at *
        have HB := hide b2
        clear b2 ho hc1
        go_wp2_with fail
        go_ret
        exact ⟨by rw [HT.out] <;> rfl, HB.out⟩
      · have HT : Hid (t = false) := by show t = false; rw [HO.out]; simp [hus]
        have hne : (u.toList == s.toList) = false := beq_false_of_ne (fun h => hus (ba_ext (by rw [ByteArray.toList_eq, ByteArray.toList_eq] at h; exact h)))
        clear hn HO hl1 hus
        go_enter Tryz.func62, Tryz.ntmps62
        go_wp2_with fail
        refine HU.out.mono ?_
        rintro x w2 ⟨v, rfl, ho, b2⟩
        obtain ⟨_, _, rfl, hc1⟩ := ss.lies_of_own ho
        obtain ⟨b1, oo1, rfl, _, d1⟩ := hc1 0 (by simp)
        simp only [Nat.add_zero, List.getElem_cons_zero, List.length_cons, List.length_nil, Nat.zero_add] at *
        have HB := hide b2
        clear b2 ho hc1
        go_wp2_with fail
        go_ret
        exact ⟨by rw [HT.out] <;> first | rfl | exact congrArg _ hne, HB.out⟩
    · have HT : Hid (t = false) := by show t = false; rw [HO.out]; simp; intro _ h; exact hl1 (by rw [h]; rfl)
      have hne : ((L.length : Int) == 1) = false := beq_false_of_ne (by omega)
      have hne3 : (L.length == 1) = false := beq_false_of_ne (by omega)
      clear hn HO
      go_enter Tryz.func62, Tryz.ntmps62
      go_wp2_with fail
      refine HU.out.mono ?_
      rintro x w2 ⟨v, rfl, ho, b2⟩
      obtain ⟨oa, cap, rfl⟩ := form_w ho
      have HB := hide b2
      clear b2 ho
      go_wp2_with fail
      go_ret
      exact ⟨by rw [HT.out] <;> rfl, HB.out⟩
  · have HT : Hid (t = false) := by show t = false; rw [HO.out]; simp [hn]
    have hne : (tm.scN s == 0) = false := beq_false_of_ne hn
    generalize tm.scN s = nn at *
    clear hn HO
    go_enter Tryz.func62, Tryz.ntmps62
    go_wp2_with fail
    refine HU.out.mono ?_
    rintro x w2 ⟨v, rfl, ho, b2⟩
    obtain ⟨oa, cap, rfl⟩ := form_w ho
    have HB := hide b2
    clear b2 ho
    go_wp2_with fail
    go_ret
    exact ⟨by rw [HT.out] <;> rfl, HB.out⟩

set_option maxRecDepth 100000 in
set_option maxHeartbeats 1600000 in
theorem userMayBe_any (u : Usr) (w : World) (hs : u.name.size ≤ 4611686018427387904) : Calls Tryz.prog 39 #[.agg #[.string u.name, .string u.salt, .string u.dig]] w fun e w' => e = .returned (.bool (usrB u)) ∧ Below w.heap.size w w' := by
  obtain ⟨nm, salt, dig⟩ := u
  have hb := heap_new w (.cells #[.string nm, .string salt, .string dig] 47)
  have HB : Hid (Below w.heap.size w (w.alloc (.cells #[.string nm, .string salt, .string dig] 47))) := (Below.refl _ _).alloc (Nat.le_refl _) _
  have HN := hide (tm.refName_any nm (w.alloc (.cells #[.string nm, .string salt, .string dig] 47)) hs)
  have HS := hide (secretMayBe_any salt dig (w.alloc (.cells #[.string nm, .string salt, .string dig] 47)))
  have HRS := hide (rg_of (o := 1) [.string salt, .string dig] hb (l2 rfl rfl))
  have HQ : Hid (usrB ⟨nm, salt, dig⟩ = (Tm.word 64 (Tm.btw 33 126) nm.data.toList && seB salt dig)) := rfl
  generalize usrB ⟨nm, salt, dig⟩ = t at *
  generalize Tm.word 64 (Tm.btw 33 126) nm.data.toList = q1 at *
  generalize seB salt dig = q2 at *
  clear hb
  go_enter Tryz.func39, Tryz.ntmps39
  go_wp2_with fail
  refine HN.out.mono ?_
  rintro e w2 ⟨rfl, rfl⟩
  go_wp2_with (refine wpList_load_mid rfl 42 _ rfl w.heap.size 1 rfl _ _ HRS.out Tryz.underlying42 rfl sizeSe ?_)
  refine HS.out.mono ?_
  rintro e w3 ⟨rfl, b3⟩
  have HB3 := hide (keepW HB.out b3)
  clear b3
  cases q1 <;> cases q2
  all_goals (go_wp2_with fail; go_ret; exact ⟨by rw [HQ.out] <;> rfl, HB3.out⟩)
end Go.Proofs.YtilhfmhjgfmejaaGreatDoor.rg
