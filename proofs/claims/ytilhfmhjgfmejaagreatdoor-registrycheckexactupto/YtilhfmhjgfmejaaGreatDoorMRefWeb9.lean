import Derived.Test.YtilhfmhjgfmejaaGreatDoorMRefSite9
import Derived.Test.YtilhfmhjgfmejaaGreatDoorMRefRun9
namespace Go.Proofs.YtilhfmhjgfmejaaGreatDoor.tm
open Go.ChangeShapes Go.WideShapes Go.ChangeAt Go.RowKit Go.Proofs.YtilhfmhjgfmejaaGreatDoor.common Go.Proofs.YtilhfmhjgfmejaaGreatDoor.bk
open Go.Proofs.YtilhfmhjgfmejaaGreatDoor.fd (before behind cut_no cut_at)
attribute [local go_sem ↓] Go.wp_at_zero Go.wp_at_succ

/-- the last place of a byte, or less than none -/
def Last (c : UInt8) (l : List UInt8) (C : Int) : Prop := (C = -1 ∧ ∀ x ∈ l, x ≠ c) ∨ ∃ n : Nat, C = n ∧ n < l.length ∧ l = l.take n ++ c :: l.drop (n + 1) ∧ ∀ x ∈ l.drop (n + 1), x ≠ c
theorem last_nil (c : UInt8) : Last c [] (-1) := Or.inl ⟨rfl, fun x h => by cases h⟩
theorem last_hit (c : UInt8) (l : List UInt8) : Last c (l ++ [c]) (l.length : Int) := by
  refine Or.inr ⟨l.length, rfl, by simp, ?_, ?_⟩
  · rw [List.take_left, List.drop_of_length_le (by simp)]
  · rw [List.drop_of_length_le (by simp)]
    intro x h; cases h
theorem last_miss {c x : UInt8} {l : List UInt8} {C : Int} (hx : x ≠ c) (h : Last c l C) : Last c (l ++ [x]) C := by
  rcases h with ⟨rfl, h⟩ | ⟨n, rfl, hn, e, h⟩
  · refine Or.inl ⟨rfl, fun y hy => ?_⟩
    rcases List.mem_append.1 hy with hy | hy
    · exact h y hy
    · rw [List.mem_singleton.1 hy]; exact hx
  · refine Or.inr ⟨n, rfl, by rw [List.length_append]; omega, ?_, ?_⟩
    · rw [List.take_append_of_le_length (by omega), List.drop_append_of_le_length (by omega)]
      conv => lhs; rw [e]
      rw [List.append_assoc]; rfl
    · rw [List.drop_append_of_le_length (by omega)]
      intro y hy
      rcases List.mem_append.1 hy with hy | hy
      · exact h y hy
      · rw [List.mem_singleton.1 hy]; exact hx
theorem last_ge {c : UInt8} {l : List UInt8} {C : Int} (h : Last c l C) : -1 ≤ C ∧ C < (l.length : Int) := by
  rcases h with ⟨rfl, _⟩ | ⟨n, rfl, hn, _⟩
  · omega
  · omega
theorem last_cut {u : List UInt8} {C D : Int} (hC : Last 58 u C) (hD : Last 93 u D) (h : D < C) : ∃ n : Nat, C = n ∧ n < u.length ∧ cutLast u = some (u.take n, u.drop (n + 1)) := by
  have hd := last_ge hD
  rcases hC with ⟨rfl, _⟩ | ⟨n, rfl, hn, e, h1⟩
  · omega
  · refine ⟨n, rfl, hn, ?_⟩
    have h2 : ∀ x ∈ u.drop (n + 1), x ≠ 93 := by
      rcases hD with ⟨_, h2⟩ | ⟨m, rfl, _, _, h2⟩
      · exact fun x hx => h2 x (List.mem_of_mem_drop hx)
      · intro x hx
        refine h2 x ?_
        have : u.drop (n + 1) = (u.drop (m + 1)).drop (n - m) := by rw [List.drop_drop]; congr 1; omega
        rw [this] at hx
        exact List.mem_of_mem_drop hx
    have := cutLast_some (u.take n) (u.drop (n + 1)) h1 h2
    rw [← e] at this
    exact this
theorem last_no {u : List UInt8} {C D : Int} (hC : Last 58 u C) (hD : Last 93 u D) (h : ¬ D < C) : cutLast u = none := by
  rcases hC with ⟨rfl, h1⟩ | ⟨n, rfl, hn, e, h1⟩
  · exact cutLast_no u h1
  · rcases hD with ⟨rfl, _⟩ | ⟨m, rfl, hm, e2, _⟩
    · omega
    · refine cutLast_none u fun a b eab => ?_
      have c1 : u[n]? = some 58 := by
        rw [e, List.getElem?_append_right (by rw [List.length_take]; omega), List.length_take, Nat.min_eq_left (by omega), Nat.sub_self]; rfl
      have c2 : u[m]? = some 93 := by
        rw [e2, List.getElem?_append_right (by rw [List.length_take]; omega), List.length_take, Nat.min_eq_left (by omega), Nat.sub_self]; rfl
      have hnm : n ≠ m := fun he => by rw [he, c2] at c1; exact absurd (Option.some.inj c1) (by decide)
      have ha : a.length ≤ n := by
        apply Nat.le_of_not_lt
        intro hlt
        have h3 : u[a.length]? = some 58 := by rw [eab, List.getElem?_append_right (Nat.le_refl _), Nat.sub_self]; rfl
        have h4 : (58 : UInt8) ∈ u.drop (n + 1) := by
          have : (u.drop (n + 1))[a.length - (n + 1)]? = some 58 := by rw [List.getElem?_drop, show n + 1 + (a.length - (n + 1)) = a.length by omega]; exact h3
          exact List.mem_of_getElem? this
        exact h1 _ h4 rfl
      have : b[m - (a.length + 1)]? = some 93 := by
        have h5 := c2
        rw [eab, List.getElem?_append_right (by omega), show m - a.length = (m - (a.length + 1)) + 1 by omega, List.getElem?_cons_succ] at h5
        exact h5
      exact List.mem_of_getElem? this
def nmB (loc : Bool) : List UInt8 → Bool := if loc then isLoc else hostR

theorem list_eq (s : ByteArray) (l : List UInt8) : (s.toList == l) = decide (s.data.toList = l) := by
  rw [ByteArray.toList_eq]
  by_cases h : s.data.toList = l
  · rw [decide_eq_true h, h]; simp
  · rw [decide_eq_false h]; exact beq_false_of_ne h

set_option maxRecDepth 100000 in
set_option maxHeartbeats 6400000 in
theorem refSite_any (s : ByteArray) (loc : Bool) (w : World) (hs : s.size ≤ 4611686018427387900) :
    Calls Tryz.prog 99 #[.string s, .bool loc] w fun e w' => e = .returned (.bool (siteR (nmB loc) s.data.toList)) ∧ w' = w := by
  obtain ⟨R, hR⟩ : ∃ R, R = siteR (nmB loc) s.data.toList := ⟨_, rfl⟩
  have HR := hide hR
  rw [← hR]
  clear hR
  have HT : Hid (∀ k (_ : k < s.size), s.data.toList.take (k + 1) = s.data.toList.take k ++ [s[k]]) := fun k h => take_snoc s k h
  have HTl : Hid (∀ k, k ≤ s.size → (s.data.toList.take k).length = k) := fun k h => by rw [List.length_take, len_list]; omega
  have HE : Hid (s.data.toList.take s.size = s.data.toList) := take_all s
  go_enter Tryz.func99, Tryz.ntmps99
  go_wp2_with fail
  go_loopw [5, 6, 7] (fun c d i wr => ∃ (k : Nat) (C D : Int), k ≤ s.size ∧ c = .int .i64 C ∧ d = .int .i64 D ∧ i = .int .i64 (k : Int) ∧ Hid (Last 58 (s.data.toList.take k) C) ∧ Hid (Last 93 (s.data.toList.take k) D) ∧ wr = w) (fun _ _ i _ => s.size - (intOf i).toNat)
  case atStart => exact ⟨0, -1, -1, Nat.zero_le _, rfl, rfl, rfl, last_nil _, last_nil _, rfl⟩
  case round =>
    obtain ⟨k, C, D, hk, rfl, rfl, rfl, HC, HD, rfl⟩ := hrel
    by_cases hlt : k < s.size
    · have hki : (k : Int) < (s.size : Int) := by omega
      have hl := HTl.out k hk
      rcases is_cases 58 58 rfl s[k] with ⟨a1, a2, a3⟩ | ⟨a1, a2, a3⟩
      · have e58 : s[k] = 58 := UInt8.toNat_inj.1 (of_decide_eq_true a1)
        have HC2 : Hid (Last 58 (s.data.toList.take (k + 1)) (k : Int)) := by
          show Last _ _ _
          rw [HT.out k hlt, e58]
          have := last_hit 58 (s.data.toList.take k)
          rw [hl] at this
          exact this
        have HD2 : Hid (Last 93 (s.data.toList.take (k + 1)) D) := by
          show Last _ _ _
          rw [HT.out k hlt]
          exact last_miss (by rw [e58]; decide) HD.out
        have b2 : ¬ (s[k].toNat : Int) = 93 := by omega
        have b3 : ((s[k].toNat : Int) == 93) = false := beq_false_of_ne b2
        clear e58 hl
        go_wp2_with fail
        go_roundw
        case rel => exact ⟨k + 1, k, D, by omega, rfl, rfl, by go_num, HC2, HD2, by trivial⟩
        case measure => simp [intOf]; omega
      · have n58 : s[k] ≠ 58 := fun e => of_decide_eq_false a1 (by rw [e]; rfl)
        have HC2 : Hid (Last 58 (s.data.toList.take (k + 1)) C) := by
          show Last _ _ _
          rw [HT.out k hlt]
          exact last_miss n58 HC.out
        rcases is_cases 93 93 rfl s[k] with ⟨b1, b2, b3⟩ | ⟨b1, b2, b3⟩
        · have e93 : s[k] = 93 := UInt8.toNat_inj.1 (of_decide_eq_true b1)
          have HD2 : Hid (Last 93 (s.data.toList.take (k + 1)) (k : Int)) := by
            show Last _ _ _
            rw [HT.out k hlt, e93]
            have := last_hit 93 (s.data.toList.take k)
            rw [hl] at this
            exact this
          clear e93 hl n58
          go_wp2_with fail
          go_roundw
          case rel => exact ⟨k + 1, C, k, by omega, rfl, rfl, by go_num, HC2, HD2, by trivial⟩
          case measure => simp [intOf]; omega
        · have n93 : s[k] ≠ 93 := fun e => of_decide_eq_false b1 (by rw [e]; rfl)
          have HD2 : Hid (Last 93 (s.data.toList.take (k + 1)) D) := by
            show Last _ _ _
            rw [HT.out k hlt]
            exact last_miss n93 HD.out
          clear hl n58 n93
          go_wp2_with fail
          go_roundw
          case rel => exact ⟨k + 1, C, D, by omega, rfl, rfl, by go_num, HC2, HD2, by trivial⟩
          case measure => simp [intOf]; omega
    · obtain rfl : k = s.size := by omega
      have hxx : ¬ (s.size : Int) < (s.size : Int) := by omega
      rw [HE.out] at HC HD
      clear hk hlt
      -- the name's own test
      have HNm : Hid (∀ z : ByteArray, z.size ≤ s.size → ∀ W, Calls Tryz.prog 126 #[.string z] W fun e w' => e = .returned (.bool (hostR z.data.toList)) ∧ w' = W) := fun z hz W => refHost_any z W (by omega)
      by_cases hcut : D < C
      · obtain ⟨n, rfl, hn, hcl⟩ := last_cut HC.out HD.out hcut
        rw [len_list] at hn
        have HR2 : Hid (R = (portL (s.data.toList.drop (n + 1)) && nmB loc (s.data.toList.take n))) := by
          show _ = _
          rw [HR.out]
          unfold siteR
          rw [hcl]
        clear HR hcl HC HD
        rw [← ext_from, ← ext_to] at HR2
        have hni : (n : Int) ≤ (s.size : Int) := by omega
        have hn1 : (n : Int) + 1 ≤ (s.size : Int) := by omega
        have h10 : (0 : Int) ≤ (n : Int) + 1 := by omega
        have h1t : ((n : Int) + 1).toNat = n + 1 := by omega
        have ww : IntKind.i64.wrap ((n : Int) + 1) = (n : Int) + 1 := wrap_le _ (by omega) (by omega)
        have HP := hide (fun W => refPort_any (s.extract (n + 1) s.size) W)
        have HH := hide (HNm.out (s.extract 0 n) (by rw [ByteArray.size_extract]; omega))
        generalize portL (s.extract (n + 1) s.size).data.toList = t at *
        cases t with
        | false =>
          have HF : Hid (R = false) := HR2.out
          go_wp2_with (go_at_call 125; refine (HP.out _).mono ?_; rintro x w2 ⟨rfl, rfl⟩)
          go_ret
          exact ⟨by rw [HF.out]; rfl, rfl⟩
        | true =>
          cases loc with
          | true =>
            have HR3 : Hid (R = (decide ((s.extract 0 n).data.toList = [108, 111, 99, 97, 108, 104, 111, 115, 116]) || decide ((s.extract 0 n).data.toList = [49, 50, 55, 46, 48, 46, 48, 46, 49]) || decide ((s.extract 0 n).data.toList = [91, 58, 58, 49, 93]))) := HR2.out
            have q0 := list_eq (s.extract 0 n) [108, 111, 99, 97, 108, 104, 111, 115, 116]
            have q1 := list_eq (s.extract 0 n) [49, 50, 55, 46, 48, 46, 48, 46, 49]
            have q2 := list_eq (s.extract 0 n) [91, 58, 58, 49, 93]
            generalize decide ((s.extract 0 n).data.toList = [108, 111, 99, 97, 108, 104, 111, 115, 116]) = d0 at *
            generalize decide ((s.extract 0 n).data.toList = [49, 50, 55, 46, 48, 46, 48, 46, 49]) = d1 at *
            generalize decide ((s.extract 0 n).data.toList = [91, 58, 58, 49, 93]) = d2 at *
            clear HR2
            cases d0 <;> cases d1 <;> cases d2
            all_goals
              go_wp2_with (go_at_call 125; refine (HP.out _).mono ?_; rintro x w2 ⟨rfl, rfl⟩)
              go_ret
              exact ⟨by rw [HR3.out]; first | rfl | (simp [q0, q1, q2]), rfl⟩
          | false =>
            have HF : Hid (R = hostR (s.extract 0 n).data.toList) := HR2.out
            generalize hostR (s.extract 0 n).data.toList = t at *
            go_wp2_with (first
              | (go_at_call 125; refine (HP.out _).mono ?_; rintro x w2 ⟨rfl, rfl⟩)
              | (go_at_call 126; refine (HH.out _).mono ?_; rintro x w2 ⟨rfl, rfl⟩))
            go_ret
            exact ⟨by rw [HF.out]; rfl, rfl⟩
      · have HR2 : Hid (R = nmB loc s.data.toList) := by
          show _ = _
          rw [HR.out]
          unfold siteR
          rw [last_no HC.out HD.out hcut]
        clear HR HC HD
        have HH := hide (HNm.out s (Nat.le_refl _))
        cases loc with
        | true =>
          have HR3 : Hid (R = (decide (s.data.toList = [108, 111, 99, 97, 108, 104, 111, 115, 116]) || decide (s.data.toList = [49, 50, 55, 46, 48, 46, 48, 46, 49]) || decide (s.data.toList = [91, 58, 58, 49, 93]))) := HR2.out
          have q0 := list_eq s [108, 111, 99, 97, 108, 104, 111, 115, 116]
          have q1 := list_eq s [49, 50, 55, 46, 48, 46, 48, 46, 49]
          have q2 := list_eq s [91, 58, 58, 49, 93]
          generalize decide (s.data.toList = [108, 111, 99, 97, 108, 104, 111, 115, 116]) = d0 at *
          generalize decide (s.data.toList = [49, 50, 55, 46, 48, 46, 48, 46, 49]) = d1 at *
          generalize decide (s.data.toList = [91, 58, 58, 49, 93]) = d2 at *
          clear HR2
          cases d0 <;> cases d1 <;> cases d2
          all_goals
            go_wp2_with fail
            go_ret
            exact ⟨by rw [HR3.out]; first | rfl | (simp [q0, q1, q2]), rfl⟩
        | false =>
          have HF : Hid (R = hostR s.data.toList) := HR2.out
          generalize hostR s.data.toList = t at *
          go_wp2_with (go_at_call 126; refine (HH.out _).mono ?_; rintro x w2 ⟨rfl, rfl⟩)
          go_ret
          exact ⟨by rw [HF.out]; rfl, rfl⟩
end Go.Proofs.YtilhfmhjgfmejaaGreatDoor.tm
