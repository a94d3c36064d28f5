import Derived.Test.YtcpflfpgnbihiaaGreatDoorMRdMedia
import Derived.Test.YtcpflfpgnbihiaaGreatDoorMMedW2
namespace Go.Proofs.YtcpflfpgnbihiaaGreatDoor.fd
open Go.ChangeShapes Go.WideShapes Go.ChangeAt Go.RowKit Go.Proofs.YtcpflfpgnbihiaaGreatDoor.common Go.Proofs.YtcpflfpgnbihiaaGreatDoor.bk
attribute [local go_sem ↓] Go.wp_at_zero Go.wp_at_succ

/-- a place in the text behind what was read, or -1 -/
def Pl (s : ByteArray) (o : Option (List UInt8)) (e : Ending) : Prop :=
  (∃ k : Nat, k ≤ s.size ∧ o = some (s.data.toList.drop k) ∧ e = .returned (.int .i64 k)) ∨ (o = none ∧ e = .returned (.int .i64 (-1)))
theorem drop_at6 (s : ByteArray) (k : Nat) (h : k < s.size) : s.data.toList.drop k = s[k] :: s.data.toList.drop (k + 1) := by
  have hkl : k < s.data.toList.length := by rw [len_list]; exact h
  rw [List.drop_eq_getElem_cons hkl, bk.at_list s k h]
theorem qL_bad {c : UInt8} (r : List UInt8) (h1 : c ≠ 34) (h2 : c ≠ 92) (h3 : Fd.val c = false) : qL (c :: r) = none := by
  have hi : isIn c = false := by unfold isIn; rw [h3]; rfl
  cases r with
  | nil => show (if _ then _ else _) = _; rw [if_neg h1]
  | cons d t => show (if _ then _ else _) = _; rw [if_neg h1, if_neg h2, if_neg (by rw [hi]; decide)]
theorem isIn_of {c : UInt8} (h1 : c ≠ 34) (h2 : c ≠ 92) (h3 : Fd.val c = true) : isIn c = true := by
  unfold isIn; rw [h3, decide_eq_true h1, decide_eq_true h2]; rfl
theorem qL_back (d : UInt8) (r : List UInt8) (h : Fd.val d = true) : qL (92 :: d :: r) = qL r := by
  show (if _ then _ else _) = _; rw [if_neg (by decide), if_pos rfl, if_pos h]
theorem qL_backN (d : UInt8) (r : List UInt8) (h : Fd.val d = false) : qL (92 :: d :: r) = none := by
  show (if _ then _ else _) = _; rw [if_neg (by decide), if_pos rfl, if_neg (by rw [h]; decide)]

set_option maxRecDepth 100000 in
set_option maxHeartbeats 3200000 in
theorem refQuoted_any (s : ByteArray) (a : Nat) (w : World) (ha : a < s.size) (hs : s.size ≤ 4611686018427387000) :
    Calls Tryz.prog 72 #[.string s, .int .i64 a] w fun e w' => Pl s (qL (s.data.toList.drop (a + 1))) e ∧ w' = w := by
  have HLL := hide (len_list s)
  obtain ⟨O, hO⟩ : ∃ O, qL (s.data.toList.drop (a + 1)) = O := ⟨_, rfl⟩
  rw [hO]
  have HO := hide hO
  clear hO
  go_enter Tryz.func72, Tryz.ntmps72
  go_wp2_with fail
  go_loopw [5] (fun i wr => ∃ k : Nat, k ≤ s.size ∧ i = .int .i64 k ∧ qL (s.data.toList.drop k) = O ∧ wr = w) (fun i _ => s.size - (intOf i).toNat)
  case atStart => exact ⟨a + 1, by omega, by go_num, HO.out, rfl⟩
  case round =>
    obtain ⟨k, hk, rfl, hq, rfl⟩ := hrel
    by_cases hlt : k < s.size
    · have hki : (k : Int) < (s.size : Int) := by omega
      rw [drop_at6 s k hlt] at hq
      by_cases h34 : s[k] = 34
      · rw [h34, qL_quote] at hq
        have HQ := hide hq
        have h1 : (s[k].toNat : Int) = 34 := by rw [h34]; rfl
        clear hq h34
        go_wp2_with fail
        go_ret
        exact ⟨Or.inl ⟨k + 1, by omega, HQ.out.symm, by simp⟩, rfl⟩
      · have h1 : ¬ (s[k].toNat : Int) = 34 := fun e => h34 (UInt8.toNat_inj.1 (by show s[k].toNat = 34; omega))
        have h1b : ((s[k].toNat : Int) == 34) = false := beq_false_of_ne h1
        by_cases h92 : s[k] = 92
        · have h2 : (s[k].toNat : Int) = 92 := by rw [h92]; rfl
          rw [h92] at hq
          by_cases hl2 : k + 1 < s.size
          · have hl2i : ¬ (s.size : Int) ≤ (k : Int) + 1 := by omega
            have hl2j : (k : Int) + 1 < (s.size : Int) := by omega
            rw [drop_at6 s (k + 1) hl2] at hq
            have HV := hide (fun W => valueByte_any s[k + 1] W)
            cases hv : Fd.val s[k + 1] with
            | true =>
              rw [qL_back _ _ hv] at hq
              rw [hv] at HV
              have HQ := hide hq
              clear hq hv h34 h92
              go_wp2_with (go_at_call 94; refine (HV.out _).mono ?_; rintro x w2 ⟨rfl, rfl⟩)
              go_roundw
              case rel => exact ⟨k + 2, by omega, by go_num, HQ.out, by trivial⟩
              case measure => simp [intOf]; omega
            | false =>
              rw [qL_backN _ _ hv] at hq
              rw [hv] at HV
              have HQ := hide hq
              clear hq hv h34 h92
              go_wp2_with (go_at_call 94; refine (HV.out _).mono ?_; rintro x w2 ⟨rfl, rfl⟩)
              go_ret
              exact ⟨Or.inr ⟨HQ.out.symm, rfl⟩, rfl⟩
          · have hl2i : (s.size : Int) ≤ (k : Int) + 1 := by omega
            rw [List.drop_of_length_le (by rw [HLL.out]; omega)] at hq
            have HQ := hide (show none = O from hq)
            clear hq h34 h92
            go_wp2_with fail
            go_ret
            exact ⟨Or.inr ⟨HQ.out.symm, rfl⟩, rfl⟩
        · have h2 : ¬ (s[k].toNat : Int) = 92 := fun e => h92 (UInt8.toNat_inj.1 (by show s[k].toNat = 92; omega))
          have h2b : ((s[k].toNat : Int) == 92) = false := beq_false_of_ne h2
          have hkn : ¬ (s.size : Int) ≤ (k : Int) := by omega
          have HV := hide (fun W => valueByte_any s[k] W)
          cases hv : Fd.val s[k] with
          | true =>
            rw [qL_in _ (isIn_of h34 h92 hv)] at hq
            rw [hv] at HV
            have HQ := hide hq
            clear hq hv h34 h92
            go_wp2_with (go_at_call 94; refine (HV.out _).mono ?_; rintro x w2 ⟨rfl, rfl⟩)
            go_roundw
            case rel => exact ⟨k + 1, by omega, by go_num, HQ.out, by trivial⟩
            case measure => simp [intOf]; omega
          | false =>
            rw [qL_bad _ h34 h92 hv] at hq
            rw [hv] at HV
            have HQ := hide hq
            clear hq hv h34 h92
            go_wp2_with (go_at_call 94; refine (HV.out _).mono ?_; rintro x w2 ⟨rfl, rfl⟩)
            go_ret
            exact ⟨Or.inr ⟨HQ.out.symm, rfl⟩, rfl⟩
    · have hkn : ¬ (k : Int) < (s.size : Int) := by omega
      rw [List.drop_of_length_le (by rw [HLL.out]; omega)] at hq
      have HQ := hide (show none = O from hq)
      clear hq
      go_wp2_with fail
      go_ret
      exact ⟨Or.inr ⟨HQ.out.symm, rfl⟩, rfl⟩

/-- a token that begins at a place -/
theorem tokL_at {s : ByteArray} {a k : Nat} (hak : a ≤ k) (hk : k ≤ s.size) (h1 : (s.data.toList.drop a).takeWhile Fd.tok = (s.data.toList.drop a).take (k - a)) (h2 : (s.data.toList.drop a).dropWhile Fd.tok = s.data.toList.drop k) :
    (k = a → tokL (s.data.toList.drop a) = none) ∧ (k ≠ a → tokL (s.data.toList.drop a) = some (s.data.toList.drop k)) := by
  unfold tokL
  rw [h1, h2]
  constructor
  · intro h
    rw [h, Nat.sub_self, List.take_zero, if_pos rfl]
  · intro h
    rw [if_neg]
    intro e
    have := congrArg List.length e
    rw [List.length_take, List.length_drop, len_list, List.length_nil] at this
    omega

set_option maxRecDepth 100000 in
set_option maxHeartbeats 3200000 in
theorem refParam_any (s : ByteArray) (a : Nat) (w : World) (ha : a ≤ s.size) (hs : s.size ≤ 4611686018427387000) :
    Calls Tryz.prog 54 #[.string s, .int .i64 a] w fun e w' => Pl s (parL (s.data.toList.drop a)) e ∧ w' = w := by
  have HLL := hide (len_list s)
  obtain ⟨O, hO⟩ : ∃ O, parL (s.data.toList.drop a) = O := ⟨_, rfl⟩
  rw [hO]
  have HO : Hid ((tokL (s.data.toList.drop a)).bind eqL = O) := hO
  clear hO
  go_enter Tryz.func54, Tryz.ntmps54
  go_wp2_with fail
  refine (refTok6_any s a w ha (by omega)).mono ?_
  rintro x w1 ⟨⟨k, hak, hk, rfl, ht1, ht2⟩, rfl⟩
  obtain ⟨hz, hnz⟩ := tokL_at hak hk ht1 ht2
  clear ht1 ht2
  by_cases hka : k = a
  · rw [hz hka] at HO
    have HN : Hid (none = O) := HO.out
    have hkai : (k : Int) = (a : Int) := by omega
    clear hz hnz HO
    go_wp2_with fail
    go_ret
    exact ⟨Or.inr ⟨HN.out.symm, rfl⟩, rfl⟩
  · rw [hnz hka] at HO
    have HO1 : Hid (eqL (s.data.toList.drop k) = O) := HO.out
    have hkai : ¬ (k : Int) = (a : Int) := by omega
    have hkab : ((k : Int) == (a : Int)) = false := beq_false_of_ne hkai
    clear hz hnz HO
    by_cases hlt : k < s.size
    · have hki : ¬ (s.size : Int) ≤ (k : Int) := by omega
      have hkj : (k : Int) < (s.size : Int) := by omega
      have hkd : decide (s.size ≤ k) = false := decide_eq_false (by omega)
      have hkn : ¬ s.size ≤ k := by omega
      rw [drop_at6 s k hlt] at HO1
      by_cases h61 : s[k] = 61
      · have h1 : (s[k].toNat : Int) = 61 := by rw [h61]; rfl
        rw [h61, eqL_yes] at HO1
        clear h61
        by_cases hl2 : k + 1 < s.size
        · have hl2i : (k : Int) + 1 < (s.size : Int) := by omega
          rw [drop_at6 s (k + 1) hl2] at HO1
          by_cases h34 : s[k + 1] = 34
          · have h2 : (s[k + 1].toNat : Int) = 34 := by rw [h34]; rfl
            rw [h34, valL_yes] at HO1
            have HQ := hide (refQuoted_any s (k + 1) w1 hl2 hs)
            rw [HO1.out] at HQ
            clear h34
            go_wp2_with fail
            refine HQ.out.mono ?_
            rintro x w2 ⟨⟨j, hj, hj2, rfl⟩ | ⟨hj2, rfl⟩, rfl⟩
            · go_wp2_with fail
              go_ret
              exact ⟨Or.inl ⟨j, hj, hj2, rfl⟩, rfl⟩
            · go_wp2_with fail
              go_ret
              exact ⟨Or.inr ⟨hj2, rfl⟩, rfl⟩
          · have h2 : ¬ (s[k + 1].toNat : Int) = 34 := fun e => h34 (UInt8.toNat_inj.1 (by show s[k + 1].toNat = 34; omega))
            have h2b : ((s[k + 1].toNat : Int) == 34) = false := beq_false_of_ne h2
            rw [valL_no (fun r e => h34 (by injection e)), ← drop_at6 s (k + 1) hl2] at HO1
            clear h34
            go_wp2_with fail
            refine (refTok6_any s (k + 1) w1 (by omega) (by omega)).mono ?_
            rintro x w2 ⟨⟨j, hj0, hj, rfl, ht1, ht2⟩, rfl⟩
            obtain ⟨hz, hnz⟩ := tokL_at hj0 hj ht1 ht2
            clear ht1 ht2
            by_cases hjk : j = k + 1
            · rw [hz hjk] at HO1
              have HN : Hid (none = O) := HO1.out
              have hji : (j : Int) = (k : Int) + 1 := by omega
              clear hz hnz
              go_wp2_with fail
              go_ret
              exact ⟨Or.inr ⟨HN.out.symm, rfl⟩, rfl⟩
            · rw [hnz hjk] at HO1
              have HN : Hid (some (s.data.toList.drop j) = O) := HO1.out
              have hji : ¬ (j : Int) = (k : Int) + 1 := by omega
              clear hz hnz
              go_wp2_with fail
              go_ret
              exact ⟨Or.inl ⟨j, hj, HN.out.symm, rfl⟩, rfl⟩
        · have hl2i : ¬ (k : Int) + 1 < (s.size : Int) := by omega
          rw [List.drop_of_length_le (by rw [HLL.out]; omega)] at HO1
          have HN : Hid (none = O) := HO1.out
          go_wp2_with fail
          refine (refTok6_any s (k + 1) w1 (by omega) (by omega)).mono ?_
          rintro x w2 ⟨⟨j, hj0, hj, rfl, _, _⟩, rfl⟩
          have hji : (j : Int) = (k : Int) + 1 := by omega
          go_wp2_with fail
          go_ret
          exact ⟨Or.inr ⟨HN.out.symm, rfl⟩, rfl⟩
      · have h1 : ¬ (s[k].toNat : Int) = 61 := fun e => h61 (UInt8.toNat_inj.1 (by show s[k].toNat = 61; omega))
        have h1b : ((s[k].toNat : Int) == 61) = false := beq_false_of_ne h1
        rw [eqL_no (fun r e => h61 (by injection e))] at HO1
        clear h61
        go_wp2_with fail
        go_ret
        exact ⟨Or.inr ⟨HO1.out.symm, rfl⟩, rfl⟩
    · have hki : (s.size : Int) ≤ (k : Int) := by omega
      rw [List.drop_of_length_le (by rw [HLL.out]; omega)] at HO1
      have HN : Hid (none = O) := HO1.out
      go_wp2_with fail
      go_ret
      exact ⟨Or.inr ⟨HN.out.symm, rfl⟩, rfl⟩

end Go.Proofs.YtcpflfpgnbihiaaGreatDoor.fd
