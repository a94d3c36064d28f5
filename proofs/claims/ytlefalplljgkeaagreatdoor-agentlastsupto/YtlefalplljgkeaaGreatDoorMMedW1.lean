import Derived.Test.YtlefalplljgkeaaGreatDoorMRdMedia
namespace Go.Proofs.YtlefalplljgkeaaGreatDoor.fd
open Go.ChangeShapes Go.WideShapes Go.ChangeAt Go.RowKit Go.Proofs.YtlefalplljgkeaaGreatDoor.common Go.Proofs.YtlefalplljgkeaaGreatDoor.bk
attribute [local go_sem ↓] Go.wp_at_zero Go.wp_at_succ

/-- a reader's step: what is left, or a refusal -/
def Tk (o : Option (List UInt8)) (b : Nat) (s : ByteArray) (w : World) (e : Ending) (w' : World) : Prop :=
  Mv b w w' ∧ ((∃ r, o = some r ∧ e = .returned (.bool true) ∧ At w' b s r) ∨ (o = none ∧ e = .returned (.bool false)))

theorem ne_nil_med {l : List UInt8} (h : l ≠ []) : ((⟨l.toArray⟩ : ByteArray).toList == []) = false ∧ (⟨l.toArray⟩ : ByteArray).toList.isEmpty = false := by
  have e : (⟨l.toArray⟩ : ByteArray).toList = l := by rw [ByteArray.toList_eq]
  rw [e]
  exact ⟨beq_false_of_ne h, by cases l with | nil => exact absurd rfl h | cons _ _ => rfl⟩
theorem enters_valM : ∀ args w, (callFunc 143 args).run Tryz.prog w = .ok (.enter 143 args) w := enters_of Tryz.func143 (by kernel_rfl) rfl
theorem enters_in : ∀ args w, (callFunc 122 args).run Tryz.prog w = .ok (.enter 122 args) w := enters_of Tryz.func122 (by kernel_rfl) rfl
theorem enters_white : ∀ args w, (callFunc 73 args).run Tryz.prog w = .ok (.enter 73 args) w := enters_of Tryz.func73 (by kernel_rfl) rfl

set_option maxHeartbeats 800000 in
theorem isWhite_any (c : UInt8) (w : World) : Calls Tryz.prog 73 #[B c] w fun e w' => e = .returned (.bool (Fd.white c)) ∧ w' = w := by
  rcases white_cases c with ⟨hp, h | h⟩ | ⟨hp, h⟩
  · rw [hp]
    have h1 : (c.toNat : Int) = 32 := by omega
    clear hp h
    go_enter Tryz.func73, Tryz.ntmps73
    go_wp2
    go_ret
    exact ⟨rfl, rfl⟩
  · rw [hp]
    have h1 : (c.toNat : Int) = 9 := by omega
    clear hp h
    go_enter Tryz.func73, Tryz.ntmps73
    go_wp2
    go_ret
    exact ⟨rfl, rfl⟩
  · rw [hp]
    have h1 : ¬ (c.toNat : Int) = 32 := by omega
    have h2 : ¬ (c.toNat : Int) = 9 := by omega
    have h3 : ((c.toNat : Int) == 32) = false := beq_false_of_ne h1
    have h4 : ((c.toNat : Int) == 9) = false := beq_false_of_ne h2
    clear hp h
    go_enter Tryz.func73, Tryz.ntmps73
    go_wp2
    go_ret
    exact ⟨by simp, rfl⟩

set_option maxHeartbeats 800000 in
theorem isInner_any (c : UInt8) (w : World) : Calls Tryz.prog 122 #[B c] w fun e w' => e = .returned (.bool (isIn c)) ∧ w' = w := by
  have HV := hide (fun W => isValueByte_any c W)
  have HI : Hid (isIn c = (Fd.val c && decide (c ≠ 34) && decide (c ≠ 92))) := rfl
  have e1 : (((c.toNat : Int) == 34)) = !decide (c ≠ 34) := by
    by_cases h : c = 34
    · subst h; rfl
    · rw [decide_eq_true h]; exact beq_false_of_ne (fun e => h (UInt8.toNat_inj.1 (by show c.toNat = 34; omega)))
  have e2 : (((c.toNat : Int) == 92)) = !decide (c ≠ 92) := by
    by_cases h : c = 92
    · subst h; rfl
    · rw [decide_eq_true h]; exact beq_false_of_ne (fun e => h (UInt8.toNat_inj.1 (by show c.toNat = 92; omega)))
  rw [HI.out]
  clear HI
  generalize decide (c ≠ 34) = t1 at *
  generalize decide (c ≠ 92) = t2 at *
  generalize Fd.val c = t0 at *
  cases t0
  all_goals
    go_enter Tryz.func122, Tryz.ntmps122
    go_wp2_with (go_at_call 143; refine (HV.out _).mono ?_; rintro x w2 ⟨rfl, rfl⟩)
  all_goals
    go_ret
    refine ⟨?_, rfl⟩
    simp_all [bne]

set_option maxRecDepth 100000 in
set_option maxHeartbeats 1600000 in
theorem token_m (b : Nat) (s : ByteArray) (l : List UInt8) (w : World) (h : At w b s l) (hs : s.size ≤ 4611686018427387904) :
    Calls Tryz.prog 69 #[ptr b] w fun e w' => Tk (tokL l) b s w e w' := by
  have hmf : ∀ (fn : Fn) (first cap : Array Value) (w : World), (Instr.makeFunc fn first cap).run Tryz.prog w = .ok (.func fn first cap) w := fun _ _ _ _ => rfl
  have HT : Hid (∀ W, At W b s l → Calls Tryz.prog 72 #[ptr b, .func (.func 50) #[.pointer (some ⟨b, 2, none⟩)] #[]] W fun e w' => e = .returned (S (l.takeWhile Fd.tok)) ∧ At w' b s (l.dropWhile Fd.tok) ∧ Mv b W w') :=
    fun W hW => takeWhile_m b s l _ _ Fd.tok W hW hs enters_tok (fun X c hX => isTokenByte_any b 2 c X hX)
  have HA := hide h
  clear h
  by_cases ht : l.takeWhile Fd.tok = []
  · have HO : Hid (tokL l = none) := by show _ = _; unfold tokL; rw [if_pos ht]
    rw [ht] at HT
    rw [HO.out]
    clear ht
    go_enter Tryz.func69, Tryz.ntmps69
    go_wp2_with fail
    go_region_with (go_at_call 72; refine (HT.out _ HA.out.drew).mono ?_; rintro x w2 ⟨rfl, ha, hm⟩)
    all_goals
      go_wp2_with fail
      go_ret
      exact ⟨((Mv.refl _ _).drew).trans hm, Or.inr ⟨rfl, rfl⟩⟩
  · have HO : Hid (tokL l = some (l.dropWhile Fd.tok)) := by show _ = _; unfold tokL; rw [if_neg ht]
    obtain ⟨hne1, hne2⟩ := ne_nil_med ht
    rw [HO.out]
    generalize l.takeWhile Fd.tok = T at *
    have hne3 : T.isEmpty = false := by cases T with | nil => exact absurd rfl ht | cons _ _ => rfl
    have hne4 : (T == []) = false := beq_false_of_ne ht
    go_enter Tryz.func69, Tryz.ntmps69
    go_wp2_with fail
    go_region_with (go_at_call 72; refine (HT.out _ HA.out.drew).mono ?_; rintro x w2 ⟨rfl, ha, hm⟩)
    all_goals
      go_wp2_with fail
      go_ret
      exact ⟨((Mv.refl _ _).drew).trans hm, Or.inl ⟨_, rfl, rfl, ha⟩⟩

theorem tk_cases (c : UInt8) (l : List UInt8) : (∃ r, l = c :: r ∧ tk c l = (true, r)) ∨ ((∀ r, l ≠ c :: r) ∧ tk c l = (false, l)) := by
  cases l with
  | nil => exact Or.inr ⟨fun r h => (by cases h), rfl⟩
  | cons x r =>
    by_cases h : x = c
    · exact Or.inl ⟨r, by rw [h], tk_yes r h⟩
    · exact Or.inr ⟨fun r' e => h (by injection e), tk_no r h⟩
theorem tkP_cases (p : UInt8 → Bool) (l : List UInt8) : (∃ c r, l = c :: r ∧ p c = true ∧ tkP p l = (true, r)) ∨ (hd p l = false ∧ tkP p l = (false, l)) := by
  cases l with
  | nil => exact Or.inr ⟨rfl, rfl⟩
  | cons x r =>
    cases h : p x with
    | true => exact Or.inl ⟨x, r, rfl, h, by show (if p x = true then _ else _) = _; rw [h]; rfl⟩
    | false => exact Or.inr ⟨h, by show (if p x = true then _ else _) = _; rw [h]; rfl⟩
/-- what stands behind a backslash and its byte -/
def escL : List UInt8 → Option (List UInt8)
  | c :: d :: r => if c = 92 ∧ Fd.val d = true then some r else none
  | _ => none

set_option maxRecDepth 100000 in
set_option maxHeartbeats 1600000 in
theorem escaped_any (b : Nat) (s : ByteArray) (l : List UInt8) (w : World) (h : At w b s l) (hs : s.size ≤ 4611686018427387904) :
    Calls Tryz.prog 123 #[ptr b] w fun e w' => Tk (escL l) b s w e w' := by
  have HK := hide (takeL_any b s l 92 w h hs)
  rcases tk_cases 92 l with ⟨r, rfl, ht⟩ | ⟨hn, ht⟩
  · rw [ht] at HK
    rcases tkP_cases Fd.val r with ⟨d, r2, rfl, hd1, hp⟩ | ⟨hd1, hp⟩
    · have HO : Hid (escL (92 :: d :: r2) = some r2) := by show (if _ then _ else _) = _; rw [if_pos ⟨rfl, hd1⟩]
      rw [HO.out]
      have HP := hide (fun W (hW : At W b s (d :: r2)) => takeOne_p b s (d :: r2) _ Fd.val W hW hs enters_valM (fun X c => isValueByte_any c X))
      rw [hp] at HP
      clear ht hp hd1 h
      go_enter Tryz.func123, Tryz.ntmps123
      go_wp2_with fail
      refine HK.out.mono ?_
      rintro x w1 ⟨rfl, ha1, hm1⟩
      go_wp2_with fail
      refine (HP.out w1 ha1).mono ?_
      rintro x w2 ⟨rfl, ha2, hm2⟩
      go_wp2_with fail
      go_ret
      exact ⟨hm1.trans hm2, Or.inl ⟨_, rfl, rfl, ha2⟩⟩
    · have HO : Hid (escL (92 :: r) = none) := by
        show _ = _
        cases r with
        | nil => rfl
        | cons d t => show (if _ then _ else _) = _; rw [if_neg (fun h => by have h2 : Fd.val d = false := hd1; rw [h2] at h; cases h.2)]
      rw [HO.out]
      have HP := hide (fun W (hW : At W b s r) => takeOne_p b s r _ Fd.val W hW hs enters_valM (fun X c => isValueByte_any c X))
      rw [hp] at HP
      clear ht hp hd1 h
      go_enter Tryz.func123, Tryz.ntmps123
      go_wp2_with fail
      refine HK.out.mono ?_
      rintro x w1 ⟨rfl, ha1, hm1⟩
      go_wp2_with fail
      refine (HP.out w1 ha1).mono ?_
      rintro x w2 ⟨rfl, ha2, hm2⟩
      go_wp2_with fail
      go_ret
      exact ⟨hm1.trans hm2, Or.inr ⟨rfl, rfl⟩⟩
  · rw [ht] at HK
    have HO : Hid (escL l = none) := by
      show _ = _
      cases l with
      | nil => rfl
      | cons c t =>
        cases t with
        | nil => rfl
        | cons d r => show (if _ then _ else _) = _; rw [if_neg (fun h => hn (d :: r) (by rw [h.1]))]
    rw [HO.out]
    clear ht h hn
    go_enter Tryz.func123, Tryz.ntmps123
    go_wp2_with fail
    refine HK.out.mono ?_
    rintro x w1 ⟨rfl, ha1, hm1⟩
    go_wp2_with fail
    go_ret
    exact ⟨hm1, Or.inr ⟨rfl, rfl⟩⟩

theorem escL_len {l r : List UInt8} (h : escL l = some r) : r.length < l.length := by
  match l, h with
  | c :: d :: t, h =>
    simp only [escL] at h
    split at h
    · injection h with h; subst h; simp only [List.length_cons]; omega
    · cases h
/-- one step within a quoted text -/
theorem qL_quote (r : List UInt8) : qL (34 :: r) = some r := by cases r <;> rfl
theorem val_in {c : UInt8} (h : isIn c = true) : c ≠ 34 ∧ c ≠ 92 := by
  unfold isIn at h
  rw [Bool.and_eq_true, Bool.and_eq_true] at h
  exact ⟨of_decide_eq_true h.1.2, of_decide_eq_true h.2⟩
theorem qL_in {c : UInt8} (r : List UInt8) (h : isIn c = true) : qL (c :: r) = qL r := by
  obtain ⟨h1, h2⟩ := val_in h
  cases r with
  | nil => show (if _ then _ else _) = _; rw [if_neg h1]; rfl
  | cons d t => show (if _ then _ else _) = _; rw [if_neg h1, if_neg h2, if_pos h]
theorem qL_esc {l r : List UInt8} (h : escL l = some r) : qL l = qL r := by
  match l, h with
  | c :: d :: t, h =>
    simp only [escL] at h
    split at h
    · rename_i hh
      injection h with h; subst h
      rw [hh.1]
      show (if _ then _ else _) = _
      rw [if_neg (by decide), if_pos rfl, if_pos hh.2]
    · cases h
theorem qL_none {l : List UInt8} (h1 : ∀ r, l ≠ 34 :: r) (h2 : hd isIn l = false) (h3 : escL l = none) : qL l = none := by
  match l with
  | [] => rfl
  | [c] => show (if _ then _ else _) = _; rw [if_neg (fun e => h1 [] (by rw [e]))]
  | c :: d :: t =>
    have hc : c ≠ 34 := fun e => h1 (d :: t) (by rw [e])
    have hi : isIn c = false := h2
    simp only [escL] at h3
    show (if _ then _ else _) = _
    rw [if_neg hc]
    by_cases h92 : c = 92
    · rw [if_pos h92]
      split at h3
      · cases h3
      · rename_i hh
        rw [if_neg (fun hv => hh ⟨h92, hv⟩)]
    · rw [if_neg h92, if_neg (by rw [hi]; decide)]

set_option maxRecDepth 100000 in
set_option maxHeartbeats 1600000 in
theorem quoted_any (b : Nat) (s : ByteArray) (l0 : List UInt8) (w : World) (h : At w b s l0) (hs : s.size ≤ 4611686018427387904) :
    Calls Tryz.prog 99 #[ptr b] w fun e w' => Tk (qL l0) b s w e w' := by
  have HA := hide h
  clear h
  go_enter Tryz.func99, Tryz.ntmps99
  go_wp2_with fail
  go_loopw [2] (fun _ wr => ∃ l, At wr b s l ∧ qL l = qL l0 ∧ Mv b w wr) (fun _ wr => s.size - place wr b)
  case atStart => exact ⟨l0, HA.out, rfl, Mv.refl _ _⟩
  case round =>
    obtain ⟨l, ha, heq, hmv⟩ := hrel
    have hll := ha.len
    have HP0 := hide ha.place
    have HAL := hide ha
    have HEQ := hide heq
    have HMV := hide hmv
    have HK := hide (takeL_any b s l 34 _ ha hs)
    clear ha heq hmv
    rcases tk_cases 34 l with ⟨r, rfl, ht⟩ | ⟨hn, ht⟩
    · rw [ht] at HK
      rw [qL_quote] at HEQ
      clear ht
      go_wp2_with fail
      refine HK.out.mono ?_
      rintro x w1 ⟨rfl, ha1, hm1⟩
      go_wp2_with fail
      go_ret
      exact ⟨HMV.out.trans hm1, Or.inl ⟨r, HEQ.out.symm, rfl, ha1⟩⟩
    · rw [ht] at HK
      rcases tkP_cases isIn l with ⟨c, r, rfl, hc, hp⟩ | ⟨hd1, hp⟩
      · have HP := hide (fun W (hW : At W b s (c :: r)) => takeOne_p b s (c :: r) _ isIn W hW hs enters_in (fun X c => isInner_any c X))
        rw [hp] at HP
        rw [qL_in r hc] at HEQ
        rw [List.length_cons] at hll HP0
        clear ht hn hp hc
        go_wp2_with fail
        refine HK.out.mono ?_
        rintro x w1 ⟨rfl, ha1, hm1⟩
        go_wp2_with fail
        refine (HP.out w1 ha1).mono ?_
        rintro x w2 ⟨rfl, ha2, hm2⟩
        have HA2 := hide ha2
        have HM2 := hide ((HMV.out.trans hm1).trans hm2)
        have HP2 := hide ha2.place
        clear ha1 hm1 ha2 hm2
        go_wp2_with fail
        go_roundw
        case rel => exact ⟨r, HA2.out, HEQ.out, HM2.out⟩
        case measure =>
          have h0 := HP0.out
          have h2 := HP2.out
          rw [h0, h2]
          omega
      · have HP := hide (fun W (hW : At W b s l) => takeOne_p b s l _ isIn W hW hs enters_in (fun X c => isInner_any c X))
        have HX := hide (fun W (hW : At W b s l) => escaped_any b s l W hW hs)
        rw [hp] at HP
        have HN : Hid (escL l = none → qL l = none) := fun h => qL_none hn hd1 h
        have HY : Hid (∀ r, escL l = some r → qL l = qL r ∧ r.length < l.length) := fun r h => ⟨qL_esc h, escL_len h⟩
        clear ht hn hp hd1
        go_wp2_with fail
        refine HK.out.mono ?_
        rintro x w1 ⟨rfl, ha1, hm1⟩
        go_wp2_with fail
        refine (HP.out w1 ha1).mono ?_
        rintro x w2 ⟨rfl, ha2, hm2⟩
        have HA2 := hide ha2
        have HM2 := hide ((HMV.out.trans hm1).trans hm2)
        clear ha1 hm1 ha2 hm2
        go_wp2_with fail
        refine (HX.out w2 HA2.out).mono ?_
        rintro x w3 ⟨hm3, ⟨r, hr, rfl, ha3⟩ | ⟨hr, rfl⟩⟩
        · have HA3 := hide ha3
          have HM3 := hide (HM2.out.trans hm3)
          have HP3 := hide ha3.place
          have HYR := hide (HY.out r hr)
          clear ha3 hm3 hr
          go_wp2_with fail
          go_roundw
          case rel => exact ⟨r, HA3.out, HYR.out.1.symm.trans HEQ.out, HM3.out⟩
          case measure =>
            have h0 := HP0.out
            have h2 := HP3.out
            have h4 := HYR.out.2
            rw [h0, h2]
            omega
        · have HM3 := hide (HM2.out.trans hm3)
          have HNN : Hid (qL l0 = none) := HEQ.out.symm.trans (HN.out hr)
          clear hm3 hr
          go_wp2_with fail
          go_ret
          exact ⟨HM3.out, Or.inr ⟨HNN.out, rfl⟩⟩

end Go.Proofs.YtlefalplljgkeaaGreatDoor.fd
