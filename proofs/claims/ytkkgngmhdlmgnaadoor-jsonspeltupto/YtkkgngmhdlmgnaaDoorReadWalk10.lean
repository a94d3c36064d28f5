import Derived.Test.YtkkgngmhdlmgnaaDoorReadWalk9
namespace Go.Proofs.YtkkgngmhdlmgnaaDoor.jw
open Go.ChangeShapes Go.WideShapes Go.ChangeAt Go.RowKit Go.Proofs.YtkkgngmhdlmgnaaDoor.common
attribute [local go_sem ↓] Go.wp_at_zero Go.wp_at_succ

theorem Mems.kp {w w' : World} {b rb : Nat} {mv : Value} {ms : List Mem} (h : Mems w b mv ms) (hk : Kp rb w w') (hrb : rb < b) : Mems w' b mv ms := own_kp h hk hrb

/-- what is behind a member -/
def Behind (s : ByteArray) (ms : List Mem) (l : List UInt8) : Option (List Mem × List UInt8) :=
  match Json.part 44 l with
  | some r => Json.members (s.size + 1) ms r
  | none => some (ms, l)
theorem members_behind (s : ByteArray) (ms : List Mem) (l : List UInt8) (hl : l.length ≤ s.size) : Json.members (s.size + 1) ms l = match Json.member l with
    | none => none
    | some (m, r) => Behind s (ms ++ [m]) r := by
  rw [Json.members]
  cases h : Json.member l with
  | none => rfl
  | some x =>
    obtain ⟨m, r⟩ := x
    simp only [Behind]
    cases hp : Json.part 44 r with
    | none => rfl
    | some r1 =>
      simp only
      have h1 := Json.member_lt h
      have h2 := Json.part_lt hp
      exact Json.members_fuel _ _ _ _ (by omega) (by omega)
/-- from behind the members to the end -/
def Closed (O : Option (List Mem × List UInt8)) : Option (List Mem) :=
  match O with
  | none => none
  | some (ms, r) => match Json.part 125 r with
    | none => none
    | some r2 => if r2 = [] then some ms else none
theorem object_closed (s : ByteArray) (l : List UInt8) (hl : l.length ≤ s.size) : Json.object l = match Json.part 123 (Json.blanks l) with
    | none => none
    | some r => match Json.part 125 r with
      | some r1 => if r1 = [] then some [] else none
      | none => Closed (Json.members (s.size + 1) [] r) := by
  unfold Json.object
  cases h : Json.part 123 (Json.blanks l) with
  | none => rfl
  | some r =>
    simp only
    cases hp : Json.part 125 r with
    | some r1 => rfl
    | none =>
      simp only
      have h1 := Json.part_lt h
      have h2 := Json.blanks_le l
      rw [Json.members_fuel (r.length + 1) (s.size + 1) [] r (by omega) (by omega)]
      cases Json.members (s.size + 1) [] r with
      | none => rfl
      | some x => rfl

def OOpt (rb b : Nat) (s : ByteArray) (ea : Addr) (w : World) (o : Option (List Mem)) (e : Ending) (w' : World) : Prop :=
  Below rb w w' ∧ ((∃ ms a' mv, o = some ms ∧ e = .returned (.tuple #[]) ∧ Rd w' rb s a' mv ms.length ∧ Mems w' b mv ms) ∨ (o = none ∧ e = PX ea))

set_option maxRecDepth 100000 in
set_option maxHeartbeats 6400000 in
theorem objectR_any (rb b : Nat) (s : ByteArray) (ea : Addr) (w : World) (hs : s.size ≤ reachBytes) (hrb : rb < b) (hb : b ≤ w.heap.size) (hr : Rd w rb s 0 (.slice none 0 0) 0) (he : Env w rb ea) :
    Calls Tryd.prog 18 #[ptr rb] w fun e w' => OOpt rb b s ea w (Json.object s.data.toList) e w' := by
  have hs63 : s.size < 9223372036854775800 := by unfold reachBytes at hs; omega
  obtain ⟨o, ho⟩ : ∃ o, Json.object s.data.toList = o := ⟨_, rfl⟩
  rw [ho]
  rw [object_closed s _ (by rw [len_list]; exact Nat.le_refl _)] at ho
  have HR := hide hr
  have HE := hide he
  have HLT := hide (Nat.le_of_lt hr.lt)
  have HM0 : Hid (Mems w b (.slice none 0 0) []) := World.ownsRow_nil _ _ _ _
  clear hr he
  go_enter Tryd.func18, Tryd.ntmps18
  go_wp2_with fail
  refine (skipBlanks_any rb s 0 (.slice none 0 0) 0 w (Nat.zero_le _) hs63 HR.out).mono ?_
  rintro e w1 ⟨a1, ha1, hd1, rfl, hk1, hr1⟩
  rw [List.drop_zero] at hd1
  have HK1 := hide hk1
  have HR1 := hide hr1
  have HE1 := hide (HE.out.kp HR.out hk1)
  rw [← hd1] at ho
  have HO := hide ho
  clear hk1 hr1 hd1 ho
  go_wp2_with fail
  refine (part_any rb s a1 (.slice none 0 0) 0 ea w1 123 123 rfl ha1 hs63 HR1.out HE1.out).mono ?_
  rintro e w2 (⟨v, r, a2, ho2, ha2, hd2, rfl, hk2, hr2⟩ | ⟨ho2, rfl, hk2⟩)
  · obtain ⟨r', hq2, he2⟩ := Option.map_eq_some_iff.1 ho2
    simp only [Prod.mk.injEq] at he2
    obtain ⟨rfl, rfl⟩ := he2
    have ho3 := HO.out
    rw [hq2] at ho3
    simp only at ho3
    rw [← hd2] at ho3
    have HO3 := hide ho3
    have HK2 := hide (HK1.out.trans hk2)
    have HR2 := hide hr2
    have HE2 := hide (HE1.out.kp HR1.out hk2)
    have HM2 := hide (HM0.out.kp HK2.out hrb)
    clear ho2 hq2 ho3 hk2 hr2 hd2 HO
    by_cases h : a2 < s.size
    · by_cases hc : s[a2] = 125
      · have HC := hide (partIf_yes rb s a2 (.slice none 0 0) 0 w2 125 125 rfl h hc hs63 HR2.out)
        clear hc
        go_wp2_with fail
        refine HC.out.mono ?_
        rintro e w3 ⟨a3, ha3, hp3, rfl, hk3, hr3⟩
        have ho4 := HO3.out
        rw [hp3] at ho4
        simp only at ho4
        have HO4 := hide ho4
        have HK3 := hide (HK2.out.trans hk3)
        have HR3 := hide hr3
        have HM3 := hide (HM2.out.kp hk3 hrb)
        have c0 := hr3.c0
        have c1 := hr3.c1
        have ce : w3.cell? ⟨1, 0, none⟩ = some (X ea) := (HE2.out.kp HR2.out hk3).txt
        clear hp3 ho4 hk3 hr3
        by_cases h3 : a3 < s.size
        · have k3 : (a3 : Int) < (s.size : Int) := by omega
          have HX : Hid (o = none) := by show _ = _; rw [← HO4.out, drop_cons s a3 h3, if_neg (by simp)]
          go_wp2
          go_region
          go_wp2
          exact ⟨rfl, (HK3.out.drew.under HLT.out), Or.inr ⟨HX.out, rfl⟩⟩
        · have k3 : ¬ (a3 : Int) < (s.size : Int) := by omega
          have k3d : decide ((a3 : Int) < (s.size : Int)) = false := decide_eq_false k3
          have HX : Hid (o = some []) := by show _ = _; rw [← HO4.out, drop_end s a3 h3, if_pos rfl]
          clear ce
          go_wp2
          go_region
          go_wp2
          first | go_end0 | refine bodyPost_end (results_none rfl _ _ _) rfl ?_
          exact ⟨(HK3.out.drew.under HLT.out), Or.inl ⟨[], a3, _, HX.out, rfl, HR3.out.drew, HM3.out⟩⟩
      · have HC := hide (partIf_no rb s a2 (.slice none 0 0) 0 w2 125 125 rfl h hc HR2.out)
        have ho4 := HO3.out
        have hpn : Json.part 125 (s.data.toList.drop a2) = none := by rw [drop_cons s a2 h, Json.part, if_neg hc]
        rw [hpn] at ho4
        simp only at ho4
        rw [members_behind s [] _ (by rw [List.length_drop, len_list]; omega)] at ho4
        have HO4 := hide ho4
        clear hc hpn ho4 HO3
        go_wp2_with fail
        refine HC.out.mono ?_
        rintro e w3 ⟨rfl, hk3, hr3⟩
        have HK3 := hide (HK2.out.trans hk3)
        have HR3 := hide hr3
        have HE3 := hide (HE2.out.kp HR2.out hk3)
        have HM3 := hide (HM2.out.kp hk3 hrb)
        clear hk3 hr3
        go_wp2_with fail
        refine (member_any rb b s a2 (.slice none 0 0) [] ea w3 ha2 hs hrb (Nat.le_trans hb HK3.out.size) (Nat.zero_le _) HR3.out HM3.out HE3.out).mono ?_
        rintro e w4 ⟨hb4, (⟨m, r4, a4, mv4, ho5, rfl, ha4, hd4, hr4, hm4⟩ | ⟨ho5, rfl⟩)⟩
        · have hlt4 := Json.member_lt ho5
          rw [← hd4, List.length_drop, List.length_drop, len_list] at hlt4
          have ho6 := HO4.out
          rw [ho5] at ho6
          simp only at ho6
          rw [← hd4] at ho6
          have HO6 := hide ho6
          have HB4 := hide ((HK3.out.under HLT.out).trans hb4)
          have HR4 := hide hr4
          have HM4 := hide hm4
          have hl4 : 1 ≤ a4 := by omega
          clear ho5 ho6 hb4 hr4 hm4 hd4 HO4 hlt4
          go_wp2_with fail
          go_loopw [] (fun wr => ∃ (k : Nat) (mv : Value) (ms : List Mem), k ≤ s.size ∧ ms.length ≤ k ∧ Hid (Closed (Behind s ms (s.data.toList.drop k)) = o) ∧ Below rb w wr ∧ Rd wr rb s k mv ms.length ∧ Mems wr b mv ms) (fun wr => s.size - place wr rb)
          case atStart => exact ⟨a4, mv4, [m], ha4, by simpa using hl4, HO6.out, HB4.out, HR4.out, HM4.out⟩
          case round =>
            obtain ⟨k, mv, ms, hk, hmk, hcl, hbl, hrr, hmm⟩ := hrel
            have HB := hide hbl
            have HRR := hide hrr
            have HMM := hide hmm
            have HEE := hide (HE.out.next hbl)
            have HPL := hide hrr.place
            have hbw : b ≤ wr.heap.size := Nat.le_trans hb hbl.size
            clear hbl hrr hmm HO6 HB4 HR4 HM4
            by_cases h5 : k < s.size
            · by_cases hc : s[k] = 44
              · have HC := hide (partIf_yes rb s k mv ms.length wr 44 44 rfl h5 hc hs63 HRR.out)
                clear hc
                go_wp2_with fail
                refine HC.out.mono ?_
                rintro e w5 ⟨a5, ha5, hp5, rfl, hk5, hr5⟩
                have hlt5 := Json.part_lt hp5
                rw [List.length_drop, List.length_drop, len_list] at hlt5
                have hcl2 := hcl.out
                unfold Behind at hcl2
                rw [hp5] at hcl2
                simp only at hcl2
                rw [members_behind s ms _ (by rw [List.length_drop, len_list]; omega)] at hcl2
                have HCL := hide hcl2
                have HB5 := hide (HB.out.trans (hk5.under (Nat.le_of_lt HRR.out.lt)))
                have HR5 := hide hr5
                have HM5 := hide (HMM.out.kp hk5 hrb)
                have HE5 := hide (HE.out.next HB5.out)
                have hbw5 : b ≤ w5.heap.size := Nat.le_trans hbw hk5.size
                have HL5 := hide hlt5
                clear hp5 hcl2 hk5 hr5 hlt5 hcl
                go_wp2_with fail
                refine (member_any rb b s a5 mv ms ea w5 ha5 hs hrb hbw5 (by omega) HR5.out HM5.out HE5.out).mono ?_
                rintro e w6 ⟨hb6, (⟨m6, r6, a6, mv6, ho6, rfl, ha6, hd6, hr6, hm6⟩ | ⟨ho6, rfl⟩)⟩
                · have hlt6 := Json.member_lt ho6
                  rw [← hd6, List.length_drop, List.length_drop, len_list] at hlt6
                  have hcl3 := HCL.out
                  rw [ho6] at hcl3
                  simp only at hcl3
                  rw [← hd6] at hcl3
                  have HCL3 := hide hcl3
                  have HB6 := hide (HB5.out.trans hb6)
                  have HR6 : Hid (Rd w6 rb s a6 mv6 (ms ++ [m6]).length) := by show Rd _ _ _ _ _ _; rw [List.length_append]; exact hr6
                  have HM6 := hide hm6
                  have HL6 := hide hlt6
                  clear ho6 hcl3 hb6 hr6 hm6 hd6 hlt6 HCL
                  go_wp2
                  go_roundw
                  case rel => exact ⟨a6, mv6, ms ++ [m6], ha6, by rw [List.length_append]; have h1 := HL5.out; have h2 := HL6.out; simp; omega, HCL3.out, HB6.out, HR6.out, HM6.out⟩
                  case measure =>
                    have h1 := HPL.out
                    have h2 := HR6.out.place
                    have h3 := HL5.out
                    have h4 := HL6.out
                    omega
                · have hcl3 := HCL.out
                  rw [ho6] at hcl3
                  have HX : Hid (o = none) := hcl3.symm
                  have HB6 := hide (HB5.out.trans hb6)
                  clear ho6 hcl3 hb6 HCL
                  go_wp2
                  exact ⟨rfl, HB6.out, Or.inr ⟨HX.out, rfl⟩⟩
              · have HC := hide (partIf_no rb s k mv ms.length wr 44 44 rfl h5 hc HRR.out)
                have hcl2 := hcl.out
                have hpn : Json.part 44 (s.data.toList.drop k) = none := by rw [drop_cons s k h5, Json.part, if_neg hc]
                unfold Behind at hcl2
                rw [hpn] at hcl2
                simp only [Closed] at hcl2
                have HCL := hide hcl2
                clear hc hpn hcl2 hcl
                go_wp2_with fail
                refine HC.out.mono ?_
                rintro e w5 ⟨rfl, hk5, hr5⟩
                have HB5 := hide (HB.out.trans (hk5.under (Nat.le_of_lt HRR.out.lt)))
                have HR5 := hide hr5
                have HM5 := hide (HMM.out.kp hk5 hrb)
                have HE5 := hide (HE.out.next HB5.out)
                clear hk5 hr5
                go_wp2_with fail
                refine (part_any rb s k mv ms.length ea w5 125 125 rfl hk hs63 HR5.out HE5.out).mono ?_
                rintro e w6 (⟨v6, r6, a6, ho6, ha6, hd6, rfl, hk6, hr6⟩ | ⟨ho6, rfl, hk6⟩)
                · obtain ⟨r6', hq6, he6⟩ := Option.map_eq_some_iff.1 ho6
                  simp only [Prod.mk.injEq] at he6
                  obtain ⟨rfl, rfl⟩ := he6
                  have hcl3 := HCL.out
                  rw [hq6] at hcl3
                  simp only at hcl3
                  rw [← hd6] at hcl3
                  have HCL3 := hide hcl3
                  have HB6 := hide (HB5.out.trans (hk6.under (Nat.le_of_lt HR5.out.lt)))
                  have HR6 := hide hr6
                  have HM6 := hide (HM5.out.kp hk6 hrb)
                  have c0 := hr6.c0
                  have c1 := hr6.c1
                  have ce : w6.cell? ⟨1, 0, none⟩ = some (X ea) := (HE.out.next HB6.out).txt
                  clear ho6 hq6 hcl3 hk6 hr6 hd6 HCL
                  by_cases h3 : a6 < s.size
                  · have k3 : (a6 : Int) < (s.size : Int) := by omega
                    have HX : Hid (o = none) := by show _ = _; rw [← HCL3.out, drop_cons s a6 h3, if_neg (by simp)]
                    go_wp2
                    go_region
                    go_wp2
                    exact ⟨rfl, HB6.out.drew, Or.inr ⟨HX.out, rfl⟩⟩
                  · have k3 : ¬ (a6 : Int) < (s.size : Int) := by omega
                    have k3d : decide ((a6 : Int) < (s.size : Int)) = false := decide_eq_false k3
                    have HX : Hid (o = some ms) := by show _ = _; rw [← HCL3.out, drop_end s a6 h3, if_pos rfl]
                    clear ce
                    go_wp2
                    go_region
                    go_wp2
                    first | go_end0 | refine bodyPost_end (results_none rfl _ _ _) rfl ?_
                    exact ⟨HB6.out.drew, Or.inl ⟨ms, a6, _, HX.out, rfl, HR6.out.drew, HM6.out⟩⟩
                · have hq6 := none_of_map ho6
                  have hcl3 := HCL.out
                  rw [hq6] at hcl3
                  have HX : Hid (o = none) := hcl3.symm
                  have HB6 := hide (HB5.out.trans (hk6.under (Nat.le_of_lt HR5.out.lt)))
                  clear ho6 hq6 hcl3 hk6 HCL
                  go_wp2
                  exact ⟨rfl, HB6.out, Or.inr ⟨HX.out, rfl⟩⟩
            · obtain rfl : k = s.size := by omega
              have HX : Hid (o = none) := by
                show _ = _
                rw [← hcl.out, drop_end s _ h5]
                rfl
              have HC := hide (partIf_none rb s mv ms.length ea wr 44 HRR.out HEE.out)
              clear hcl
              go_wp2_with fail
              refine HC.out.mono ?_
              rintro e w5 ⟨rfl, hk5⟩
              have HB5 := hide (HB.out.trans (hk5.under (Nat.le_of_lt HRR.out.lt)))
              clear hk5
              go_wp2
              exact ⟨rfl, HB5.out, Or.inr ⟨HX.out, rfl⟩⟩
        · have ho6 := HO4.out
          rw [ho5] at ho6
          have HX : Hid (o = none) := ho6.symm
          have HB4 := hide ((HK3.out.under HLT.out).trans hb4)
          clear ho5 ho6 hb4 HO4
          go_wp2
          exact ⟨rfl, HB4.out, Or.inr ⟨HX.out, rfl⟩⟩
    · obtain rfl : a2 = s.size := by omega
      have HX : Hid (o = none) := by
        show _ = _
        rw [← HO3.out, drop_end s _ h]
        simp [Json.part, Json.members, Json.member, Json.quoted, Json.word, Closed, List.isPrefixOf]
      have HC := hide (partIf_none rb s (.slice none 0 0) 0 ea w2 125 HR2.out HE2.out)
      go_wp2_with fail
      refine HC.out.mono ?_
      rintro e w3 ⟨rfl, hk3⟩
      have HK3 := hide (HK2.out.trans hk3)
      clear hk3
      go_wp2
      exact ⟨rfl, HK3.out.under HLT.out, Or.inr ⟨HX.out, rfl⟩⟩
  · have hq2 := none_of_map ho2
    have ho3 := HO.out
    rw [hq2] at ho3
    have HX : Hid (o = none) := ho3.symm
    have HK2 := hide (HK1.out.trans hk2)
    clear ho2 hq2 ho3 hk2 HO
    go_wp2
    exact ⟨rfl, HK2.out.under HLT.out, Or.inr ⟨HX.out, rfl⟩⟩
end Go.Proofs.YtkkgngmhdlmgnaaDoor.jw
