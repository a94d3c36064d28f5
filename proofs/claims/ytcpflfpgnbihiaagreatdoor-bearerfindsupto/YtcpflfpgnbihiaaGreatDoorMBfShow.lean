import Derived.Test.YtcpflfpgnbihiaaGreatDoorMBfFold3
import Derived.Test.YtcpflfpgnbihiaaGreatDoorMBfFld
namespace Go.Proofs.YtcpflfpgnbihiaaGreatDoor.bf
open Go.ChangeShapes Go.WideShapes Go.ChangeAt Go.RowKit Go.Proofs.YtcpflfpgnbihiaaGreatDoor.common Go.Proofs.YtcpflfpgnbihiaaGreatDoor.bk Go.Proofs.YtcpflfpgnbihiaaGreatDoor.fd
attribute [local go_sem ↓] Go.wp_at_zero Go.wp_at_succ

theorem ext1 (s : ByteArray) (h : 0 < s.size) : (s.extract 0 1).toList = [s[0]] := by
  rw [ByteArray.toList_eq, ext0_l, ba_cons s h]; rfl

set_option maxRecDepth 100000 in
set_option maxHeartbeats 800000 in
theorem pre1_any (s : ByteArray) (w : World) (hs : s.size ≤ 4611686018427387904) : Calls Tryz.prog 46 #[.string s, .string ⟨#[32]⟩] w fun e w' => e = .returned (.bool (decide (s.data.toList.head? = some 32))) ∧ w' = w := by
  by_cases h0 : s.size = 0
  · have he : s.data.toList = [] := List.eq_nil_of_length_eq_zero (by rw [len_list]; exact h0)
    rw [he]
    have d1 : ¬ (1 : Int) ≤ (s.size : Int) := by omega
    have d2 : decide ((1 : Int) ≤ (s.size : Int)) = false := decide_eq_false d1
    clear he h0
    go_enter Tryz.func46, Tryz.ntmps46
    go_wp2_with fail
    go_ret
    exact ⟨rfl, rfl⟩
  · have hp : 0 < s.size := by omega
    have d1 : (1 : Int) ≤ (s.size : Int) := by omega
    have d2 : decide ((1 : Int) ≤ (s.size : Int)) = true := decide_eq_true d1
    have hx := ext1 s hp
    have hh : s.data.toList.head? = some s[0] := by rw [ba_cons s hp]; rfl
    rw [hh]
    by_cases h3 : s[0] = 32
    · rw [h3] at hx ⊢
      clear hh h0 h3
      go_enter Tryz.func46, Tryz.ntmps46
      go_wp2_with fail
      go_ret
      exact ⟨by simp, rfl⟩
    · have hb : ([s[0]] == ([32] : List UInt8)) = false := beq_false_of_ne (by simpa using h3)
      have HF : Hid (decide ((some s[0] : Option UInt8) = some 32) = false) := decide_eq_false (by simpa using h3)
      rw [HF.out]
      clear hh h0
      go_enter Tryz.func46, Tryz.ntmps46
      go_wp2_with fail
      go_ret
      exact ⟨by first | rfl | simp [h3], rfl⟩

theorem hasPre_any (s : ByteArray) (w : World) (hs : s.size ≤ 4611686018427387904) : Calls Tryz.prog 28 #[.string s, .string ⟨#[32]⟩] w fun e w' => e = .returned (.bool (decide (s.data.toList.head? = some 32))) ∧ w' = w := by
  have H := hide (pre1_any s w hs)
  generalize decide (s.data.toList.head? = some 32) = r at *
  go_enter Tryz.func28, Tryz.ntmps28
  go_wp2_with fail
  refine H.out.mono ?_
  rintro e w' ⟨rfl, rfl⟩
  go_wp2_with fail
  go_ret
  exact ⟨rfl, rfl⟩

set_option maxRecDepth 100000 in
set_option maxHeartbeats 3200000 in
theorem bBehind_any (s : ByteArray) (w : World) (hs : s.size ≤ 4611686018427387904) (hT : FoldT w) :
    Calls Tryz.prog 13 #[.string s] w fun e w' => e = .returned (shV s.data.toList) ∧ Below w.heap.size w w' := by
  by_cases h6 : s.size < 6
  · have hi : (s.size : Int) < 6 := by omega
    have hd : decide ((s.size : Int) < 6) = true := decide_eq_true hi
    have HF : Hid (shV s.data.toList = .tuple #[.string ⟨#[]⟩, .bool false]) := by
      show _ = _; unfold shV; rw [Bf.shw_short (by rw [len_list]; exact h6)]
    rw [HF.out]
    clear h6
    go_enter Tryz.func13, Tryz.ntmps13
    go_wp2_with fail
    go_ret2
    exact ⟨rfl, Below.refl _ _⟩
  · have hi : ¬ (s.size : Int) < 6 := by omega
    have hd : decide ((s.size : Int) < 6) = false := decide_eq_false hi
    have h6i : (6 : Int) ≤ (s.size : Int) := by omega
    have hL : s.data.toList = s.data.toList.take 6 ++ s.data.toList.drop 6 := (List.take_append_drop 6 _).symm
    have HE := hide (fold_six (s.extract 0 6) w (by rw [ByteArray.size_extract]; omega) hT)
    rw [ext0_l] at HE
    have hXl : (s.extract 6 s.size).data.toList = s.data.toList.drop 6 := by rw [fd.ext_drop]
    by_cases hb : Fd.lows (s.data.toList.take 6) = Bf.bearer
    · rw [decide_eq_true hb] at HE
      have hXs : (s.extract 6 s.size).size ≤ 4611686018427387904 := by rw [ByteArray.size_extract]; omega
      have HP := hide (fun W => hasPre_any (s.extract 6 s.size) W hXs)
      have HTL := hide (fun W => trimL_any (s.extract 6 s.size) 32 W hXs (by decide))
      obtain ⟨R, hR⟩ : ∃ R, shV s.data.toList = R := ⟨_, rfl⟩
      rw [hR]
      rw [hL, ← hXl] at hR
      have HRR := hide hR
      have HBB := hide hb
      clear hR hL hb hXl hT h6
      by_cases hz : (s.extract 6 s.size).size = 0
      · have hx0 : (s.extract 6 s.size).data.toList = [] := List.eq_nil_of_length_eq_zero (by rw [len_list]; exact hz)
        have HF : Hid (R = .tuple #[.string ⟨#[]⟩, .bool true]) := by
          show _ = _
          rw [← HRR.out, hx0, List.append_nil]; unfold shV; rw [Bf.shw_end HBB.out]
        have hx1 : (s.extract 6 s.size).toList = [] := by rw [ByteArray.toList_eq]; exact hx0
        have hx2 : ((s.extract 6 s.size).toList == []) = true := by rw [hx1]; rfl
        have hx3 : (s.extract 6 s.size).toList.isEmpty = true := by rw [hx1]; rfl
        rw [hx0] at HP
        clear hx0 hz HRR HBB HTL
        go_enter Tryz.func13, Tryz.ntmps13
        go_wp2_with (go_at_call 27; refine HE.out.mono ?_; rintro e w1 ⟨rfl, b1⟩)
        have HB := hide b1
        clear b1
        go_wp2_with fail
        refine (HP.out _).mono ?_
        rintro e w2 ⟨rfl, e2⟩
        subst e2
        go_wp2_with fail
        go_ret2
        exact ⟨by rw [HF.out]; rfl, HB.out⟩
      · have hp : 0 < (s.extract 6 s.size).size := by omega
        have hcons := ba_cons (s.extract 6 s.size) hp
        have hne : s.extract 6 s.size ≠ ⟨#[]⟩ := fun e => hz (by rw [e]; rfl)
        obtain ⟨n1, n2, n3⟩ := ne_facts hne
        have hpi : (0 : Int) < ((s.extract 6 s.size).size : Int) := by omega
        have h7 : 0 < s.size - 6 := by have := hp; rw [ByteArray.size_extract] at this; omega
        have h7i : (0 : Int) < ((s.size - 6 : Nat) : Int) := by omega
        by_cases hc : (s.extract 6 s.size)[0] = 32
        · have HF : Hid (R = .tuple #[.string (ltrim 32 (s.extract 6 s.size)), .bool true]) := by
            show _ = _
            rw [← HRR.out]; unfold shV ltrim
            rw [hcons, hc, Bf.shw_blank HBB.out]
          rw [hcons, hc] at HP
          clear hcons hc hz hp hne HRR HBB
          go_enter Tryz.func13, Tryz.ntmps13
          go_wp2_with (go_at_call 27; refine HE.out.mono ?_; rintro e w1 ⟨rfl, b1⟩)
          have HB := hide b1
          clear b1
          go_wp2_with fail
          refine (HP.out _).mono ?_
          rintro e w2 ⟨rfl, e2⟩
          subst e2
          go_wp2_with fail
          refine (HTL.out _).mono ?_
          rintro e w3 ⟨rfl, e3⟩
          subst e3
          go_wp2_with fail
          go_ret2
          exact ⟨by rw [HF.out]; rfl, HB.out⟩
        · have HF : Hid (R = .tuple #[.string ⟨#[]⟩, .bool (!Fd.tok (s.extract 6 s.size)[0])]) := by
            show _ = _
            rw [← HRR.out]; unfold shV
            rw [hcons, Bf.shw_other HBB.out hc]
          have hh : decide ((s.extract 6 s.size).data.toList.head? = some 32) = false := by
            rw [hcons]; exact decide_eq_false (by simpa using hc)
          have HTB := hide (fun W => bTokenByte_any (s.extract 6 s.size)[0] W)
          rw [hh] at HP
          generalize Fd.tok (s.extract 6 s.size)[0] = tk at *
          clear hcons hc hz hne HRR HBB hh HTL
          go_enter Tryz.func13, Tryz.ntmps13
          go_wp2_with (go_at_call 27; refine HE.out.mono ?_; rintro e w1 ⟨rfl, b1⟩)
          have HB := hide b1
          clear b1
          go_wp2_with fail
          refine (HP.out _).mono ?_
          rintro e w2 ⟨rfl, e2⟩
          subst e2
          go_wp2_with (go_at_call 30; refine (HTB.out _).mono ?_; rintro e w3 ⟨rfl, e3⟩; subst e3)
          go_ret2
          exact ⟨by rw [HF.out]; cases tk <;> rfl, HB.out⟩
    · rw [decide_eq_false hb] at HE
      have HF : Hid (shV s.data.toList = .tuple #[.string ⟨#[]⟩, .bool false]) := by
        show _ = _; unfold shV; rw [hL, Bf.shw_none (by rw [List.length_take, len_list]; omega) hb]
      rw [HF.out]
      clear hL hXl hb hT h6
      go_enter Tryz.func13, Tryz.ntmps13
      go_wp2_with (go_at_call 27; refine HE.out.mono ?_; rintro e w1 ⟨rfl, b1⟩)
      have HB := hide b1
      clear b1
      go_wp2_with fail
      go_ret2
      exact ⟨rfl, HB.out⟩
end Go.Proofs.YtcpflfpgnbihiaaGreatDoor.bf
