import Derived.Test.YthhkhpgffamdhaaDoorRdCookie
import Derived.Test.YthhkhpgffamdhaaDoorCutOne
import Derived.Test.YthhkhpgffamdhaaDoorCkB
namespace Go.Proofs.YthhkhpgffamdhaaDoor.fd
open Go.ChangeShapes Go.WideShapes Go.ChangeAt Go.RowKit Go.Proofs.YthhkhpgffamdhaaDoor.common Go.Proofs.YthhkhpgffamdhaaDoor.bk
attribute [local go_sem ↓] Go.wp_at_zero Go.wp_at_succ

def isPc (c : UInt8) : Bool := decide (c ≠ 59)
theorem isPieceByte_any (c : UInt8) (w : World) : Calls Tryd.prog 71 #[B c] w fun e w' => e = .returned (.bool (isPc c)) ∧ w' = w := by
  by_cases h : c = 59
  · subst h
    go_enter Tryd.func71, Tryd.ntmps71
    go_wp2
    go_ret
    exact ⟨rfl, rfl⟩
  · have hi : ¬ (c.toNat : Int) = 59 := fun e => h (UInt8.toNat_inj.1 (by show c.toNat = 59; omega))
    have hb : ((c.toNat : Int) == 59) = false := beq_false_of_ne hi
    have HB : Hid (isPc c = true) := decide_eq_true h
    rw [HB.out]
    clear h
    go_enter Tryd.func71, Tryd.ntmps71
    go_wp2
    go_ret
    exact ⟨by simp; exact hi, rfl⟩
theorem enters_piece : ∀ args w, (callFunc 71 args).run Tryd.prog w = .ok (.enter 71 args) w := enters_of Tryd.func71 (by kernel_rfl) rfl

/-- a value without the two quotes that it stands between -/
def unq (l : List UInt8) : List UInt8 := if 2 ≤ l.length ∧ l.getD 0 0 = 34 ∧ l.getD (l.length - 1) 0 = 34 then (l.take (l.length - 1)).drop 1 else l

set_option maxRecDepth 100000 in
set_option maxHeartbeats 1600000 in
theorem unquoted_any (s : ByteArray) (w : World) (hs : s.size ≤ 4611686018427387904) :
    Calls Tryd.prog 73 #[.string s] w fun e w' => e = .returned (S (unq s.data.toList)) ∧ w' = w := by
  obtain ⟨R, hR⟩ : ∃ R, S (unq s.data.toList) = R := ⟨_, rfl⟩
  rw [hR]
  have HR := hide hR
  have HLEN := hide (len_list s)
  clear hR
  by_cases h2 : 2 ≤ s.size
  · have h2i : ¬ (s.size : Int) < 2 := by omega
    have h2j : (2 : Int) ≤ (s.size : Int) := by omega
    have h0 : 0 < s.size := by omega
    have h1 : s.size - 1 < s.size := by omega
    have e1 : (s.size : Int) - 1 = ((s.size - 1 : Nat) : Int) := by omega
    have HV : Hid (R = if (s[0] = 34 ∧ s[s.size - 1] = 34) then S ((s.data.toList.take (s.size - 1)).drop 1) else .string s) := by
      show _ = _
      rw [← HR.out]
      unfold unq
      rw [HLEN.out, getD_list s 0 h0, getD_list s (s.size - 1) h1]
      by_cases hq : s[0] = 34 ∧ s[s.size - 1] = 34
      · rw [if_pos ⟨h2, hq⟩, if_pos hq]
      · rw [if_neg (fun h => hq h.2), if_neg hq]
    clear HR
    have HX : Hid (s.extract 1 (s.size - 1) = ⟨((s.data.toList.take (s.size - 1)).drop 1).toArray⟩) := by
      show _ = _
      apply ba_ext
      rw [Lib.extract_data, str_list, List.take_drop]
      congr 2
      omega
    by_cases ha : s[0] = 34
    · have hai : (s[0].toNat : Int) = 34 := by rw [ha]; rfl
      by_cases hb : s[s.size - 1] = 34
      · have hbi : (s[s.size - 1].toNat : Int) = 34 := by rw [hb]; rfl
        have HF : Hid (R = S ((s.data.toList.take (s.size - 1)).drop 1)) := by show _ = _; rw [HV.out, if_pos ⟨ha, hb⟩]
        clear ha hb HV
        go_enter Tryd.func73, Tryd.ntmps73
        go_wp2_with fail
        go_ret
        exact ⟨by rw [HF.out]; exact congrArg (fun x => Ending.returned (.string x)) HX.out, rfl⟩
      · have hbi : ¬ (s[s.size - 1].toNat : Int) = 34 := fun e => hb (UInt8.toNat_inj.1 (by show s[s.size - 1].toNat = 34; omega))
        have hbb : ((s[s.size - 1].toNat : Int) == 34) = false := beq_false_of_ne hbi
        have HF : Hid (R = .string s) := by show _ = _; rw [HV.out, if_neg (fun h => hb h.2)]
        clear ha hb HV
        go_enter Tryd.func73, Tryd.ntmps73
        go_wp2_with fail
        go_ret
        exact ⟨by rw [HF.out]; rfl, rfl⟩
    · have hai : ¬ (s[0].toNat : Int) = 34 := fun e => ha (UInt8.toNat_inj.1 (by show s[0].toNat = 34; omega))
      have hab : ((s[0].toNat : Int) == 34) = false := beq_false_of_ne hai
      have HF : Hid (R = .string s) := by show _ = _; rw [HV.out, if_neg (fun h => ha h.1)]
      clear ha HV
      go_enter Tryd.func73, Tryd.ntmps73
      go_wp2_with fail
      go_ret
      exact ⟨by rw [HF.out]; rfl, rfl⟩
  · have h2i : ¬ (2 : Int) ≤ (s.size : Int) := by omega
    have HF : Hid (R = .string s) := by show _ = _; rw [← HR.out]; unfold unq; rw [HLEN.out, if_neg (fun h => h2 h.1)]
    clear HR h2
    go_enter Tryd.func73, Tryd.ntmps73
    go_wp2_with fail
    go_ret
    exact ⟨by rw [HF.out]; rfl, rfl⟩

end Go.Proofs.YthhkhpgffamdhaaDoor.fd
