import Derived.Test.YtdkbjefphihplacDoorRadixKit
namespace Go.Proofs.YtdkbjefphihplacDoor.radw
open Go.ChangeShapes Go.WideShapes Go.ChangeAt Go.RowKit Go.Proofs.YtdkbjefphihplacDoor.common

/-- how many bytes stand ahead of the signs '=' at the end, of the first k bytes -/
def trimN (l : List UInt8) : Nat → Nat
  | 0 => 0
  | k + 1 => if l.getD k 0 = 61 then trimN l k else k + 1
theorem trimN_le (l : List UInt8) (k : Nat) : trimN l k ≤ k := by
  induction k with
  | zero => exact Nat.le_refl _
  | succ k ih => unfold trimN; split <;> omega
theorem trimN_all (l : List UInt8) (k i : Nat) (h1 : trimN l k ≤ i) (h2 : i < k) : l.getD i 0 = 61 := by
  induction k with
  | zero => omega
  | succ k ih =>
    unfold trimN at h1
    split at h1
    · rename_i h
      by_cases hik : i = k
      · subst hik; exact h
      · exact ih h1 (by omega)
    · omega

theorem take_list (s : ByteArray) (k : Nat) : (s.extract 0 k).data.toList = s.data.toList.take k := by simp

set_option maxHeartbeats 400000 in
theorem trimByte_any (s : ByteArray) (w : World) (hs : s.size ≤ reachBytes) :
    Calls Tryd.prog 65 #[.string s, .int .u8 61] w fun e w' => (∃ t : ByteArray, e = .returned (.string t) ∧ t.data.toList = s.data.toList.take (trimN s.data.toList s.size)) ∧ w' = w := by
  unfold reachBytes at hs
  go_enter Tryd.func65, Tryd.ntmps65
  go_wp2_with fail
  go_loop [0] (fun v => ∃ (k : Nat) (t : ByteArray), k ≤ s.size ∧ v = .string t ∧ t.size = k ∧ t.data.toList = s.data.toList.take k ∧ trimN s.data.toList s.size = trimN s.data.toList k) (fun v => (match v with | .string t => t.size | _ => 0))
  case atStart => exact ⟨s.size, s, Nat.le_refl _, rfl, rfl, by rw [List.take_of_length_le (by rw [len_list]; exact Nat.le_refl _)], rfl⟩
  case round =>
    obtain ⟨k, t, hk, rfl, hts, htl, htr⟩ := hrel
    have HTL := hide htl
    have HTR := hide htr
    clear htl htr
    cases k with
    | zero =>
      have hz : ¬ (0 : Int) < (t.size : Int) := by omega
      go_wp2
      go_ret
      exact ⟨⟨t, rfl, by rw [HTL.out, HTR.out]; rfl⟩, rfl⟩
    | succ k =>
      have hkt : k < t.size := by omega
      have hg : s.data.toList.getD k 0 = t[k] := by
        rw [← getD_list t k hkt, HTL.out, List.getD_eq_getElem?_getD, List.getD_eq_getElem?_getD, List.getElem?_take_of_lt (by omega)]
      have HG := hide hg
      clear hg
      by_cases he : t[k] = 61
      · have he' : (t[k].toNat : Int) = 61 := by rw [he]; rfl
        have HNX : Hid (trimN s.data.toList (k + 1) = trimN s.data.toList k) := by
          show _ = _
          conv => lhs; unfold trimN
          rw [if_pos (by rw [HG.out]; exact he)]
        have hsz : (t.extract 0 k).size = k := by rw [ByteArray.size_extract]; omega
        have HSZ := hide hsz
        have HEX : Hid ((t.extract 0 k).data.toList = s.data.toList.take k) := by
          show _ = _
          rw [take_list, HTL.out, List.take_take, Nat.min_eq_left (by omega)]
        clear he hsz
        go_wp2
        go_round
        case rel => exact ⟨k, _, by omega, rfl, HSZ.out, HEX.out, by rw [HTR.out, HNX.out]⟩
        case measure => have := HSZ.out; simp; omega
      · have he' : ((t[k].toNat : Int) == 61) = false := beq_false_of_ne fun h => he (UInt8.toNat_inj.1 (by show t[k].toNat = 61; omega))
        have HNX : Hid (trimN s.data.toList (k + 1) = k + 1) := by
          show _ = _
          unfold trimN
          rw [if_neg (by rw [HG.out]; exact he)]
        clear he
        go_wp2
        go_ret
        exact ⟨⟨t, rfl, by rw [HTL.out, HTR.out, HNX.out]⟩, rfl⟩

set_option maxRecDepth 100000 in
set_option maxHeartbeats 400000 in
theorem trim_any (s : ByteArray) (w : World) (hs : s.size ≤ reachBytes) :
    Calls Tryd.prog 52 #[.string s, .string ⟨#[61]⟩] w fun e w' => (∃ t : ByteArray, e = .returned (.string t) ∧ t.data.toList = s.data.toList.take (trimN s.data.toList s.size)) ∧ w' = w := by
  have HS := hide hs
  clear hs
  by_cases h0 : s = ByteArray.empty
  · subst h0
    go_enter Tryd.func52, Tryd.ntmps52
    go_wp2_with fail
    go_ret
    exact ⟨⟨_, rfl, rfl⟩, rfl⟩
  · have h1 : (s.toList == []) = false := by
      rw [ByteArray.toList_eq]
      exact beq_false_of_ne fun e => h0 (by apply ByteArray.ext; apply Array.toList_inj.1; exact e)
    go_enter Tryd.func52, Tryd.ntmps52
    go_wp2_with (go_at_call 65; refine (trimByte_any s _ HS.out).mono ?_; rintro e w' ⟨⟨t, rfl, ht⟩, rfl⟩)
    have HT := hide ht
    clear ht
    go_wp2_with fail
    go_ret
    exact ⟨⟨_, rfl, HT.out⟩, rfl⟩

end Go.Proofs.YtdkbjefphihplacDoor.radw
