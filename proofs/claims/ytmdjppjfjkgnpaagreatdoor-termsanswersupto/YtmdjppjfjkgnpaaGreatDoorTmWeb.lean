import Derived.Test.YtmdjppjfjkgnpaaGreatDoorTmPort
namespace Go.Proofs.YtmdjppjfjkgnpaaGreatDoor.tm
open Go.ChangeShapes Go.WideShapes Go.ChangeAt Go.RowKit Go.Proofs.YtmdjppjfjkgnpaaGreatDoor.common Go.Proofs.YtmdjppjfjkgnpaaGreatDoor.bk
open Go.Proofs.YtmdjppjfjkgnpaaGreatDoor.fd (before behind)
attribute [local go_sem ↓] Go.wp_at_zero Go.wp_at_succ

/-- what may stand behind a host -/
def behL (l : List UInt8) : Bool := if [58].isPrefixOf l then portL (hd [47, 63] (l.drop 1)) && pathQ (tl [47, 63] (l.drop 1)) else pathQ l

theorem ext_to (s : ByteArray) (n : Nat) : (s.extract 0 n).data.toList = s.data.toList.take n := by rw [ext_list]; simp
theorem ext_from (s : ByteArray) (n : Nat) : (s.extract n s.size).data.toList = s.data.toList.drop n := by
  rw [ext_list]
  exact List.take_of_length_le (by rw [List.length_drop, len_list]; exact Nat.le_refl _)
theorem asc2 : Asc ⟨#[47, 63]⟩ := fun j h => by
  have h2 : j < 2 := h
  match j, h2 with
  | 0, _ => exact (by decide : (47 : UInt8).toNat < 128)
  | 1, _ => exact (by decide : (63 : UInt8).toNat < 128)
theorem asc3 : Asc ⟨#[58, 47, 63]⟩ := fun j h => by
  have h2 : j < 3 := h
  match j, h2 with
  | 0, _ => exact (by decide : (58 : UInt8).toNat < 128)
  | 1, _ => exact (by decide : (47 : UInt8).toNat < 128)
  | 2, _ => exact (by decide : (63 : UInt8).toNat < 128)

set_option maxRecDepth 100000 in
set_option maxHeartbeats 3200000 in
theorem beh_any (s : ByteArray) (w : World) (hs : s.size ≤ 1048576) (h : Nums w) :
    Calls Tryz.prog 38 #[.string s] w fun e w' => e = .returned (.bool (behL s.data.toList)) ∧ Below w.heap.size w w' := by
  have HC := hide (cutPrefix_any s ⟨#[58]⟩ w)
  have HS : Hid (behL s.data.toList = if [58].isPrefixOf s.data.toList then portL (hd [47, 63] (s.data.toList.drop 1)) && pathQ (tl [47, 63] (s.data.toList.drop 1)) else pathQ s.data.toList) := rfl
  unfold cutP at HC
  cases hp : (⟨#[58]⟩ : ByteArray).data.toList.isPrefixOf s.data.toList with
  | false =>
    have HR : Hid (behL s.data.toList = pathQ s.data.toList) := by show _ = _; rw [HS.out, if_neg (by rw [show [58].isPrefixOf s.data.toList = false from hp]; decide)]
    rw [hp, if_neg (by decide)] at HC
    rw [HR.out]
    have HQ := hide (fun W => pathQ_any s W (by omega))
    generalize pathQ s.data.toList = t at *
    clear hp HS HR
    go_enter Tryz.func38, Tryz.ntmps38
    go_wp2_with fail
    refine HC.out.mono ?_
    rintro x w1 ⟨rfl, hw⟩
    obtain rfl := hw.symm
    go_wp2_with (go_at_call 43; refine (HQ.out _).mono ?_; rintro x w2 ⟨rfl, hb⟩; have B1 := hide hb; clear hb)
    go_ret
    exact ⟨rfl, B1.out⟩
  | true =>
    obtain ⟨r, hr⟩ : ∃ r, r = s.extract 1 s.size := ⟨_, rfl⟩
    have hrl : r.data.toList = s.data.toList.drop 1 := by rw [hr, ext_from]
    have hrs : r.size ≤ s.size := by rw [hr, ByteArray.size_extract]; omega
    have HR : Hid (behL s.data.toList = (portL (hd [47, 63] r.data.toList) && pathQ (tl [47, 63] r.data.toList))) := by show _ = _; rw [HS.out, if_pos (show [58].isPrefixOf s.data.toList = true from hp), hrl]
    rw [hp, if_pos rfl, show (⟨#[58]⟩ : ByteArray).size = 1 from rfl, ← hr] at HC
    rw [HR.out]
    clear hp HS HR hr hrl
    have HA := hide (ahead_any r ⟨#[47, 63]⟩ w (by omega) (by decide) (by decide) asc2)
    have e1 := hd_take [47, 63] r.data.toList
    have e2 := tl_drop [47, 63] r.data.toList
    have hn := hd_le [47, 63] r.data.toList
    rw [len_list] at hn
    rw [← e1, ← e2]
    change Hid (Calls _ _ _ _ fun e w' => e = .returned (.int .i64 ((hd [47, 63] r.data.toList).length : Int)) ∧ _) at HA
    clear e1 e2
    generalize (hd [47, 63] r.data.toList).length = n at *
    rw [← ext_to, ← ext_from]
    have HP := hide (fun W h => port_any (r.extract 0 n) W (by rw [ByteArray.size_extract]; omega) h)
    have HQ := hide (fun W => pathQ_any (r.extract n r.size) W (by rw [ByteArray.size_extract]; omega))
    generalize portL (r.extract 0 n).data.toList = t at *
    generalize pathQ (r.extract n r.size).data.toList = u at *
    have hni : (n : Int) ≤ (r.size : Int) := by omega
    have HN := hide h
    clear h
    cases t
    all_goals
      go_enter Tryz.func38, Tryz.ntmps38
      go_wp2_with (first
        | (go_at_call 17; refine HC.out.mono ?_; rintro x w1 ⟨rfl, hw⟩; obtain rfl := hw.symm)
        | (go_at_call 39; refine HA.out.mono ?_; rintro x w2 ⟨rfl, hb⟩; have B1 := hide hb; clear hb)
        | (go_at_call 49; refine (HP.out _ (HN.out.below B1.out)).mono ?_; rintro x w3 ⟨rfl, hb⟩; have B2 := hide (keepD B1.out hb); clear hb)
        | (go_at_call 43; refine (HQ.out _).mono ?_; rintro x w4 ⟨rfl, hb⟩; have B3 := hide (keepD B2.out hb); clear hb))
      go_ret
      exact ⟨rfl, by first | exact B3.out | exact B2.out⟩

/-- what may stand behind https:// -/
def secI (i : List UInt8) : Bool := i.contains 93 && (!(before 93 i).isEmpty && ((before 93 i).all numB && behL (behind 93 i)))
def secL (l : List UInt8) : Bool := if [91].isPrefixOf l then secI (l.drop 1) else hostN ⟨(hd [58, 47, 63] l).toArray⟩ && behL (tl [58, 47, 63] l)

theorem str_of (s : ByteArray) : (⟨s.data.toList.toArray⟩ : ByteArray) = s := by rw [Array.toArray_toList]

set_option maxRecDepth 100000 in
set_option maxHeartbeats 3200000 in
theorem sec_any (s : ByteArray) (w : World) (hs : s.size ≤ 1048576) (h : Nums w) :
    Calls Tryz.prog 25 #[.string s] w fun e w' => e = .returned (.bool (secL s.data.toList)) ∧ Below w.heap.size w w' := by
  have HC := hide (cutPrefix_any s ⟨#[91]⟩ w)
  have HS : Hid (secL s.data.toList = if [91].isPrefixOf s.data.toList then secI (s.data.toList.drop 1) else hostN ⟨(hd [58, 47, 63] s.data.toList).toArray⟩ && behL (tl [58, 47, 63] s.data.toList)) := rfl
  unfold cutP at HC
  have HN := hide h
  clear h
  cases hp : (⟨#[91]⟩ : ByteArray).data.toList.isPrefixOf s.data.toList with
  | false =>
    have HR : Hid (secL s.data.toList = (hostN ⟨(hd [58, 47, 63] s.data.toList).toArray⟩ && behL (tl [58, 47, 63] s.data.toList))) := by show _ = _; rw [HS.out, if_neg (by rw [show [91].isPrefixOf s.data.toList = false from hp]; decide)]
    rw [hp, if_neg (by decide)] at HC
    rw [HR.out]
    clear hp HS HR
    have HA := hide (ahead_any s ⟨#[58, 47, 63]⟩ w (by omega) (by decide) (by decide) asc3)
    have e1 := hd_take [58, 47, 63] s.data.toList
    have e2 := tl_drop [58, 47, 63] s.data.toList
    have hn := hd_le [58, 47, 63] s.data.toList
    rw [len_list] at hn
    rw [← e1, ← e2]
    change Hid (Calls _ _ _ _ fun e w' => e = .returned (.int .i64 ((hd [58, 47, 63] s.data.toList).length : Int)) ∧ _) at HA
    clear e1 e2
    generalize (hd [58, 47, 63] s.data.toList).length = n at *
    rw [← ext_to, ← ext_from, str_of]
    have HP := hide (fun W => isHostName_any (s.extract 0 n) W (by rw [ByteArray.size_extract]; unfold reachBytes; omega))
    have HQ := hide (fun W h => beh_any (s.extract n s.size) W (by rw [ByteArray.size_extract]; omega) h)
    generalize hostN (s.extract 0 n) = t at *
    generalize behL (s.extract n s.size).data.toList = u at *
    have hni : (n : Int) ≤ (s.size : Int) := by omega
    cases t
    all_goals
      go_enter Tryz.func25, Tryz.ntmps25
      go_wp2_with (first
        | (go_at_call 17; refine HC.out.mono ?_; rintro x w1 ⟨rfl, hw⟩; obtain rfl := hw.symm)
        | (go_at_call 39; refine HA.out.mono ?_; rintro x w2 ⟨rfl, hb⟩; have B1 := hide hb; clear hb)
        | (go_at_call 40; refine (HP.out _).mono ?_; rintro x w3 ⟨rfl, hb⟩; have B2 := hide (keepD B1.out hb); clear hb)
        | (go_at_call 38; refine (HQ.out _ (HN.out.below B2.out)).mono ?_; rintro x w4 ⟨rfl, hb⟩; have B3 := hide (keepD B2.out hb); clear hb))
      go_ret
      exact ⟨rfl, by first | exact B3.out | exact B2.out⟩
  | true =>
    obtain ⟨r, hr⟩ : ∃ r, r = s.extract 1 s.size := ⟨_, rfl⟩
    have hrl : r.data.toList = s.data.toList.drop 1 := by rw [hr, ext_from]
    have hrs : r.size ≤ s.size := by rw [hr, ByteArray.size_extract]; omega
    have HR : Hid (secL s.data.toList = secI r.data.toList) := by show _ = _; rw [HS.out, if_pos (show [91].isPrefixOf s.data.toList = true from hp), hrl]
    rw [hp, if_pos rfl, show (⟨#[91]⟩ : ByteArray).size = 1 from rfl, ← hr] at HC
    rw [HR.out]
    clear hp HS HR hr hrl
    have HK := hide (fd.cut_any r 93 w (by omega))
    have l1 := before_le 93 r.data.toList
    have l2 := behind_le 93 r.data.toList
    rw [len_list] at l1 l2
    have HA := hide (fun W => all_any ⟨(before 93 r.data.toList).toArray⟩ _ numB W (by rw [str_size]; omega) num_enters num_tests)
    have HQ := hide (fun W h => beh_any ⟨(behind 93 r.data.toList).toArray⟩ W (by rw [str_size]; omega) h)
    have HS : Hid (secI r.data.toList = (r.data.toList.contains 93 && (!(before 93 r.data.toList).isEmpty && ((before 93 r.data.toList).all numB && behL (behind 93 r.data.toList))))) := rfl
    change Hid (∀ W, Calls _ _ _ _ fun e w' => e = .returned (.bool ((before 93 r.data.toList).all numB)) ∧ _) at HA
    change Hid (∀ W h, Calls _ _ _ _ fun e w' => e = .returned (.bool (behL (behind 93 r.data.toList))) ∧ _) at HQ
    generalize r.data.toList.contains 93 = t at *
    generalize (before 93 r.data.toList).all numB = u at *
    generalize behL (behind 93 r.data.toList) = v at *
    generalize before 93 r.data.toList = bl at *
    generalize behind 93 r.data.toList = be at *
    cases t <;> cases u <;> cases bl
    all_goals
      go_enter Tryz.func25, Tryz.ntmps25
      go_wp2_with (first
        | (go_at_call 17; refine HC.out.mono ?_; rintro x w1 ⟨rfl, hw⟩; obtain rfl := hw.symm)
        | (go_at_call 29; refine HK.out.mono ?_; rintro x w2 ⟨rfl, hb⟩; have B1 := hide hb; clear hb)
        | (go_at_call 36; refine (HA.out _).mono ?_; rintro x w3 ⟨rfl, hw⟩; obtain rfl := hw.symm)
        | (go_at_call 38; refine (HQ.out _ (HN.out.below B1.out)).mono ?_; rintro x w4 ⟨rfl, hb⟩; have B3 := hide (keepD B1.out hb); clear hb))
      go_ret
      exact ⟨by rw [HS.out]; rfl, by first | exact B3.out | exact B1.out⟩

end Go.Proofs.YtmdjppjfjkgnpaaGreatDoor.tm
