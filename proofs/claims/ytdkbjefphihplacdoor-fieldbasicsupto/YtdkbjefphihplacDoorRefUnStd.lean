import Derived.Test.YtdkbjefphihplacDoorRefUnB
import Derived.Test.YtdkbjefphihplacDoorRefStd
import Derived.Test.YtdkbjefphihplacDoorUnStdWalks
namespace Go.Proofs.YtdkbjefphihplacDoor.radw
open Go.ChangeShapes Go.WideShapes Go.ChangeAt Go.RowKit Go.Proofs.YtdkbjefphihplacDoor.common

theorem mem_drop61 (l : List UInt8) (m : Nat) (h : ∀ i, m ≤ i → i < l.length → l.getD i 0 = 61) : ∀ c ∈ l.drop m, c = 61 := by
  intro c hc
  obtain ⟨i, hi, rfl⟩ := List.getElem_of_mem hc
  rw [List.length_drop] at hi
  have := h (m + i) (by omega) (by omega)
  rw [List.getD_eq_getElem?_getD, List.getElem?_eq_getElem (by omega)] at this
  rw [List.getElem_drop]
  simpa using this

theorem parts (l : List UInt8) : lets0 l ++ tail0 l = l := List.take_append_drop _ _
theorem tail61 (l : List UInt8) : ∀ c ∈ tail0 l, c = 61 := mem_drop61 l _ fun i h1 h2 => trimN_all l l.length i h1 h2

theorem okStd_iff (l : List UInt8) (hv : Rad.valid Rad.stdT 64 (lets0 l)) : Rad.std (Rad.un64 Rad.stdT (lets0 l)) = l ↔ okStd l := by
  have h := Rad.takenStd (lets0 l) (tail0 l) hv (tail61 l)
  rw [parts] at h
  rw [h]
  exact ⟨fun ⟨a, b⟩ => ⟨a, hv, b⟩, fun ⟨a, _, b⟩ => ⟨a, b⟩⟩

set_option maxRecDepth 100000 in
set_option maxHeartbeats 800000 in
theorem refUnStd_any (s : ByteArray) (w : World) (hs : s.size ≤ 1048576) :
    Calls Tryd.prog 20 #[.string s] w fun x w' => Below w.heap.size w w' ∧
      ((okStd s.data.toList ∧ x = .returned (.tuple #[.string ⟨(Rad.un64 Rad.stdT (lets0 s.data.toList)).toArray⟩, .int .i64 0])) ∨
        (¬ okStd s.data.toList ∧ x = .returned (.tuple #[.string ⟨#[]⟩, .int .i64 2]))) := by
  have HS := hide hs
  go_enter Tryd.func20, Tryd.ntmps20
  go_wp2_with fail
  go_loop [4] (fun v => ∃ k : Nat, k ≤ s.size ∧ v = .int .i64 k ∧ trimN s.data.toList s.size = trimN s.data.toList k) (fun v => (intOf v).toNat)
  case atStart => exact ⟨s.size, Nat.le_refl _, rfl, rfl⟩
  case round =>
    obtain ⟨k, hk, rfl, htr⟩ := hrel
    have HTR := hide htr
    clear htr
    by_cases hgo : 0 < k ∧ s.data.toList.getD (k - 1) 0 = 61
    · obtain ⟨k, rfl⟩ : ∃ j, k = j + 1 := ⟨k - 1, by omega⟩
      have h2 := hgo.2
      rw [Nat.add_sub_cancel] at h2
      have HNX : Hid (trimN s.data.toList (k + 1) = trimN s.data.toList k) := by
        show _ = _
        conv => lhs; unfold trimN
        rw [if_pos h2]
      rw [getD_list s k (by omega)] at h2
      have he' : (s[k].toNat : Int) = 61 := by rw [h2]; rfl
      have hki : (k : Int) < (s.size : Int) := by omega
      clear hgo h2
      go_wp2
      go_round
      case rel => exact ⟨k, by omega, by go_num, by rw [HTR.out, HNX.out]⟩
      case measure => simp [intOf]
    · have HK : Hid (trimN s.data.toList s.size = k) := by
        show _ = _
        rw [HTR.out]
        cases k with
        | zero => rfl
        | succ k =>
          unfold trimN
          rw [if_neg fun h => hgo ⟨by omega, by simpa using h⟩]
      have HX : Hid ((s.extract 0 k).data.toList = lets0 s.data.toList) := by
        show _ = _
        rw [take_list, ← HK.out]; unfold lets0; rw [len_list]
      have hxs : (s.extract 0 k).size = k := by rw [ByteArray.size_extract]; omega
      have HXS := hide hxs
      have HM := hide (fun w1 => meant6_any (s.extract 0 k) ⟨#[65, 66, 67, 68, 69, 70, 71, 72, 73, 74, 75, 76, 77, 78, 79, 80, 81, 82, 83, 84, 85, 86, 87, 88, 89, 90, 97, 98, 99, 100, 101, 102, 103, 104, 105, 106, 107, 108, 109, 110, 111, 112, 113, 114, 115, 116, 117, 118, 119, 120, 121, 122, 48, 49, 50, 51, 52, 53, 54, 55, 56, 57, 43, 47]⟩ Rad.stdT Rad.stdGood rfl w1 (by omega))
      have hki : (k : Int) ≤ (s.size : Int) := by omega
      clear hxs
      have hstop : k = 0 ∨ (∃ j, k = j + 1 ∧ j < s.size ∧ s.data.toList.getD j 0 ≠ 61) := by
        cases k with
        | zero => exact Or.inl rfl
        | succ k => exact Or.inr ⟨k, rfl, by omega, fun h => hgo ⟨by omega, by simpa using h⟩⟩
      clear hgo
      have HEND : Hid (∀ w1 : World, Calls Tryd.prog 41 #[.string (s.extract 0 k), .int .i64 6, .string ⟨#[65, 66, 67, 68, 69, 70, 71, 72, 73, 74, 75, 76, 77, 78, 79, 80, 81, 82, 83, 84, 85, 86, 87, 88, 89, 90, 97, 98, 99, 100, 101, 102, 103, 104, 105, 106, 107, 108, 109, 110, 111, 112, 113, 114, 115, 116, 117, 118, 119, 120, 121, 122, 48, 49, 50, 51, 52, 53, 54, 55, 56, 57, 43, 47]⟩] w1 fun e w' => Below w1.heap.size w1 w' ∧
          ((Rad.valid Rad.stdT 64 (lets0 s.data.toList) ∧ e = .returned (.tuple #[.string ⟨(Rad.un64 Rad.stdT (lets0 s.data.toList)).toArray⟩, .bool true])) ∨
            (¬ Rad.valid Rad.stdT 64 (lets0 s.data.toList) ∧ e = .returned (.tuple #[.string ⟨#[]⟩, .bool false])))) := by
        intro w1
        have := HM.out w1
        rw [bys_64, HX.out] at this
        exact this
      have HLS : Hid (Rad.n8 (lets0 s.data.toList).length ≤ 1048576) := by
        show _ ≤ _
        rw [← HX.out, len_list, HXS.out]; have := HS.out; unfold Rad.n8; omega
      have HIFF := hide (okStd_iff s.data.toList)
      clear HM HX HXS HK HTR
      rcases hstop with h0 | ⟨j, hj, hjs, hne⟩
      · subst h0
        have e0 : s.extract 0 0 = ByteArray.empty := by apply ByteArray.ext; simp
        rw [e0] at HEND
        clear e0
        go_wp2_with fail
        refine (HEND.out _).mono ?_
        rintro x w1 ⟨hb1, ⟨hval, rfl⟩ | ⟨hval, rfl⟩⟩
        · have HB1 := hide hb1
          have HV := hide hval
          clear hb1 hval HEND
          go_wp2_with fail
          refine (refStd_any ⟨(Rad.un64 Rad.stdT (lets0 s.data.toList)).toArray⟩ w1 (by rw [str_size, Rad.un64_len]; exact HLS.out)).mono ?_
          rintro x w2 ⟨rfl, hb2⟩
          have HB2 := hide (HB1.out.trans (hb2.mono HB1.out.size))
          clear hb2
          by_cases hev : okStd s.data.toList
          · have he := eq_list (str_eq (Rad.std (Rad.un64 Rad.stdT (lets0 s.data.toList))) s ((HIFF.out HV.out).2 hev))
            have HEV := hide hev
            clear hev
            generalize (⟨(Rad.std (Rad.un64 Rad.stdT (lets0 s.data.toList))).toArray⟩ : ByteArray) = Y at *
            go_wp2_with fail
            go_ret2
            exact ⟨HB2.out, Or.inl ⟨HEV.out, rfl⟩⟩
          · have he := ne_list (str_ne (Rad.std (Rad.un64 Rad.stdT (lets0 s.data.toList))) s (fun h => hev ((HIFF.out HV.out).1 h)))
            have HEV := hide hev
            clear hev
            generalize (⟨(Rad.std (Rad.un64 Rad.stdT (lets0 s.data.toList))).toArray⟩ : ByteArray) = Y at *
            go_wp2_with fail
            go_ret2
            exact ⟨HB2.out, Or.inr ⟨HEV.out, rfl⟩⟩
        · have HB1 := hide hb1
          have HV := hide hval
          clear hb1 hval HEND
          go_wp2_with fail
          refine (refStd_any ⟨#[]⟩ w1 (by decide)).mono ?_
          rintro x w2 ⟨rfl, hb2⟩
          have HB2 := hide (HB1.out.trans (hb2.mono HB1.out.size))
          clear hb2
          go_wp2_with fail
          go_ret2
          exact ⟨HB2.out, Or.inr ⟨fun h => HV.out h.2.1, rfl⟩⟩
      · subst hj
        rw [getD_list s j hjs] at hne
        have he' : ((s[j].toNat : Int) == 61) = false := beq_false_of_ne fun h => hne (UInt8.toNat_inj.1 (by show s[j].toNat = 61; omega))
        have hji : (j : Int) < (s.size : Int) := by omega
        clear hne
        go_wp2_with fail
        refine (HEND.out _).mono ?_
        rintro x w1 ⟨hb1, ⟨hval, rfl⟩ | ⟨hval, rfl⟩⟩
        · have HB1 := hide hb1
          have HV := hide hval
          clear hb1 hval HEND
          go_wp2_with fail
          refine (refStd_any ⟨(Rad.un64 Rad.stdT (lets0 s.data.toList)).toArray⟩ w1 (by rw [str_size, Rad.un64_len]; exact HLS.out)).mono ?_
          rintro x w2 ⟨rfl, hb2⟩
          have HB2 := hide (HB1.out.trans (hb2.mono HB1.out.size))
          clear hb2
          by_cases hev : okStd s.data.toList
          · have he := eq_list (str_eq (Rad.std (Rad.un64 Rad.stdT (lets0 s.data.toList))) s ((HIFF.out HV.out).2 hev))
            have HEV := hide hev
            clear hev
            generalize (⟨(Rad.std (Rad.un64 Rad.stdT (lets0 s.data.toList))).toArray⟩ : ByteArray) = Y at *
            go_wp2_with fail
            go_ret2
            exact ⟨HB2.out, Or.inl ⟨HEV.out, rfl⟩⟩
          · have he := ne_list (str_ne (Rad.std (Rad.un64 Rad.stdT (lets0 s.data.toList))) s (fun h => hev ((HIFF.out HV.out).1 h)))
            have HEV := hide hev
            clear hev
            generalize (⟨(Rad.std (Rad.un64 Rad.stdT (lets0 s.data.toList))).toArray⟩ : ByteArray) = Y at *
            go_wp2_with fail
            go_ret2
            exact ⟨HB2.out, Or.inr ⟨HEV.out, rfl⟩⟩
        · have HB1 := hide hb1
          have HV := hide hval
          clear hb1 hval HEND
          go_wp2_with fail
          refine (refStd_any ⟨#[]⟩ w1 (by decide)).mono ?_
          rintro x w2 ⟨rfl, hb2⟩
          have HB2 := hide (HB1.out.trans (hb2.mono HB1.out.size))
          clear hb2
          go_wp2_with fail
          go_ret2
          exact ⟨HB2.out, Or.inr ⟨fun h => HV.out h.2.1, rfl⟩⟩

end Go.Proofs.YtdkbjefphihplacDoor.radw
