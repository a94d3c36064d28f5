import Derived.Test.YtdkbjefphihplacDoorJoinAll
import Derived.Test.YtdkbjefphihplacDoorReadStd
import Derived.Test.YtdkbjefphihplacDoorTrimWalks
import Derived.Test.YtdkbjefphihplacDoorRadixEq0
import Derived.Deep.RegionWith
namespace Go.Proofs.YtdkbjefphihplacDoor.radw
open Go.ChangeShapes Go.WideShapes Go.ChangeAt Go.RowKit Go.Proofs.YtdkbjefphihplacDoor.common
attribute [local go_sem ↓] Go.wp_at_zero Go.wp_at_succ

/-- the letters of a padded text, and what stands behind them -/
def lets0 (l : List UInt8) : List UInt8 := l.take (trimN l l.length)
def tail0 (l : List UInt8) : List UInt8 := l.drop (trimN l l.length)
def okStd (l : List UInt8) : Prop := tail0 l = Rad.pad (lets0 l).length ∧ Rad.valid Rad.stdT 64 (lets0 l) ∧ Rad.restOk Rad.stdT (lets0 l)

theorem lets0_len (l : List UInt8) : (lets0 l).length = trimN l l.length := by
  unfold lets0; rw [List.length_take]; have := trimN_le l l.length; omega

theorem ext_drop (s : ByteArray) (m : Nat) : (s.extract m s.size).data.toList = s.data.toList.drop m := by
  simp only [ByteArray.data_extract, Array.toList_extract, List.extract_eq_take_drop]
  rw [List.take_of_length_le]
  rw [List.length_drop, len_list]; omega

set_option maxRecDepth 100000 in
set_option maxHeartbeats 800000 in
theorem unstd_any (s : ByteArray) (w : World) (hs : s.size ≤ reachBytes) (ea : Addr) (he : Txt w ea) (ht : StdTab w) :
    Calls Tryd.prog 35 #[.string s] w fun x w' => Below w.heap.size w w' ∧
      ((okStd s.data.toList ∧ x = .returned (.tuple #[.string ⟨(Rad.un64 Rad.stdT (lets0 s.data.toList)).toArray⟩, .nilIface])) ∨
        (¬ okStd s.data.toList ∧ x = .returned (.tuple #[.string ⟨#[]⟩, X ea]))) := by
  have HS := hide hs
  have HE := hide he
  have HT := hide ht
  have HG := hide (ht.lt (by decide))
  clear he ht
  unfold reachBytes at hs
  go_enter Tryd.func35, Tryd.ntmps35
  go_wp2_with fail
  refine (trim_any s w HS.out).mono ?_
  rintro x w0 ⟨⟨t, rfl, htl⟩, rfl⟩
  have htl' : t.data.toList = lets0 s.data.toList := by unfold lets0; rw [htl, len_list]
  have htm : t.size = trimN s.data.toList s.data.toList.length := by rw [← len_list t, htl', lets0_len]
  have hle : t.size ≤ s.size := by rw [htm]; have := trimN_le s.data.toList s.data.toList.length; rw [len_list] at this ⊢; exact this
  have HTL := hide htl'
  have HTM := hide htm
  have hR : (s.extract t.size s.size).data.toList = tail0 s.data.toList := by rw [ext_drop]; unfold tail0; rw [HTM.out]
  have HP := hide (fun w1 => pad_any t.size w1 (by omega))
  have hle' : (t.size : Int) ≤ (s.size : Int) := by omega
  have HST : Hid (t.size ≤ reachBytes) := Nat.le_trans hle HS.out
  clear htl htl' htm
  by_cases hpd : tail0 s.data.toList = Rad.pad t.size
  · have hcmp := eq_list (a := s.extract t.size s.size) (b := ⟨(Rad.pad t.size).toArray⟩) (by apply ba_ext; rw [hR]; exact hpd)
    have HPD := hide hpd
    clear hR hpd
    generalize (⟨(Rad.pad t.size).toArray⟩ : ByteArray) = Z at *
    go_wp2_with fail
    go_region_with (go_at_call 53; refine (HP.out _).mono ?_; rintro e w' ⟨rfl, rfl⟩)
    all_goals
      go_wp2_with fail
      refine (stdReading_any w0.drew (HT.out.below (Below.refl _ _).drew HG.out)).mono ?_
      rintro x w1 ⟨rfl, hb1⟩
      have HB1 : Hid (Below w0.heap.size w0 w1) := (Below.refl _ _).drew.trans hb1
      clear hb1
      go_wp2_with fail
      refine (numbers_any Rad.stdT 64 (by decide) t w1 HST.out ea (HE.out.below HB1.out)).mono ?_
      rintro x w2 ⟨hb2, ⟨hval, rfl, hl⟩ | ⟨hval, rfl⟩⟩
      · have hg2 : w1.heap.size + 1 < w2.heap.size ∨ t.size = 0 := by
          by_cases h0 : t.size = 0
          · exact Or.inr h0
          · exact Or.inl (there_lt hl.1 (by simp; omega))
        have HB2 := hide (HB1.out.trans (hb2.mono HB1.out.size))
        have HVL := hide hval
        have HJ := hide (joinSixes_any Rad.stdT t (w1.heap.size + 1) HST.out w2 hg2 hl ea (HE.out.below HB2.out))
        clear hb2 hval HB1 hl hg2 hcmp
        generalize w1.heap.size + 1 = g at *
        go_wp2_with fail
        refine HJ.out.mono ?_
        rintro x w3 ⟨hb3, ⟨hr, rfl⟩ | ⟨hr, rfl⟩⟩
        · have HB3 := hide (HB2.out.trans (hb3.mono HB2.out.size))
          have HR := hide hr
          clear hb3 hr HJ
          go_wp2_with fail
          go_ret2
          refine ⟨HB3.out, Or.inl ⟨⟨?_, ?_, ?_⟩, ?_⟩⟩
          · rw [← HTL.out, len_list]; exact HPD.out
          · rw [← HTL.out]; exact HVL.out
          · rw [← HTL.out]; exact HR.out
          · rw [← HTL.out]; rfl
        · have HB3 := hide (HB2.out.trans (hb3.mono HB2.out.size))
          have HR := hide hr
          clear hb3 hr HJ
          go_wp2_with fail
          go_ret2
          exact ⟨HB3.out, Or.inr ⟨fun h => HR.out (by have := h.2.2; rw [← HTL.out] at this; exact this), rfl⟩⟩
      · have HB2 := hide (HB1.out.trans (hb2.mono HB1.out.size))
        have HVL := hide hval
        clear hb2 hval HB1 hcmp
        go_wp2_with fail
        go_ret2
        exact ⟨HB2.out, Or.inr ⟨fun h => HVL.out (by have := h.2.1; rw [← HTL.out] at this; exact this), rfl⟩⟩
  · have hcmp := ne_list (a := s.extract t.size s.size) (b := ⟨(Rad.pad t.size).toArray⟩) (fun h => hpd (by rw [← hR, h]))
    have HPD := hide hpd
    have ce : w0.cell? ⟨0, 0, none⟩ = some (X ea) := HE.out
    clear hR hpd
    generalize (⟨(Rad.pad t.size).toArray⟩ : ByteArray) = Z at *
    go_wp2_with fail
    go_region_with (go_at_call 53; refine (HP.out _).mono ?_; rintro e w' ⟨rfl, rfl⟩)
    all_goals
      go_wp2_with fail
      go_region
      go_wp2
      go_ret2
      exact ⟨(Below.refl _ _).drew.drew, Or.inr ⟨fun h => HPD.out (by have := h.1; rw [← HTL.out, len_list] at this; exact this), rfl⟩⟩

end Go.Proofs.YtdkbjefphihplacDoor.radw
