import Derived.Test.YtdldhpncajelmaaDoorRefMeant
import Derived.Test.YtdldhpncajelmaaDoorRefHex
import Derived.Test.YtdldhpncajelmaaDoorRadixEq
namespace Go.Proofs.YtdldhpncajelmaaDoor.radw
open Go.ChangeShapes Go.WideShapes Go.ChangeAt Go.RowKit Go.Proofs.YtdldhpncajelmaaDoor.common

theorem bys_hex (s : ByteArray) : bys (Rad.nb (Rad.num Rad.hexT 16 s.data.toList) 4) (4 * s.size / 8) = Rad.unhex s.data.toList := by
  rw [← Rad.unhex_bits, len_list]; rfl

theorem str_eq (l : List UInt8) (s : ByteArray) (h : l = s.data.toList) : (⟨l.toArray⟩ : ByteArray) = s := by
  subst h; rfl
theorem str_ne (l : List UInt8) (s : ByteArray) (h : l ≠ s.data.toList) : (⟨l.toArray⟩ : ByteArray) ≠ s := by
  intro e; apply h; rw [← e]

theorem str_size (l : List UInt8) : (⟨l.toArray⟩ : ByteArray).size = l.length := by
  show l.toArray.size = _; simp

set_option maxHeartbeats 400000 in
theorem refUnHex_any (s : ByteArray) (w : World) (hs : s.size ≤ 1048576) :
    Calls Tryd.prog 17 #[.string s] w fun x w' => Below w.heap.size w w' ∧
      ((Rad.valid Rad.hexT 16 s.data.toList ∧ s.data.toList.length % 2 = 0 ∧ x = .returned (.tuple #[.string ⟨(Rad.unhex s.data.toList).toArray⟩, .int .i64 0])) ∨
        (¬ (Rad.valid Rad.hexT 16 s.data.toList ∧ s.data.toList.length % 2 = 0) ∧ x = .returned (.tuple #[.string ⟨#[]⟩, .int .i64 2]))) := by
  have HS := hide hs
  clear hs
  go_enter Tryd.func17, Tryd.ntmps17
  go_wp2_with fail
  refine (meant4_any s _ Rad.hexT Rad.hexGood rfl w (by have := HS.out; omega)).mono ?_
  rintro x w1 ⟨hb1, ⟨hval, rfl⟩ | ⟨hval, rfl⟩⟩
  · rw [bys_hex]
    have HB1 := hide hb1
    have HV := hide hval
    clear hb1 hval
    go_wp2_with fail
    refine (refHex_any ⟨(Rad.unhex s.data.toList).toArray⟩ w1 (by rw [str_size, Rad.unhex_len, len_list]; have := HS.out; omega)).mono ?_
    rintro x w2 ⟨rfl, hb2⟩
    have HB2 := hide (HB1.out.trans (hb2.mono HB1.out.size))
    clear hb2
    by_cases hev : s.data.toList.length % 2 = 0
    · have he := eq_list (str_eq (Rad.hex (Rad.unhex s.data.toList)) s (Rad.hex_unhex _ HV.out hev))
      have HEV := hide hev
      clear hev
      generalize (⟨(Rad.hex (Rad.unhex s.data.toList)).toArray⟩ : ByteArray) = Y at *
      go_wp2_with fail
      go_ret2
      exact ⟨HB2.out, Or.inl ⟨HV.out, HEV.out, rfl⟩⟩
    · have he := ne_list (str_ne (Rad.hex (Rad.unhex s.data.toList)) s (fun h => hev ((Rad.takenHex _).1 h).2))
      have HEV := hide hev
      clear hev
      generalize (⟨(Rad.hex (Rad.unhex s.data.toList)).toArray⟩ : ByteArray) = Y at *
      go_wp2_with fail
      go_ret2
      exact ⟨HB2.out, Or.inr ⟨fun h => HEV.out h.2, rfl⟩⟩
  · have HB1 := hide hb1
    have HV := hide hval
    clear hb1 hval
    go_wp2_with fail
    refine (refHex_any ⟨#[]⟩ w1 (by decide)).mono ?_
    rintro x w2 ⟨rfl, hb2⟩
    have HB2 := hide (HB1.out.trans (hb2.mono HB1.out.size))
    clear hb2
    go_wp2_with fail
    go_ret2
    exact ⟨HB2.out, Or.inr ⟨fun h => HV.out h.1, rfl⟩⟩

end Go.Proofs.YtdldhpncajelmaaDoor.radw
