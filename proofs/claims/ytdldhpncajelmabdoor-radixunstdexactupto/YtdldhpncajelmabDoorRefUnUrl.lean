import Derived.Test.YtdldhpncajelmabDoorRefMeant6
import Derived.Test.YtdldhpncajelmabDoorUrlWalks
import Derived.Test.YtdldhpncajelmabDoorRadixEq
namespace Go.Proofs.YtdldhpncajelmabDoor.radw
open Go.ChangeShapes Go.WideShapes Go.ChangeAt Go.RowKit Go.Proofs.YtdldhpncajelmabDoor.common

theorem bys_64 (T : List UInt8) (s : ByteArray) : bys (Rad.nb (Rad.num T 64 s.data.toList) 6) (6 * s.size / 8) = Rad.un64 T s.data.toList := by
  rw [← Rad.un64_bits, len_list]; rfl

theorem str_eq (l : List UInt8) (s : ByteArray) (h : l = s.data.toList) : (⟨l.toArray⟩ : ByteArray) = s := by
  subst h; rfl
theorem str_ne (l : List UInt8) (s : ByteArray) (h : l ≠ s.data.toList) : (⟨l.toArray⟩ : ByteArray) ≠ s := by
  intro e; apply h; rw [← e]
theorem str_size (l : List UInt8) : (⟨l.toArray⟩ : ByteArray).size = l.length := by
  show l.toArray.size = _; simp

set_option maxRecDepth 100000 in
set_option maxHeartbeats 400000 in
theorem refUnUrl_any (s : ByteArray) (w : World) (hs : s.size ≤ 1048576) :
    Calls Tryd.prog 9 #[.string s] w fun x w' => Below w.heap.size w w' ∧
      (((Rad.valid Rad.urlT 64 s.data.toList ∧ Rad.restOk Rad.urlT s.data.toList) ∧ x = .returned (.tuple #[.string ⟨(Rad.un64 Rad.urlT s.data.toList).toArray⟩, .int .i64 0])) ∨
        (¬ (Rad.valid Rad.urlT 64 s.data.toList ∧ Rad.restOk Rad.urlT s.data.toList) ∧ x = .returned (.tuple #[.string ⟨#[]⟩, .int .i64 2]))) := by
  have HS := hide hs
  clear hs
  go_enter Tryd.func9, Tryd.ntmps9
  go_wp2_with fail
  refine (meant6_any s _ Rad.urlT Rad.urlGood rfl w (by have := HS.out; omega)).mono ?_
  rintro x w1 ⟨hb1, ⟨hval, rfl⟩ | ⟨hval, rfl⟩⟩
  · rw [bys_64]
    have HB1 := hide hb1
    have HV := hide hval
    clear hb1 hval
    go_wp2_with fail
    refine (refUrl_any ⟨(Rad.un64 Rad.urlT s.data.toList).toArray⟩ w1 (by rw [str_size, Rad.un64_len, len_list]; have := HS.out; unfold Rad.n8; omega)).mono ?_
    rintro x w2 ⟨rfl, hb2⟩
    have HB2 := hide (HB1.out.trans (hb2.mono HB1.out.size))
    clear hb2
    by_cases hev : Rad.restOk Rad.urlT s.data.toList
    · have he := eq_list (str_eq (Rad.b64 Rad.urlT (Rad.un64 Rad.urlT s.data.toList)) s (Rad.b64_un64 _ _ HV.out hev))
      have HEV := hide hev
      clear hev
      generalize (⟨(Rad.b64 Rad.urlT (Rad.un64 Rad.urlT s.data.toList)).toArray⟩ : ByteArray) = Y at *
      go_wp2_with fail
      go_ret2
      exact ⟨HB2.out, Or.inl ⟨⟨HV.out, HEV.out⟩, rfl⟩⟩
    · have he := ne_list (str_ne (Rad.b64 Rad.urlT (Rad.un64 Rad.urlT s.data.toList)) s (fun h => hev ((Rad.taken64 Rad.urlGood _).1 h).2))
      have HEV := hide hev
      clear hev
      generalize (⟨(Rad.b64 Rad.urlT (Rad.un64 Rad.urlT s.data.toList)).toArray⟩ : ByteArray) = Y at *
      go_wp2_with fail
      go_ret2
      exact ⟨HB2.out, Or.inr ⟨fun h => HEV.out h.2, rfl⟩⟩
  · have HB1 := hide hb1
    have HV := hide hval
    clear hb1 hval
    go_wp2_with fail
    refine (refUrl_any ⟨#[]⟩ w1 (by decide)).mono ?_
    rintro x w2 ⟨rfl, hb2⟩
    have HB2 := hide (HB1.out.trans (hb2.mono HB1.out.size))
    clear hb2
    go_wp2_with fail
    go_ret2
    exact ⟨HB2.out, Or.inr ⟨fun h => HV.out h.1, rfl⟩⟩

end Go.Proofs.YtdldhpncajelmabDoor.radw
