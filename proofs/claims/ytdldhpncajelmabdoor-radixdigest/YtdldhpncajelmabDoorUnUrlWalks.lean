import Derived.Test.YtdldhpncajelmabDoorJoinWalks2
import Derived.Test.YtdldhpncajelmabDoorReadUrl
import Derived.Test.YtdldhpncajelmabDoorUrlWalks
namespace Go.Proofs.YtdldhpncajelmabDoor.radw
open Go.ChangeShapes Go.WideShapes Go.ChangeAt Go.RowKit Go.Proofs.YtdldhpncajelmabDoor.common

theorem joinSixes_any (T : List UInt8) (s : ByteArray) (g : Nat) (hs : s.size ≤ reachBytes) (w : World) (hgw : g < w.heap.size ∨ s.size = 0) (hl : Lay w g ((List.range s.size).map (numB T 64 s.data.toList))) (ea : Addr) (he : Txt w ea) :
    Calls Tryd.prog 22 #[.slice (some ⟨g, 0, none⟩) s.size s.size] w fun x w' => Below w.heap.size w w' ∧
      ((Rad.restOk T s.data.toList ∧ x = .returned (.tuple #[.string ⟨(Rad.un64 T s.data.toList).toArray⟩, .nilIface])) ∨ (¬ Rad.restOk T s.data.toList ∧ x = .returned (.tuple #[.string ⟨#[]⟩, X ea]))) := by
  unfold reachBytes at hs
  have hn := (len_list s).symm
  generalize s.size = n at *
  by_cases h : n = 4 * (n / 4)
  · generalize n / 4 = W at h
    subst h
    exact joinSixes_whole T s.data.toList W g hn hs w hgw hl ea he
  · exact joinSixes_rest T s.data.toList n g hn hs w hgw hl ea he (n / 4) (6 * n / 8) (by omega) (by omega) h

set_option maxRecDepth 100000 in
set_option maxHeartbeats 800000 in
theorem unurl_any (s : ByteArray) (w : World) (hs : s.size ≤ reachBytes) (ea : Addr) (he : Txt w ea) (ht : UrlTab w) :
    Calls Tryd.prog 8 #[.string s] w fun x w' => Below w.heap.size w w' ∧
      (((Rad.valid Rad.urlT 64 s.data.toList ∧ Rad.restOk Rad.urlT s.data.toList) ∧ x = .returned (.tuple #[.string ⟨(Rad.un64 Rad.urlT s.data.toList).toArray⟩, .nilIface])) ∨
        (¬ (Rad.valid Rad.urlT 64 s.data.toList ∧ Rad.restOk Rad.urlT s.data.toList) ∧ x = .returned (.tuple #[.string ⟨#[]⟩, X ea]))) := by
  have HS := hide hs
  have HE := hide he
  have HT := hide ht
  clear he ht hs
  go_enter Tryd.func8, Tryd.ntmps8
  go_wp2_with fail
  refine (urlReading_any w HT.out).mono ?_
  rintro x w1 ⟨rfl, hb1⟩
  have HB1 := hide hb1
  clear hb1
  go_wp2_with fail
  refine (numbers_any Rad.urlT 64 (by decide) s w1 HS.out ea (HE.out.below HB1.out)).mono ?_
  rintro x w2 ⟨hb2, ⟨hval, rfl, hl⟩ | ⟨hval, rfl⟩⟩
  · have hg2 : w1.heap.size + 1 < w2.heap.size ∨ s.size = 0 := by
      by_cases h0 : s.size = 0
      · exact Or.inr h0
      · exact Or.inl (there_lt hl.1 (by simp; omega))
    have HB2 := hide (HB1.out.trans (hb2.mono HB1.out.size))
    have HVL := hide hval
    have HJ := hide (joinSixes_any Rad.urlT s (w1.heap.size + 1) HS.out w2 hg2 hl ea (HE.out.below HB2.out))
    clear hb2 hval HB1 hl hg2
    generalize w1.heap.size + 1 = g at *
    go_wp2_with fail
    refine HJ.out.mono ?_
    rintro x w3 ⟨hb3, ⟨hr, rfl⟩ | ⟨hr, rfl⟩⟩
    · have HB3 := hide (HB2.out.trans (hb3.mono HB2.out.size))
      have HR := hide hr
      clear hb3 hr HJ
      go_wp2_with fail
      go_ret2
      exact ⟨HB3.out, Or.inl ⟨⟨HVL.out, HR.out⟩, rfl⟩⟩
    · have HB3 := hide (HB2.out.trans (hb3.mono HB2.out.size))
      have HR := hide hr
      clear hb3 hr HJ
      go_wp2_with fail
      go_ret2
      exact ⟨HB3.out, Or.inr ⟨fun h => HR.out h.2, rfl⟩⟩
  · have HB2 := hide (HB1.out.trans (hb2.mono HB1.out.size))
    have HVL := hide hval
    clear hb2 hval HB1
    go_wp2_with fail
    go_ret2
    exact ⟨HB2.out, Or.inr ⟨fun h => HVL.out h.1, rfl⟩⟩

end Go.Proofs.YtdldhpncajelmabDoor.radw
