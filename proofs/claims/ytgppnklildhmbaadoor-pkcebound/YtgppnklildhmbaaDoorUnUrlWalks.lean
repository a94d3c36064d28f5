import Derived.Test.YtgppnklildhmbaaDoorJoinAll
import Derived.Test.YtgppnklildhmbaaDoorReadUrl
import Derived.Test.YtgppnklildhmbaaDoorUrlWalks
namespace Go.Proofs.YtgppnklildhmbaaDoor.radw
open Go.ChangeShapes Go.WideShapes Go.ChangeAt Go.RowKit Go.Proofs.YtgppnklildhmbaaDoor.common

set_option maxRecDepth 100000 in
set_option maxHeartbeats 800000 in
theorem unurl_any (s : ByteArray) (w : World) (hs : s.size ≤ reachBytes) (ea : Addr) (he : Txt w ea) (ht : UrlTab w) :
    Calls Tryd.prog 15 #[.string s] w fun x w' => Below w.heap.size w w' ∧
      (((Rad.valid Rad.urlT 64 s.data.toList ∧ Rad.restOk Rad.urlT s.data.toList) ∧ x = .returned (.tuple #[.string ⟨(Rad.un64 Rad.urlT s.data.toList).toArray⟩, .nilIface])) ∨
        (¬ (Rad.valid Rad.urlT 64 s.data.toList ∧ Rad.restOk Rad.urlT s.data.toList) ∧ x = .returned (.tuple #[.string ⟨#[]⟩, X ea]))) := by
  have HS := hide hs
  have HE := hide he
  have HT := hide ht
  clear he ht hs
  go_enter Tryd.func15, Tryd.ntmps15
  go_wp2_with fail
  refine (urlReading_any w HT.out).mono ?_
  rintro x w1 ⟨rfl, hb1⟩
  have HB1 := hide hb1
  clear hb1
  go_wp2_with fail
  refine (numbers_any Rad.urlT 64 (by decide) s w1 HS.out ea (HE.out.below HB1.out)).mono ?_
  rintro x w2 ⟨hb2, ⟨hval, rfl, hl⟩ | ⟨hval, rfl⟩⟩
  · have hg2 : w1.heap.size + 1 < w2.heap.size ∨ s.size = 0 := by
      by_cases h0 : s.size = 0
      · exact Or.inr h0
      · exact Or.inl (there_lt hl.1 (by simp; omega))
    have HB2 := hide (HB1.out.trans (hb2.mono HB1.out.size))
    have HVL := hide hval
    have HJ := hide (joinSixes_any Rad.urlT s (w1.heap.size + 1) HS.out w2 hg2 hl ea (HE.out.below HB2.out))
    clear hb2 hval HB1 hl hg2
    generalize w1.heap.size + 1 = g at *
    go_wp2_with fail
    refine HJ.out.mono ?_
    rintro x w3 ⟨hb3, ⟨hr, rfl⟩ | ⟨hr, rfl⟩⟩
    · have HB3 := hide (HB2.out.trans (hb3.mono HB2.out.size))
      have HR := hide hr
      clear hb3 hr HJ
      go_wp2_with fail
      go_ret2
      exact ⟨HB3.out, Or.inl ⟨⟨HVL.out, HR.out⟩, rfl⟩⟩
    · have HB3 := hide (HB2.out.trans (hb3.mono HB2.out.size))
      have HR := hide hr
      clear hb3 hr HJ
      go_wp2_with fail
      go_ret2
      exact ⟨HB3.out, Or.inr ⟨fun h => HR.out h.2, rfl⟩⟩
  · have HB2 := hide (HB1.out.trans (hb2.mono HB1.out.size))
    have HVL := hide hval
    clear hb2 hval HB1
    go_wp2_with fail
    go_ret2
    exact ⟨HB2.out, Or.inr ⟨fun h => HVL.out h.1, rfl⟩⟩

end Go.Proofs.YtgppnklildhmbaaDoor.radw
