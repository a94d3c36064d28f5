import Derived.Test.YtdkbjefphihplabDoorJoinWalks2
namespace Go.Proofs.YtdkbjefphihplabDoor.radw
open Go.ChangeShapes Go.WideShapes Go.ChangeAt Go.RowKit Go.Proofs.YtdkbjefphihplabDoor.common

theorem joinSixes_any (T : List UInt8) (s : ByteArray) (g : Nat) (hs : s.size ≤ reachBytes) (w : World) (hgw : g < w.heap.size ∨ s.size = 0) (hl : Lay w g ((List.range s.size).map (numB T 64 s.data.toList))) (ea : Addr) (he : Txt w ea) :
    Calls Tryd.prog 115 #[.slice (some ⟨g, 0, none⟩) s.size s.size] w fun x w' => Below w.heap.size w w' ∧
      ((Rad.restOk T s.data.toList ∧ x = .returned (.tuple #[.string ⟨(Rad.un64 T s.data.toList).toArray⟩, .nilIface])) ∨ (¬ Rad.restOk T s.data.toList ∧ x = .returned (.tuple #[.string ⟨#[]⟩, X ea]))) := by
  unfold reachBytes at hs
  have hn := (len_list s).symm
  generalize s.size = n at *
  by_cases h : n = 4 * (n / 4)
  · generalize n / 4 = W at h
    subst h
    exact joinSixes_whole T s.data.toList W g hn hs w hgw hl ea he
  · exact joinSixes_rest T s.data.toList n g hn hs w hgw hl ea he (n / 4) (6 * n / 8) (by omega) (by omega) h

end Go.Proofs.YtdkbjefphihplabDoor.radw
