import Derived.Test.YtgppnklildhmbaaDoorPkS256
import Derived.Test.YtgppnklildhmbaaDoorUnUrlWalks
namespace Go.Proofs.YtgppnklildhmbaaDoor.pk
open Go.ChangeShapes Go.WideShapes Go.ChangeAt Go.RowKit Go.Proofs.YtgppnklildhmbaaDoor.common

theorem txt_of_laid {W : World} {rest : List (String × DataW Unit)} (h : laidMet Tryd.prog (("usher/api.ErrText", Rows.laid_usher_api_ErrText) :: rest) W) : ∃ a, radw.Txt W a := by
  obtain ⟨ps, h0, hnd, hrows⟩ := h
  obtain ⟨a0, q0, c0, _, _⟩ := errw.peel h0 hrows errw.g1 errw.t1 Tryd.underlying30 errw.rowErr Tryd.underlying75 Tryd.underlying91 rfl rfl Tryd.underlying9 errw.cellsErr errw.cellsStr
  exact ⟨a0, c0⟩

set_option maxRecDepth 100000 in
set_option maxHeartbeats 1600000 in
theorem lawBound (s : ByteArray) (w : World) (hs : s.size ≤ reachBytes) (he : Env w) (ht : Tab w) (ea : Addr) (hx : radw.Txt w ea) :
    Calls Tryd.prog 5 #[.string s] w fun e w' => e = .returned (.bool true) ∧ Below w.heap.size w w' := by
  unfold reachBytes at hs
  obtain ⟨D, hD⟩ : ∃ D : ByteArray, (⟨(Sha.digest s.data.toList).toArray⟩ : ByteArray) = D := ⟨_, rfl⟩
  have hDl : D.data.toList = Sha.digest s.data.toList := by rw [← hD]
  have hDz : D.size = 32 := by rw [← hD, ba_size, digest_len]
  have hCz := ch_size s
  have H1 := hide (s256_any s w (by omega) he)
  have H2 : Hid (∀ W, Below w.heap.size w W → Calls Tryd.prog 14 #[.string s] W fun e w' => e = .returned (.string D) ∧ Below W.heap.size W w') := fun W hW => by
    have := shaw.sha_any s W (by omega) (he.below hW).rw (he.below hW).fw
    rwa [hD] at this
  have H3 : Hid (∀ W, Below w.heap.size w W → Calls Tryd.prog 15 #[.string (ch s)] W fun e w' => e = .returned (.tuple #[.string D, .nilIface]) ∧ Below W.heap.size W w') := fun W hW => by
    refine (radw.unurl_any (ch s) W (by rw [ch_size]; decide) ea (hx.below hW) (he.below hW).url).mono ?_
    rintro x w' ⟨hb, ⟨_, rfl⟩ | ⟨hno, _⟩⟩
    · refine ⟨?_, hb⟩
      rw [ch_list, Rad.un64_b64 Rad.urlGood, hD]
    · exact absurd ⟨by rw [ch_list]; exact Rad.valid_b64 Rad.urlGood _, by rw [ch_list]; exact Rad.rest_b64 Rad.urlGood _⟩ hno
  have H4 : Hid (∀ W, Below w.heap.size w W → Calls Tryd.prog 10 #[.string (ch s)] W fun e w' => e = .returned (.bool true) ∧ w' = W) := fun W hW => by
    have := challenge_any (ch s) W (ht.below hW (Nat.le_refl _))
    rwa [ch_proof] at this
  have H5 : Hid (∀ W, Below w.heap.size w W → Calls Tryd.prog 16 #[.string D] W fun e w' => e = .returned (.string (ch s)) ∧ Below W.heap.size W w') := fun W hW => by
    have := radw.url_any D W (by rw [hDz]; decide) (he.below hW).url
    rw [hDl] at this
    exact this
  clear he ht hx hs hD hDl
  generalize ch s = C at *
  go_enter Tryd.func5, Tryd.ntmps5
  go_wp2_with fail
  refine H1.out.mono ?_
  rintro x w1 ⟨rfl, h1⟩
  have B1 := hide h1
  clear h1
  go_wp2_with fail
  refine (H2.out _ B1.out).mono ?_
  rintro x w2 ⟨rfl, h2⟩
  have B2 := hide (B1.out.trans (h2.mono B1.out.size))
  clear h2
  go_wp2_with fail
  refine (H3.out _ B2.out).mono ?_
  rintro x w3 ⟨rfl, h3⟩
  have B3 := hide (B2.out.trans (h3.mono B2.out.size))
  clear h3
  go_wp2_with fail
  refine (H4.out _ B3.out).mono ?_
  rintro x w4 ⟨rfl, h4⟩
  obtain rfl := h4.symm
  go_wp2_with fail
  refine (H5.out _ B3.out).mono ?_
  rintro x w5 ⟨rfl, h5⟩
  have B5 := hide (B3.out.trans (h5.mono B3.out.size))
  clear h5
  go_wp2
  go_ret
  exact ⟨by simp, B5.out⟩

end Go.Proofs.YtgppnklildhmbaaDoor.pk
