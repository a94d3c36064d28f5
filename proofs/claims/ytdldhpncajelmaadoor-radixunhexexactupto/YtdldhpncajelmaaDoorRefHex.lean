import Derived.Test.YtdldhpncajelmaaDoorHexWalks
import Derived.Test.YtdldhpncajelmaaDoorRefLetters
import Derived.Test.YtdldhpncajelmaaDoorRadixTab
namespace Go.Proofs.YtdldhpncajelmaaDoor.radw
open Go.ChangeShapes Go.WideShapes Go.ChangeAt Go.RowKit Go.Proofs.YtdldhpncajelmaaDoor.common

theorem bit_out (l : List UInt8) (i : Nat) (h : 8 * l.length ≤ i) : Rad.bit l i = 0 := by
  unfold Rad.bit; rw [Rad.g_out (by omega)]; simp

theorem lets_hex (l : List UInt8) (n : Nat) (hn : n = l.length) : lets Rad.hexT (Rad.bit l) 4 ((8 * n + 3) / 4) = Rad.hex l := by
  subst hn
  unfold lets Rad.hex
  rw [show (8 * l.length + 3) / 4 = 2 * l.length by omega]
  congr 1
  funext m
  rw [Rad.four_bits]

theorem refHex_any (s : ByteArray) (w : World) (hs : s.size ≤ 1048576) :
    Calls Tryd.prog 10 #[.string s] w fun e w' => e = .returned (.string ⟨(Rad.hex s.data.toList).toArray⟩) ∧ Below w.heap.size w w' := by
  have HS := hide hs
  clear hs
  go_enter Tryd.func10, Tryd.ntmps10
  go_wp2_with fail
  refine (bits_any s w HS.out).mono ?_
  rintro e w1 ⟨v, rfl, hown, hb⟩
  have hI := Ints.of_own hown
  have HI := hide hI
  have HB := hide hb
  clear hown hI hb
  have hlen := hide (len_list s)
  go_wp2_with fail
  refine (letters4_any v (8 * s.size) (by have := HS.out; omega) (Rad.bit s.data.toList) (Rad.bit_lt _) (fun i hi => bit_out _ _ (by rw [hlen.out]; exact hi)) _ Rad.hexT rfl rfl w1 HI.out).mono ?_
  rintro e w2 ⟨rfl, hb2⟩
  have HB2 := hide (HB.out.trans (hb2.mono HB.out.size))
  clear hb2
  rw [lets_hex _ _ hlen.out.symm]
  go_wp2_with fail
  go_ret
  exact ⟨rfl, HB2.out⟩

end Go.Proofs.YtdldhpncajelmaaDoor.radw
