import Derived.Test.YtdkbjefphihplacDoorPadW
import Derived.Test.YtdkbjefphihplacDoorUrlParts
namespace Go.Proofs.YtdkbjefphihplacDoor.radw
open Go.ChangeShapes Go.WideShapes Go.ChangeAt Go.RowKit Go.Proofs.YtdkbjefphihplacDoor.common

theorem std_string (l : List UInt8) (r : Nat) (h : Rad.n6 l.length % 4 = r) : (⟨(Rad.std l).toArray⟩ : ByteArray) = ⟨(Rad.b64 Rad.stdT l).toArray⟩ ++ ⟨(List.replicate ((4 - r) % 4) 61).toArray⟩ := by
  unfold Rad.std
  rw [pad_of _ r h]
  apply ByteArray.ext
  simp

set_option maxRecDepth 100000 in
set_option maxHeartbeats 400000 in
theorem refStd_any (s : ByteArray) (w : World) (hs : s.size ≤ 1048576) :
    Calls Tryd.prog 42 #[.string s] w fun e w' => e = .returned (.string ⟨(Rad.std s.data.toList).toArray⟩) ∧ Below w.heap.size w w' := by
  have HS := hide hs
  clear hs
  go_enter Tryd.func42, Tryd.ntmps42
  go_wp2_with fail
  refine (bits_any s w HS.out).mono ?_
  rintro e w1 ⟨v, rfl, hown, hb⟩
  have hI := Ints.of_own hown
  have HI := hide hI
  have HB := hide hb
  clear hown hI hb
  have hlen := hide (len_list s)
  go_wp2_with fail
  refine (letters6_any v (8 * s.size) (by have := HS.out; omega) (Rad.bit s.data.toList) (Rad.bit_lt _) (fun i hi => bit_out _ _ (by rw [hlen.out]; exact hi)) _ Rad.stdT rfl rfl w1 HI.out).mono ?_
  rintro e w2 ⟨rfl, hb2⟩
  have HB2 := hide (HB.out.trans (hb2.mono HB.out.size))
  clear hb2
  rw [lets_b64 _ _ _ hlen.out.symm]
  have hXs : (⟨(Rad.b64 Rad.stdT s.data.toList).toArray⟩ : ByteArray).size = Rad.n6 s.size := by
    show (Rad.b64 Rad.stdT s.data.toList).toArray.size = Rad.n6 s.size
    rw [List.size_toArray, Rad.b64_len, len_list]
  have hNle : Rad.n6 s.size ≤ 2097152 := by have := HS.out; unfold Rad.n6; omega
  have hr : Rad.n6 s.size % 4 = 0 ∨ Rad.n6 s.size % 4 = 2 ∨ Rad.n6 s.size % 4 = 3 := by unfold Rad.n6; omega
  rcases hr with h | h | h
  · have HE := hide (std_string s.data.toList 0 (by rw [len_list]; exact h))
    generalize (⟨(Rad.b64 Rad.stdT s.data.toList).toArray⟩ : ByteArray) = X at *
    generalize Rad.n6 s.size = N at *
    have e0 : (N : Int) % 4 = 0 := by omega
    go_wp2_with fail
    go_ret
    exact ⟨by rw [HE.out]; exact congrArg (fun x => Ending.returned (.string x)) (by apply ByteArray.ext; simp), HB2.out⟩
  · have HE := hide (std_string s.data.toList 2 (by rw [len_list]; exact h))
    generalize (⟨(Rad.b64 Rad.stdT s.data.toList).toArray⟩ : ByteArray) = X at *
    generalize Rad.n6 s.size = N at *
    have e0 : (N : Int) % 4 = 2 := by omega
    go_wp2_with fail
    go_ret
    exact ⟨by rw [HE.out]; rfl, HB2.out⟩
  · have HE := hide (std_string s.data.toList 3 (by rw [len_list]; exact h))
    generalize (⟨(Rad.b64 Rad.stdT s.data.toList).toArray⟩ : ByteArray) = X at *
    generalize Rad.n6 s.size = N at *
    have e0 : (N : Int) % 4 = 3 := by omega
    go_wp2_with fail
    go_ret
    exact ⟨by rw [HE.out]; rfl, HB2.out⟩

end Go.Proofs.YtdkbjefphihplacDoor.radw
