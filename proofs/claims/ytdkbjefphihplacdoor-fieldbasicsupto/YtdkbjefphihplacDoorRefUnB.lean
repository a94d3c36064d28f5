import Derived.Test.YtdkbjefphihplacDoorRefMeant6
import Derived.Test.YtdkbjefphihplacDoorRadixEq0
namespace Go.Proofs.YtdkbjefphihplacDoor.radw
open Go.ChangeShapes Go.WideShapes Go.ChangeAt Go.RowKit Go.Proofs.YtdkbjefphihplacDoor.common

theorem bys_64 (T : List UInt8) (s : ByteArray) : bys (Rad.nb (Rad.num T 64 s.data.toList) 6) (6 * s.size / 8) = Rad.un64 T s.data.toList := by
  rw [← Rad.un64_bits, len_list]; rfl

theorem str_eq (l : List UInt8) (s : ByteArray) (h : l = s.data.toList) : (⟨l.toArray⟩ : ByteArray) = s := by
  subst h; rfl
theorem str_ne (l : List UInt8) (s : ByteArray) (h : l ≠ s.data.toList) : (⟨l.toArray⟩ : ByteArray) ≠ s := by
  intro e; apply h; rw [← e]
theorem str_size (l : List UInt8) : (⟨l.toArray⟩ : ByteArray).size = l.length := by
  show l.toArray.size = _; simp

end Go.Proofs.YtdkbjefphihplacDoor.radw
