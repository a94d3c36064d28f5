import Derived.Test.YtpfamgahnphceaaDoorRows
import Derived.Test.YtpfamgahnphceaaDoorCommon
import Derived.Test.YtpfamgahnphceaaDoorPkMath
import Derived.WalkKit
import Derived.WalkSpells
import Derived.WalkLawsBesides
import Derived.Outline
import Derived.Laws.BitsAllLaws
import Derived.Laws.IdiomStrings
namespace Go.Proofs.YtpfamgahnphceaaDoor.pk
open Go.ChangeShapes Go.WideShapes Go.ChangeAt Go.RowKit Go.Proofs.YtpfamgahnphceaaDoor.common

theorem pgetD (s : ByteArray) (k : Nat) (h : k < s.size) : s.data.toList.getD k 0 = s[k] := by
  have : k < s.data.toList.length := by simpa using h
  rw [List.getD_eq_getElem?_getD, List.getElem?_eq_getElem this]; rfl
theorem plen (s : ByteArray) : s.data.toList.length = s.size := by simp
theorem pext {a b : ByteArray} (h : a.data.toList = b.data.toList) : a = b := by
  apply ByteArray.ext; apply Array.toList_inj.1; exact h
theorem ptake (s : ByteArray) : s.data.toList.take s.size = s.data.toList := by rw [← plen s, List.take_length]

/-- two texts are the same -/
def sm (a b : ByteArray) : Bool := a.toList == b.toList
theorem sm_eq {a b : ByteArray} (h : a = b) : sm a b = true := by subst h; unfold sm; simp
theorem sm_ne {a b : ByteArray} (h : a ≠ b) : sm a b = false := by
  unfold sm
  rw [ByteArray.toList_eq, ByteArray.toList_eq]
  exact beq_false_of_ne fun e => h (pext e)
theorem sm_self (a : ByteArray) : sm a a = true := sm_eq rfl
theorem sm_comm (a b : ByteArray) : sm a b = sm b a := by
  by_cases h : a = b
  · rw [sm_eq h, sm_eq h.symm]
  · rw [sm_ne h, sm_ne fun e => h e.symm]
theorem bdN {b : Nat} {a c : World} (h : Below b a c) (n : Nat) : Below b a (c.drewN n) := ⟨h.1, h.2, h.3, h.4, h.5⟩

end Go.Proofs.YtpfamgahnphceaaDoor.pk
