import Derived.Test.YtdldhpncajelmabDoorStdWalks
namespace Go.Proofs.YtdldhpncajelmabDoor.radw
open Go.ChangeShapes Go.WideShapes Go.ChangeAt Go.RowKit Go.Proofs.YtdldhpncajelmabDoor.common

theorem to_ba {a b : List UInt8} (h : (⟨a.toArray⟩ : ByteArray) = ⟨b.toArray⟩) : a = b := by
  have := congrArg (fun x : ByteArray => x.data.toList) h
  simpa using this

theorem ba_ext {a b : ByteArray} (h : a.data.toList = b.data.toList) : a = b := by
  apply ByteArray.ext; apply Array.toList_inj.1; exact h

/-- the three tables -/
structure Tabs (w : World) : Prop where
  url : UrlTab w
  std : StdTab w
  hex : HexTab w

theorem Tabs.below {w w' : World} {b : Nat} (h : Tabs w) (hb : Below b w w') (hw : w.heap.size ≤ b) : Tabs w' :=
  ⟨h.url.below hb (Nat.lt_of_lt_of_le (h.url.lt (by decide)) hw), h.std.below hb (Nat.lt_of_lt_of_le (h.std.lt (by decide)) hw), h.hex.below hb (Nat.lt_of_lt_of_le (h.hex.lt (by decide)) hw)⟩

theorem ne_list {a b : ByteArray} (h : a ≠ b) : (a.toList == b.toList) = false := by
  rw [ByteArray.toList_eq, ByteArray.toList_eq]
  exact beq_false_of_ne fun e => h (ba_ext e)
theorem eq_list {a b : ByteArray} (h : a = b) : (a.toList == b.toList) = true := by subst h; simp

end Go.Proofs.YtdldhpncajelmabDoor.radw
