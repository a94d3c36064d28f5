import Derived.Test.YthobocfpfolhiaaDoorRows
import Derived.Test.YthobocfpfolhiaaDoorCrcWalks
namespace Go.Proofs.YthobocfpfolhiaaDoor.crcw
open Go.ChangeShapes Go.WideShapes Go.ChangeAt Go.RowKit

theorem gTab : Tryd.prog.globalNamed "usher/sums.crcSteps" = some 19 := by kernel_rfl
theorem gTabType : (Tryd.prog.globals[19]?).map (·.type) = some 66 := by kernel_rfl
theorem cellsT : Tryd.prog.cellsOf 66 = 16 := by kernel_rfl
theorem cellsE : Tryd.prog.cellsOf 25 = 1 := by kernel_rfl
theorem cellsGoing : Tryd.prog.cellsOf 30 = 3 := by kernel_rfl

theorem tab {W : World} {rest : List (String × DataW Unit)} (h : laidMet Tryd.prog (("usher/sums.crcSteps", Rows.laid_usher_sums_crcSteps) :: rest) W) : Tab W := by
  have t : Lib.TabIs Tryd.prog W "usher/sums.crcSteps" .u32 [0, 498536548, 997073096, 651767980, 1994146192, 1802195444, 1303535960, 1342533948, 3988292384, 4027552580, 3604390888, 3412177804, 2607071920, 2262029012, 2685067896, 3183342108] :=
    Lib.tabIs_of_head (rest := rest) gTab gTabType Tryd.underlying66 Tryd.underlying25 cellsE cellsT h
  intro i hi
  have h1 := t.cell gTab i (by simpa using hi)
  rw [h1]
  have e : ∀ k : Fin 16, ([0, 498536548, 997073096, 651767980, 1994146192, 1802195444, 1303535960, 1342533948, 3988292384, 4027552580, 3604390888, 3412177804, 2607071920, 2262029012, 2685067896, 3183342108] : List Int).getD k.val 0 = ((Crc.table.getD k.val 0#32).toNat : Int) := by decide
  rw [e ⟨i, hi⟩]

/-- the table's block is there -/
theorem Tab.lt {w : World} (h : Tab w) : 19 < w.heap.size := by
  have := h 0 (by decide)
  apply Decidable.byContradiction
  intro hn
  simp [World.cell?, Array.getElem?_eq_none (show w.heap.size ≤ 19 by omega)] at this

theorem Tab.below {w w' : World} {B : Nat} (h : Tab w) (hb : Below B w w') (hB : 19 < B) : Tab w' := fun i hi => by
  rw [← h i hi]
  exact hb.cell hB

theorem Tab.alloc {w : World} (h : Tab w) (o : Obj) : Tab (w.alloc o) := h.below ((Below.refl w.heap.size w).alloc (Nat.le_refl _) o) h.lt

theorem word_of {a : Int} (h : (Lit.int .u32 a).wf = true) : ∃ r : BitVec 32, a = (r.toNat : Int) := by
  have hb := bounds_u32 h
  refine ⟨BitVec.ofNat 32 a.toNat, ?_⟩
  rw [BitVec.toNat_ofNat]
  omega

theorem lawCrc (s : ByteArray) (w : World) (hs : s.size ≤ maxLen) (ht : Tab w) :
    Calls Tryd.prog 4 #[.string s] w fun e w' => e = .returned (.bool true) ∧ w' = w := by
  have HS := hide hs
  have HT := hide ht
  clear hs ht
  go_enter Tryd.func4, Tryd.ntmps4
  go_wp2_with (first | (go_at_call 9; refine (crc_any _ _ HS.out HT.out).mono ?_; rintro e w' ⟨rfl, rfl⟩) | (go_at_call 10; refine (refCrc_any _ _ HS.out).mono ?_; rintro e w' ⟨rfl, rfl⟩))
  go_ret
  exact ⟨rfl, rfl⟩

set_option maxHeartbeats 400000 in
theorem lawMore (r : BitVec 32) (a b : ByteArray) (w : World) (ha : a.size ≤ reachBytes) (hb : b.size ≤ reachBytes) (ht : Tab w) :
    Calls Tryd.prog 5 #[.agg #[V r, .string a, .string b]] w fun e w' => e = .returned (.bool true) ∧ Below w.heap.size w w' := by
  unfold reachBytes at ha hb
  have HA : Hid (a.size ≤ maxLen) := by show a.size ≤ maxLen; unfold maxLen; omega
  have HB : Hid (b.size ≤ maxLen) := by show b.size ≤ maxLen; unfold maxLen; omega
  have HC : Hid ((a ++ b).size ≤ maxLen) := by show (a ++ b).size ≤ maxLen; unfold maxLen; rw [ByteArray.size_append]; omega
  have HT := hide (ht.alloc (.cells #[V r, .string a, .string b] 30))
  have hcat := Crc.more_append r a.data.toList b.data.toList
  clear ht
  go_enter Tryd.func5, Tryd.ntmps5
  go_wp2_with fail
  refine (crcMore_any r a _ HA.out HT.out).mono ?_
  rintro e w' ⟨rfl, rfl⟩
  go_wp2_with fail
  refine (refMore_any r a _ HA.out).mono ?_
  rintro e w' ⟨rfl, rfl⟩
  go_wp2_with fail
  refine (crcMore_any _ b _ HB.out HT.out).mono ?_
  rintro e w' ⟨rfl, rfl⟩
  go_wp2_with fail
  refine (crcMore_any r (a ++ b) _ HC.out HT.out).mono ?_
  rintro e w' ⟨rfl, rfl⟩
  go_wp2_with fail
  refine (crcMore_any 0#32 a _ HA.out HT.out).mono ?_
  rintro e w' ⟨rfl, rfl⟩
  go_wp2_with fail
  refine (crc_any a _ HA.out HT.out).mono ?_
  rintro e w' ⟨rfl, rfl⟩
  go_wp2_with fail
  go_ret
  exact ⟨rfl, (Below.refl _ _).alloc (Nat.le_refl _) _⟩

end Go.Proofs.YthobocfpfolhiaaDoor.crcw
