import Derived.Test.YtkmhhodapnlkiaaDoorRows
import Derived.Test.YtkmhhodapnlkiaaDoorCommon
import Derived.Test.YtkmhhodapnlkiaaDoorRanges
import Derived.Test.YtkmhhodapnlkiaaDoorRadixBack
import Derived.WalkKit
import Derived.WalkSpells
import Derived.WalkLawsBesides
import Derived.Outline
import Derived.Laws.BitsAllLaws
import Derived.Laws.IdiomStrings
import Derived.Deep.OwnRows
namespace Go.Proofs.YtkmhhodapnlkiaaDoor.radw
open Go.ChangeShapes Go.WideShapes Go.ChangeAt Go.RowKit Go.Proofs.YtkmhhodapnlkiaaDoor.common

abbrev B (c : UInt8) : Value := .int .u8 (c.toNat : Int)

theorem info8 : (Tryd.prog.info? 5).map (fun i => (i.zero, i.size, i.bytes)) = some (some (.int .u8 0), 1, 1) := by kernel_rfl

/-- the bytes l lie at the head of the block g, which may be written -/
def Lay (w : World) (g : Nat) (l : List UInt8) : Prop := w.there g 0 l.length ∧ w.rangeAt g 0 (l.map B)

theorem Lay.cell {w : World} {g : Nat} {l : List UInt8} (h : Lay w g l) (i : Nat) (hi : i < l.length) : w.cell? ⟨g, i, none⟩ = some (B (l.getD i 0)) := by
  have := range_cell h.2 i (by simpa using hi)
  rw [Nat.zero_add] at this
  rw [this]; simp [hi]

theorem Lay.frozen {w : World} {g : Nat} {l : List UInt8} (h : Lay w g l) (i : Nat) (hi : i < l.length) : w.frozen? ⟨g, i, none⟩ = false := by
  simpa using (h.1 i hi).2

theorem Lay.set {w : World} {g : Nat} {l : List UInt8} (h : Lay w g l) (i : Nat) (hi : i < l.length) (c : UInt8) : Lay (w.setCell ⟨g, i, none⟩ (B c)) g (l.set i c) := by
  refine ⟨by rw [List.length_set]; exact there_set h.1 _ _, ?_⟩
  have := range_set h.2 i (by simpa using hi) (B c)
  rw [Nat.zero_add] at this
  rw [List.map_set]; exact this

theorem Lay.drew {w : World} {g : Nat} {l : List UInt8} (h : Lay w g l) : Lay w.drew g l := h
theorem Lay.drewN {w : World} {g : Nat} {l : List UInt8} (h : Lay w g l) (n : Nat) : Lay (w.drewN n) g l := h

theorem Lay.below {w w' : World} {b g : Nat} {l : List UInt8} (h : Lay w g l) (hb : Below b w w') (hg : g < b) : Lay w' g l := ⟨there_below h.1 hb hg, range_below h.2 hb hg⟩

theorem made_list (n : Nat) : (madeCells #[.int .u8 0] n).toList = (List.replicate n (0 : UInt8)).map B := by
  unfold madeCells
  simp only [List.map_replicate]
  apply List.ext_getElem
  · simp
  · intro i h1 h2
    simp [Nat.mod_one]

theorem lay_made (w : World) (n : Nat) (t : TypeId) : Lay (w.alloc (.cells (madeCells #[.int .u8 0] n) t)) w.heap.size (List.replicate n 0) := by
  refine ⟨there_new_at w _ _ _ _ rfl ?_, range_new_at w _ _ _ _ rfl (made_list n).symm⟩
  have := congrArg List.length (made_list n)
  simpa using this.symm

theorem Lay.conv {w : World} {g : Nat} {l : List UInt8} {n cap : Nat} (h : Lay w g l) (hn : l.length = n) :
    (convert 34 9 (.slice (some ⟨g, 0, none⟩) n cap)).run Tryd.prog w = .ok (.string ⟨l.toArray⟩) w := by
  subst hn
  refine run_convert_bytes_back (P := Tryd.prog) w 34 9 5 ⟨g, 0, none⟩ cap l Tryd.underlying34 Tryd.underlying5 Tryd.underlying9 ?_
  intro j hj
  rw [Addr.add_mid, Nat.zero_add, h.cell j hj]
  simp [hj]

/-- a table of letters lies in memory -/
def TabAt (g : Nat) (T : List UInt8) (w : World) : Prop := ∀ i : Nat, i < T.length → w.cell? ⟨g, i, none⟩ = some (B (T.getD i 0))

theorem TabAt.lt {g : Nat} {T : List UInt8} {w : World} (h : TabAt g T w) (h0 : 0 < T.length) : g < w.heap.size := World.block_lt_of_cell? w _ (h 0 h0)

theorem TabAt.below {g : Nat} {T : List UInt8} {w w' : World} {b : Nat} (h : TabAt g T w) (hb : Below b w w') (hB : g < b) : TabAt g T w' := fun i hi => by
  rw [← h i hi]; exact hb.cell hB

theorem getD_list (s : ByteArray) (k : Nat) (h : k < s.size) : s.data.toList.getD k 0 = s[k] := by
  have : k < s.data.toList.length := by simpa using h
  rw [List.getD_eq_getElem?_getD, List.getElem?_eq_getElem this]; rfl

theorem len_list (s : ByteArray) : s.data.toList.length = s.size := by simp

theorem g_at (s : ByteArray) (k : Nat) (h : k < s.size) : Rad.g s.data.toList k = s[k].toNat := by unfold Rad.g; rw [getD_list s k h]

theorem and_nat (x : UInt8) (m : Nat) (hm : m < 256) : bits .and .u8 (x.toNat : Int) (m : Int) = ((x.toNat &&& m : Nat) : Int) := u8_and_nat _ _ x.toNat_lt hm

/-- a list that is being written: its first k letters are f's -/
def upto (f : Nat → UInt8) (n k : Nat) : List UInt8 := (List.range n).map fun i => if i < k then f i else 0

theorem upto_len (f : Nat → UInt8) (n k : Nat) : (upto f n k).length = n := by simp [upto]
theorem upto_zero (f : Nat → UInt8) (n : Nat) : upto f n 0 = List.replicate n 0 := by
  apply Rad.list_eq
  · simp [upto]
  · intro i hi; rw [upto_len] at hi; unfold upto; rw [Rad.getD_map, if_pos hi]; simp [List.getD, hi]
theorem upto_all (f : Nat → UInt8) (n : Nat) : upto f n n = (List.range n).map f := by
  apply Rad.list_eq
  · simp [upto]
  · intro i hi; rw [upto_len] at hi; unfold upto; rw [Rad.getD_map, Rad.getD_map]; simp [hi]
theorem upto_set (f : Nat → UInt8) (n k : Nat) (hk : k < n) {c : UInt8} (hc : c = f k) : (upto f n k).set k c = upto f n (k + 1) := by
  subst hc
  apply Rad.list_eq
  · simp [upto]
  · intro i hi
    rw [List.length_set, upto_len] at hi
    have e : ((upto f n k).set k (f k)).getD i 0 = if i = k then f k else (upto f n k).getD i 0 := by
      rw [List.getD_eq_getElem?_getD, List.getElem?_set, upto_len]
      by_cases h : k = i
      · subst h; simp [hk]
      · rw [if_neg h, if_neg (fun h' => h h'.symm), List.getD_eq_getElem?_getD]
    rw [e]
    unfold upto
    rw [Rad.getD_map, Rad.getD_map, if_pos hi, if_pos hi]
    by_cases h : i = k
    · subst h; simp
    · rw [if_neg h]
      by_cases h2 : i < k
      · rw [if_pos h2, if_pos (by omega)]
      · rw [if_neg h2, if_neg (by omega)]

end Go.Proofs.YtkmhhodapnlkiaaDoor.radw
