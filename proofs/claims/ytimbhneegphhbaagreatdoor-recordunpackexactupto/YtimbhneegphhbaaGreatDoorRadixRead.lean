import Derived.Test.YtimbhneegphhbaaGreatDoorRows
import Derived.Test.YtimbhneegphhbaaGreatDoorStrBase
import Derived.Test.YtimbhneegphhbaaGreatDoorRadixBack
import Derived.WalkKit
import Derived.WalkSpells
import Derived.WalkLawsBesides
import Derived.Outline
import Derived.Laws.BitsAllLaws
import Derived.Laws.IdiomStrings
import Derived.Deep.OwnRows
import Derived.Lib.LaidTab
import Derived.Deep.QuietTactic
import Derived.Deep.MidRow
import Derived.Deep.DrawnRows
namespace Go.Proofs.YtimbhneegphhbaaGreatDoor.radw
open Go.ChangeShapes Go.WideShapes Go.ChangeAt Go.RowKit Go.Proofs.YtimbhneegphhbaaGreatDoor.common

abbrev B (c : UInt8) : Value := .int .u8 (c.toNat : Int)

theorem info8 : (Tryz.prog.info? 5).map (fun i => (i.zero, i.size, i.bytes)) = some (some (.int .u8 0), 1, 1) := by kernel_rfl

/-- the bytes l lie at the head of the block g, which may be written -/
def Lay (w : World) (g : Nat) (l : List UInt8) : Prop := w.there g 0 l.length ∧ w.rangeAt g 0 (l.map B)

theorem Lay.cell {w : World} {g : Nat} {l : List UInt8} (h : Lay w g l) (i : Nat) (hi : i < l.length) : w.cell? ⟨g, i, none⟩ = some (B (l.getD i 0)) := by
  have := range_cell h.2 i (by simpa using hi)
  rw [Nat.zero_add] at this
  rw [this]; simp [hi]

theorem Lay.frozen {w : World} {g : Nat} {l : List UInt8} (h : Lay w g l) (i : Nat) (hi : i < l.length) : w.frozen? ⟨g, i, none⟩ = false := by
  simpa using (h.1 i hi).2

theorem Lay.set {w : World} {g : Nat} {l : List UInt8} (h : Lay w g l) (i : Nat) (hi : i < l.length) (c : UInt8) : Lay (w.setCell ⟨g, i, none⟩ (B c)) g (l.set i c) := by
  refine ⟨by rw [List.length_set]; exact there_set h.1 _ _, ?_⟩
  have := range_set h.2 i (by simpa using hi) (B c)
  rw [Nat.zero_add] at this
  rw [List.map_set]; exact this

theorem Lay.drew {w : World} {g : Nat} {l : List UInt8} (h : Lay w g l) : Lay w.drew g l := h
theorem Lay.drewN {w : World} {g : Nat} {l : List UInt8} (h : Lay w g l) (n : Nat) : Lay (w.drewN n) g l := h

theorem Lay.below {w w' : World} {b g : Nat} {l : List UInt8} (h : Lay w g l) (hb : Below b w w') (hg : g < b) : Lay w' g l := ⟨there_below h.1 hb hg, range_below h.2 hb hg⟩

theorem made_list (n : Nat) : (madeCells #[.int .u8 0] n).toList = (List.replicate n (0 : UInt8)).map B := by
  unfold madeCells
  simp only [List.map_replicate]
  apply List.ext_getElem
  · simp
  · intro i h1 h2
    simp [Nat.mod_one]

theorem lay_made (w : World) (n : Nat) (t : TypeId) : Lay (w.alloc (.cells (madeCells #[.int .u8 0] n) t)) w.heap.size (List.replicate n 0) := by
  refine ⟨there_new_at w _ _ _ _ rfl ?_, range_new_at w _ _ _ _ rfl (made_list n).symm⟩
  have := congrArg List.length (made_list n)
  simpa using this.symm

theorem Lay.conv {w : World} {g : Nat} {l : List UInt8} {n cap : Nat} (h : Lay w g l) (hn : l.length = n) :
    (convert 27 9 (.slice (some ⟨g, 0, none⟩) n cap)).run Tryz.prog w = .ok (.string ⟨l.toArray⟩) w := by
  subst hn
  refine run_convert_bytes_back (P := Tryz.prog) w 27 9 5 ⟨g, 0, none⟩ cap l Tryz.underlying27 Tryz.underlying5 Tryz.underlying9 ?_
  intro j hj
  rw [Addr.add_mid, Nat.zero_add, h.cell j hj]
  simp [hj]

/-- a table of letters lies in memory -/
def TabAt (g : Nat) (T : List UInt8) (w : World) : Prop := ∀ i : Nat, i < T.length → w.cell? ⟨g, i, none⟩ = some (B (T.getD i 0))

theorem TabAt.lt {g : Nat} {T : List UInt8} {w : World} (h : TabAt g T w) (h0 : 0 < T.length) : g < w.heap.size := World.block_lt_of_cell? w _ (h 0 h0)

theorem TabAt.below {g : Nat} {T : List UInt8} {w w' : World} {b : Nat} (h : TabAt g T w) (hb : Below b w w') (hB : g < b) : TabAt g T w' := fun i hi => by
  rw [← h i hi]; exact hb.cell hB

theorem getD_list (s : ByteArray) (k : Nat) (h : k < s.size) : s.data.toList.getD k 0 = s[k] := by
  have : k < s.data.toList.length := by simpa using h
  rw [List.getD_eq_getElem?_getD, List.getElem?_eq_getElem this]; rfl

theorem len_list (s : ByteArray) : s.data.toList.length = s.size := by simp

theorem g_at (s : ByteArray) (k : Nat) (h : k < s.size) : Rad.g s.data.toList k = s[k].toNat := by unfold Rad.g; rw [getD_list s k h]

theorem and_nat (x : UInt8) (m : Nat) (hm : m < 256) : bits .and .u8 (x.toNat : Int) (m : Int) = ((x.toNat &&& m : Nat) : Int) := u8_and_nat _ _ x.toNat_lt hm

/-- a list that is being written: its first k letters are f's -/
def upto (f : Nat → UInt8) (n k : Nat) : List UInt8 := (List.range n).map fun i => if i < k then f i else 0

theorem upto_len (f : Nat → UInt8) (n k : Nat) : (upto f n k).length = n := by simp [upto]
theorem upto_zero (f : Nat → UInt8) (n : Nat) : upto f n 0 = List.replicate n 0 := by
  apply Rad.list_eq
  · simp [upto]
  · intro i hi; rw [upto_len] at hi; unfold upto; rw [Rad.getD_map, if_pos hi]; simp [List.getD, hi]
theorem upto_all (f : Nat → UInt8) (n : Nat) : upto f n n = (List.range n).map f := by
  apply Rad.list_eq
  · simp [upto]
  · intro i hi; rw [upto_len] at hi; unfold upto; rw [Rad.getD_map, Rad.getD_map]; simp [hi]
theorem upto_set (f : Nat → UInt8) (n k : Nat) (hk : k < n) {c : UInt8} (hc : c = f k) : (upto f n k).set k c = upto f n (k + 1) := by
  subst hc
  apply Rad.list_eq
  · simp [upto]
  · intro i hi
    rw [List.length_set, upto_len] at hi
    have e : ((upto f n k).set k (f k)).getD i 0 = if i = k then f k else (upto f n k).getD i 0 := by
      rw [List.getD_eq_getElem?_getD, List.getElem?_set, upto_len]
      by_cases h : k = i
      · subst h; simp [hk]
      · rw [if_neg h, if_neg (fun h' => h h'.symm), List.getD_eq_getElem?_getD]
    rw [e]
    unfold upto
    rw [Rad.getD_map, Rad.getD_map, if_pos hi, if_pos hi]
    by_cases h : i = k
    · subst h; simp
    · rw [if_neg h]
      by_cases h2 : i < k
      · rw [if_pos h2, if_pos (by omega)]
      · rw [if_neg h2, if_neg (by omega)]

end Go.Proofs.YtimbhneegphhbaaGreatDoor.radw

namespace Go.Proofs.YtimbhneegphhbaaGreatDoor.radw
open Go.ChangeShapes Go.WideShapes Go.ChangeAt Go.RowKit Go.Proofs.YtimbhneegphhbaaGreatDoor.common

theorem cells8 : Tryz.prog.cellsOf 5 = 1 := by kernel_rfl

end Go.Proofs.YtimbhneegphhbaaGreatDoor.radw

namespace Go.Proofs.YtimbhneegphhbaaGreatDoor.radw
open Go.ChangeShapes Go.WideShapes Go.ChangeAt Go.RowKit Go.Proofs.YtimbhneegphhbaaGreatDoor.common
attribute [local go_sem ↓] Go.wp_at_zero Go.wp_at_succ

end Go.Proofs.YtimbhneegphhbaaGreatDoor.radw

namespace Go.Proofs.YtimbhneegphhbaaGreatDoor.radw
open Go.ChangeShapes Go.WideShapes Go.ChangeAt Go.RowKit Go.Proofs.YtimbhneegphhbaaGreatDoor.common
attribute [local go_sem ↓] Go.wp_at_zero Go.wp_at_succ

theorem or_add (a b i : Nat) (h : b < 2 ^ i) : a * 2 ^ i ||| b = a * 2 ^ i + b := by
  rw [← Nat.shiftLeft_eq, Nat.shiftLeft_add_eq_or_of_lt h]

theorem or_val (a b : Nat) (ha : a < 256) (hb : b < 256) : bits .or .u8 (a : Int) (b : Int) = ((a ||| b : Nat) : Int) := u8_or_nat a b ha hb

/-- two parts of a byte, put together -/
theorem or_at (a b i c : Nat) (x y : Int) (hi : i ≤ 8) (hx : x = ((a * 2 ^ i : Nat) : Int)) (hy : y = (b : Int)) (h : b < 2 ^ i) (ha : a * 2 ^ i < 256) (hc : c = a * 2 ^ i + b) : bits .or .u8 x y = (c : Int) := by
  subst hx hy hc
  have hb : b < 256 := Nat.lt_of_lt_of_le h (Nat.pow_le_pow_right (n := 2) (j := 8) (by decide) hi)
  rw [or_val _ _ ha hb, or_add a b i h]
theorem upto_getD (f : Nat → UInt8) (n k i : Nat) : (upto f n k).getD i 0 = if i < n then (if i < k then f i else 0) else 0 := by unfold upto; rw [Rad.getD_map]
theorem set_getD (l : List UInt8) (i j : Nat) (c : UInt8) (hi : i < l.length) : (l.set i c).getD j 0 = if j = i then c else l.getD j 0 := by
  rw [List.getD_eq_getElem?_getD, List.getElem?_set]
  by_cases h : i = j
  · subst h; simp [hi]
  · rw [if_neg h, if_neg (fun h' => h h'.symm), List.getD_eq_getElem?_getD]

theorem fill1 (f : Nat → UInt8) (o : Nat) : ((upto f (o + 2) o).set (o + 1) (f (o + 1))).set o (f o) = upto f (o + 2) (o + 2) := by
  apply Rad.list_eq
  · simp [upto_len]
  · intro i hi
    simp only [List.length_set, upto_len] at hi
    rw [set_getD _ _ _ _ (by simp [upto_len]), set_getD _ _ _ _ (by simp [upto_len]), upto_getD, upto_getD]
    by_cases h0 : i = o
    · subst h0; simp
    · by_cases h1 : i = o + 1
      · subst h1; simp
      · rw [if_neg h0, if_neg h1, if_pos (by omega), if_pos (by omega), if_pos (by omega), if_pos (by omega)]

end Go.Proofs.YtimbhneegphhbaaGreatDoor.radw

namespace Go.Proofs.YtimbhneegphhbaaGreatDoor.radw
open Go.ChangeShapes Go.WideShapes Go.ChangeAt Go.RowKit Go.Proofs.YtimbhneegphhbaaGreatDoor.common
attribute [local go_sem ↓] Go.wp_at_zero Go.wp_at_succ

/-- a reading, of the first k letters of a table -/
def rdT (T : List UInt8) (k : Nat) : List UInt8 := (List.range 256).map fun c => UInt8.ofNat (Rad.rd T k (UInt8.ofNat c))
theorem rdT_len (T : List UInt8) (k : Nat) : (rdT T k).length = 256 := by unfold rdT; rw [List.length_map, List.length_range]
theorem rdT_zero (T : List UInt8) : rdT T 0 = List.replicate 256 0 := by
  apply Rad.list_eq
  · rw [rdT_len, List.length_replicate]
  · intro i hi; rw [rdT_len] at hi; unfold rdT; rw [Rad.getD_map, if_pos hi, List.getD_eq_getElem?_getD, List.getElem?_replicate, if_pos hi]; rfl
theorem rdT_set (T : List UInt8) (k : Nat) : (rdT T k).set (T.getD k 0).toNat (UInt8.ofNat (k + 1)) = rdT T (k + 1) := by
  apply Rad.list_eq
  · rw [List.length_set, rdT_len, rdT_len]
  · intro i hi
    rw [List.length_set, rdT_len] at hi
    rw [set_getD _ _ _ _ (by rw [rdT_len]; exact (T.getD k 0).toNat_lt)]
    unfold rdT
    rw [Rad.getD_map, Rad.getD_map, if_pos hi, if_pos hi]
    by_cases h : i = (T.getD k 0).toNat
    · rw [if_pos h]
      have : T.getD k 0 = UInt8.ofNat i := by rw [h]; exact UInt8.ofNat_toNat.symm
      unfold Rad.rd
      rw [if_pos this]
    · rw [if_neg h]
      have : ¬ T.getD k 0 = UInt8.ofNat i := by
        intro e
        apply h
        rw [e, Rad.toNat_of hi]
      conv => rhs; unfold Rad.rd
      rw [if_neg this]
theorem rdT_at (T : List UInt8) (k : Nat) (c : UInt8) : (rdT T k).getD c.toNat 0 = UInt8.ofNat (Rad.rd T k c) := by
  unfold rdT
  rw [Rad.getD_map, if_pos c.toNat_lt, UInt8.ofNat_toNat]

theorem size256 : (Tryz.prog.info? 119).map (·.size) = some 256 := by kernel_rfl

def zero256 : Array Value := (List.replicate 256 (Value.int .u8 0)).toArray
theorem zero256_run (w : World) : (zeroValue 119).run Tryz.prog w = .ok (.agg zero256) w := by kernel_rfl

end Go.Proofs.YtimbhneegphhbaaGreatDoor.radw
