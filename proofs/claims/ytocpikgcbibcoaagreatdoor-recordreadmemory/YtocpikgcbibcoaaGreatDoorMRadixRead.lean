import Derived.Test.YtocpikgcbibcoaaGreatDoorRows
import Derived.Test.YtocpikgcbibcoaaGreatDoorMRdKit
import Derived.Test.YtocpikgcbibcoaaGreatDoorMRadixBack
import Derived.WalkKit
import Derived.WalkSpells
import Derived.WalkLawsBesides
import Derived.Outline
import Derived.Laws.BitsAllLaws
import Derived.Laws.IdiomStrings
import Derived.Deep.OwnRows
import Derived.Lib.LaidTab
import Derived.Deep.QuietTactic
import Derived.Deep.MidRow
import Derived.Deep.DrawnRows
namespace Go.Proofs.YtocpikgcbibcoaaGreatDoor.radw
open Go.ChangeShapes Go.WideShapes Go.ChangeAt Go.RowKit Go.Proofs.YtocpikgcbibcoaaGreatDoor.common

abbrev B (c : UInt8) : Value := .int .u8 (c.toNat : Int)

theorem info8 : (Tryz.prog.info? 5).map (fun i => (i.zero, i.size, i.bytes)) = some (some (.int .u8 0), 1, 1) := by kernel_rfl

/-- the bytes l lie at the head of the block g, which may be written -/
def Lay (w : World) (g : Nat) (l : List UInt8) : Prop := w.there g 0 l.length ∧ w.rangeAt g 0 (l.map B)

theorem Lay.cell {w : World} {g : Nat} {l : List UInt8} (h : Lay w g l) (i : Nat) (hi : i < l.length) : w.cell? ⟨g, i, none⟩ = some (B (l.getD i 0)) := by
  have := range_cell h.2 i (by simpa using hi)
  rw [Nat.zero_add] at this
  rw [this]; simp [hi]

theorem Lay.frozen {w : World} {g : Nat} {l : List UInt8} (h : Lay w g l) (i : Nat) (hi : i < l.length) : w.frozen? ⟨g, i, none⟩ = false := by
  simpa using (h.1 i hi).2

theorem Lay.set {w : World} {g : Nat} {l : List UInt8} (h : Lay w g l) (i : Nat) (hi : i < l.length) (c : UInt8) : Lay (w.setCell ⟨g, i, none⟩ (B c)) g (l.set i c) := by
  refine ⟨by rw [List.length_set]; exact there_set h.1 _ _, ?_⟩
  have := range_set h.2 i (by simpa using hi) (B c)
  rw [Nat.zero_add] at this
  rw [List.map_set]; exact this

theorem Lay.drew {w : World} {g : Nat} {l : List UInt8} (h : Lay w g l) : Lay w.drew g l := h
theorem Lay.drewN {w : World} {g : Nat} {l : List UInt8} (h : Lay w g l) (n : Nat) : Lay (w.drewN n) g l := h

theorem Lay.below {w w' : World} {b g : Nat} {l : List UInt8} (h : Lay w g l) (hb : Below b w w') (hg : g < b) : Lay w' g l := ⟨there_below h.1 hb hg, range_below h.2 hb hg⟩

theorem made_list (n : Nat) : (madeCells #[.int .u8 0] n).toList = (List.replicate n (0 : UInt8)).map B := by
  unfold madeCells
  simp only [List.map_replicate]
  apply List.ext_getElem
  · simp
  · intro i h1 h2
    simp [Nat.mod_one]

theorem lay_made (w : World) (n : Nat) (t : TypeId) : Lay (w.alloc (.cells (madeCells #[.int .u8 0] n) t)) w.heap.size (List.replicate n 0) := by
  refine ⟨there_new_at w _ _ _ _ rfl ?_, range_new_at w _ _ _ _ rfl (made_list n).symm⟩
  have := congrArg List.length (made_list n)
  simpa using this.symm

theorem Lay.conv {w : World} {g : Nat} {l : List UInt8} {n cap : Nat} (h : Lay w g l) (hn : l.length = n) :
    (convert 27 9 (.slice (some ⟨g, 0, none⟩) n cap)).run Tryz.prog w = .ok (.string ⟨l.toArray⟩) w := by
  subst hn
  refine run_convert_bytes_back (P := Tryz.prog) w 27 9 5 ⟨g, 0, none⟩ cap l Tryz.underlying27 Tryz.underlying5 Tryz.underlying9 ?_
  intro j hj
  rw [Addr.add_mid, Nat.zero_add, h.cell j hj]
  simp [hj]

/-- a table of letters lies in memory -/
def TabAt (g : Nat) (T : List UInt8) (w : World) : Prop := ∀ i : Nat, i < T.length → w.cell? ⟨g, i, none⟩ = some (B (T.getD i 0))

theorem TabAt.lt {g : Nat} {T : List UInt8} {w : World} (h : TabAt g T w) (h0 : 0 < T.length) : g < w.heap.size := World.block_lt_of_cell? w _ (h 0 h0)

theorem TabAt.below {g : Nat} {T : List UInt8} {w w' : World} {b : Nat} (h : TabAt g T w) (hb : Below b w w') (hB : g < b) : TabAt g T w' := fun i hi => by
  rw [← h i hi]; exact hb.cell hB

theorem getD_list (s : ByteArray) (k : Nat) (h : k < s.size) : s.data.toList.getD k 0 = s[k] := by
  have : k < s.data.toList.length := by simpa using h
  rw [List.getD_eq_getElem?_getD, List.getElem?_eq_getElem this]; rfl

theorem len_list (s : ByteArray) : s.data.toList.length = s.size := by simp

theorem g_at (s : ByteArray) (k : Nat) (h : k < s.size) : Rad.g s.data.toList k = s[k].toNat := by unfold Rad.g; rw [getD_list s k h]

theorem and_nat (x : UInt8) (m : Nat) (hm : m < 256) : bits .and .u8 (x.toNat : Int) (m : Int) = ((x.toNat &&& m : Nat) : Int) := u8_and_nat _ _ x.toNat_lt hm

/-- a list that is being written: its first k letters are f's -/
def upto (f : Nat → UInt8) (n k : Nat) : List UInt8 := (List.range n).map fun i => if i < k then f i else 0

theorem upto_len (f : Nat → UInt8) (n k : Nat) : (upto f n k).length = n := by simp [upto]
theorem upto_zero (f : Nat → UInt8) (n : Nat) : upto f n 0 = List.replicate n 0 := by
  apply Rad.list_eq
  · simp [upto]
  · intro i hi; rw [upto_len] at hi; unfold upto; rw [Rad.getD_map, if_pos hi]; simp [List.getD, hi]
theorem upto_all (f : Nat → UInt8) (n : Nat) : upto f n n = (List.range n).map f := by
  apply Rad.list_eq
  · simp [upto]
  · intro i hi; rw [upto_len] at hi; unfold upto; rw [Rad.getD_map, Rad.getD_map]; simp [hi]
theorem upto_set (f : Nat → UInt8) (n k : Nat) (hk : k < n) {c : UInt8} (hc : c = f k) : (upto f n k).set k c = upto f n (k + 1) := by
  subst hc
  apply Rad.list_eq
  · simp [upto]
  · intro i hi
    rw [List.length_set, upto_len] at hi
    have e : ((upto f n k).set k (f k)).getD i 0 = if i = k then f k else (upto f n k).getD i 0 := by
      rw [List.getD_eq_getElem?_getD, List.getElem?_set, upto_len]
      by_cases h : k = i
      · subst h; simp [hk]
      · rw [if_neg h, if_neg (fun h' => h h'.symm), List.getD_eq_getElem?_getD]
    rw [e]
    unfold upto
    rw [Rad.getD_map, Rad.getD_map, if_pos hi, if_pos hi]
    by_cases h : i = k
    · subst h; simp
    · rw [if_neg h]
      by_cases h2 : i < k
      · rw [if_pos h2, if_pos (by omega)]
      · rw [if_neg h2, if_neg (by omega)]

end Go.Proofs.YtocpikgcbibcoaaGreatDoor.radw

namespace Go.Proofs.YtocpikgcbibcoaaGreatDoor.radw
open Go.ChangeShapes Go.WideShapes Go.ChangeAt Go.RowKit Go.Proofs.YtocpikgcbibcoaaGreatDoor.common

theorem cells8 : Tryz.prog.cellsOf 5 = 1 := by kernel_rfl

end Go.Proofs.YtocpikgcbibcoaaGreatDoor.radw

namespace Go.Proofs.YtocpikgcbibcoaaGreatDoor.radw
open Go.ChangeShapes Go.WideShapes Go.ChangeAt Go.RowKit Go.Proofs.YtocpikgcbibcoaaGreatDoor.common
attribute [local go_sem ↓] Go.wp_at_zero Go.wp_at_succ

set_option maxHeartbeats 400000 in
theorem rest2_core (t : ByteArray) (ht : t.size = 2) (g o cap : Nat) (w : World) (l : List UInt8) (hl : Lay w g l) (ho : o + 2 < l.length) (x0 x1 y0 y1 y2 z : UInt8) (hx0 : t[0]'(by omega) = x0) (hx1 : t[1]'(by omega) = x1)
    (h2 : (x1.toNat : Int) * 4 % 256 % 64 = (y2.toNat : Int)) (hz : (x1.toNat : Int) / 16 = (z.toNat : Int)) (h1 : bits .or .u8 (z.toNat : Int) ((x0.toNat : Int) * 16 % 64) = (y1.toNat : Int)) (h0 : (x0.toNat : Int) / 4 = (y0.toNat : Int)) :
    Calls Tryz.prog 77 #[.string t, .slice (some ⟨g, o, none⟩) 3 cap] w fun e w' => e = .returned (.tuple #[]) ∧ Lay w' g ((((l.set (o + 2) y2).set (o + 1) z).set (o + 1) y1).set o y0) ∧ ∀ b, b ≤ g → Below b w w' := by
  have c2 := hl.cell (o + 2) ho
  have c1 := hl.cell (o + 1) (by omega)
  have c0 := hl.cell o (by omega)
  have f2 := hl.frozen (o + 2) ho
  have f1 := hl.frozen (o + 1) (by omega)
  have f0 := hl.frozen o (by omega)
  have HL := hide hl
  clear hl
  go_enter Tryz.func77, Tryz.ntmps77
  go_wp2_with fail
  go_region
  go_wp2
  go_end0
  refine ⟨rfl, ?_, fun b hb => ?_⟩
  · exact ((((HL.out.set (o + 2) (by omega) y2).set (o + 1) (by simp; omega) z).set (o + 1) (by simp; omega) y1).set o (by simp; omega) y0).drew
  · exact (((((Below.refl _ _).setCell hb _).setCell hb _).setCell hb _).setCell hb _).drew

set_option maxHeartbeats 400000 in
theorem rest1_core (t : ByteArray) (ht : t.size = 1) (g o cap : Nat) (w : World) (l : List UInt8) (hl : Lay w g l) (ho : o + 1 < l.length) (hzero : l.getD (o + 1) 0 = 0) (x0 y0 y1 : UInt8) (hx0 : t[0]'(by omega) = x0)
    (h1 : bits .or .u8 0 ((x0.toNat : Int) * 16 % 64) = (y1.toNat : Int)) (h0 : (x0.toNat : Int) / 4 = (y0.toNat : Int)) :
    Calls Tryz.prog 77 #[.string t, .slice (some ⟨g, o, none⟩) 2 cap] w fun e w' => e = .returned (.tuple #[]) ∧ Lay w' g ((l.set (o + 1) y1).set o y0) ∧ ∀ b, b ≤ g → Below b w w' := by
  have c1 : w.cell? ⟨g, o + 1, none⟩ = some (.int .u8 0) := by rw [hl.cell (o + 1) (by omega), hzero]; rfl
  have c0 := hl.cell o (by omega)
  have f1 := hl.frozen (o + 1) (by omega)
  have f0 := hl.frozen o (by omega)
  have HL := hide hl
  clear hl hzero
  go_enter Tryz.func77, Tryz.ntmps77
  go_wp2_with fail
  go_region
  go_wp2
  go_end0
  refine ⟨rfl, ?_, fun b hb => ?_⟩
  · exact ((HL.out.set (o + 1) (by omega) y1).set o (by simp; omega) y0).drew
  · exact (((Below.refl _ _).setCell hb _).setCell hb _).drew

theorem rest0_core (t : ByteArray) (ht : t.size = 0) (v : Value) (w : World) :
    Calls Tryz.prog 77 #[.string t, v] w fun e w' => e = .returned (.tuple #[]) ∧ w' = w := by
  go_enter Tryz.func77, Tryz.ntmps77
  go_wp2_with fail
  go_end0
  exact ⟨rfl, rfl⟩

end Go.Proofs.YtocpikgcbibcoaaGreatDoor.radw

namespace Go.Proofs.YtocpikgcbibcoaaGreatDoor.radw
open Go.ChangeShapes Go.WideShapes Go.ChangeAt Go.RowKit Go.Proofs.YtocpikgcbibcoaaGreatDoor.common
attribute [local go_sem ↓] Go.wp_at_zero Go.wp_at_succ

def sixB (l : List UInt8) (m : Nat) : UInt8 := UInt8.ofNat (Rad.six l m)

theorem sixB_val (l : List UInt8) (m : Nat) : ((sixB l m).toNat : Int) = ((Rad.six l m : Nat) : Int) := by
  unfold sixB; rw [Rad.toNat_of (Nat.lt_trans (Rad.six_lt l m) (by decide))]

theorem or_add (a b i : Nat) (h : b < 2 ^ i) : a * 2 ^ i ||| b = a * 2 ^ i + b := by
  rw [← Nat.shiftLeft_eq, Nat.shiftLeft_add_eq_or_of_lt h]

theorem or_val (a b : Nat) (ha : a < 256) (hb : b < 256) : bits .or .u8 (a : Int) (b : Int) = ((a ||| b : Nat) : Int) := u8_or_nat a b ha hb

/-- two parts of a byte, put together -/
theorem or_at (a b i c : Nat) (x y : Int) (hi : i ≤ 8) (hx : x = ((a * 2 ^ i : Nat) : Int)) (hy : y = (b : Int)) (h : b < 2 ^ i) (ha : a * 2 ^ i < 256) (hc : c = a * 2 ^ i + b) : bits .or .u8 x y = (c : Int) := by
  subst hx hy hc
  have hb : b < 256 := Nat.lt_of_lt_of_le h (Nat.pow_le_pow_right (n := 2) (j := 8) (by decide) hi)
  rw [or_val _ _ ha hb, or_add a b i h]
theorem or_at' (a b i c : Nat) (x y : Int) (hi : i ≤ 8) (hx : x = ((a * 2 ^ i : Nat) : Int)) (hy : y = (b : Int)) (h : b < 2 ^ i) (ha : a * 2 ^ i < 256) (hc : c = a * 2 ^ i + b) : bits .or .u8 y x = (c : Int) := by
  subst hx hy hc
  have hb : b < 256 := Nat.lt_of_lt_of_le h (Nat.pow_le_pow_right (n := 2) (j := 8) (by decide) hi)
  rw [or_val _ _ hb ha, Nat.or_comm, or_add a b i h]

theorem and63 : ∀ c : Fin 256, c.val &&& 63 = c.val % 64 := by decide +kernel

/-- the four numbers of three bytes -/
theorem quad (l : List UInt8) (k : Nat) (x0 x1 x2 : UInt8) (h0 : Rad.g l (3 * k) = x0.toNat) (h1 : Rad.g l (3 * k + 1) = x1.toNat) (h2 : Rad.g l (3 * k + 2) = x2.toNat) :
    (x0.toNat : Int) / 4 = ((sixB l (4 * k)).toNat : Int) ∧ bits .or .u8 ((x0.toNat : Int) * 16 % 64) ((x1.toNat : Int) / 16) = ((sixB l (4 * k + 1)).toNat : Int) ∧
      bits .or .u8 ((x1.toNat : Int) * 4 % 64) ((x2.toNat : Int) / 64) = ((sixB l (4 * k + 2)).toNat : Int) ∧ bits .and .u8 (x2.toNat : Int) 63 = ((sixB l (4 * k + 3)).toNat : Int) := by
  have b0 := x0.toNat_lt
  have b1 := x1.toNat_lt
  have b2 := x2.toNat_lt
  rw [sixB_val, sixB_val, sixB_val, sixB_val, Rad.six_at0, Rad.six_at1, Rad.six_at2, Rad.six_at3, h0, h1, h2]
  refine ⟨by omega, ?_, ?_, ?_⟩
  case refine_3 =>
    rw [← and63 ⟨x2.toNat, b2⟩]
    exact and_nat x2 63 (by decide)
  · exact or_at (x0.toNat % 4) (x1.toNat / 16) 4 _ _ _ (by decide) (by omega) (by omega) (by omega) (by omega) (by omega)
  · exact or_at (x1.toNat % 16) (x2.toNat / 64) 2 _ _ _ (by decide) (by omega) (by omega) (by omega) (by omega) (by omega)

theorem ext3 (s : ByteArray) (k : Nat) (h : 3 * k + 3 ≤ s.size) : (s.extract (3 * k) (3 * k + 3)).size = 3 := by
  rw [ByteArray.size_extract]; omega

theorem ext_at (s : ByteArray) (a b i : Nat) (h : a + i < b) : ((s.extract a b).data.toList.getD i 0) = s.data.toList.getD (a + i) 0 := by
  simp only [ByteArray.data_extract, Array.toList_extract]
  simp only [List.extract_eq_take_drop, List.getD_eq_getElem?_getD, List.getElem?_take, List.getElem?_drop]
  rw [if_pos (by omega)]

theorem upto_getD (f : Nat → UInt8) (n k i : Nat) : (upto f n k).getD i 0 = if i < n then (if i < k then f i else 0) else 0 := by unfold upto; rw [Rad.getD_map]
theorem set_getD (l : List UInt8) (i j : Nat) (c : UInt8) (hi : i < l.length) : (l.set i c).getD j 0 = if j = i then c else l.getD j 0 := by
  rw [List.getD_eq_getElem?_getD, List.getElem?_set]
  by_cases h : i = j
  · subst h; simp [hi]
  · rw [if_neg h, if_neg (fun h' => h h'.symm), List.getD_eq_getElem?_getD]

theorem fill1 (f : Nat → UInt8) (o : Nat) : ((upto f (o + 2) o).set (o + 1) (f (o + 1))).set o (f o) = upto f (o + 2) (o + 2) := by
  apply Rad.list_eq
  · simp [upto_len]
  · intro i hi
    simp only [List.length_set, upto_len] at hi
    rw [set_getD _ _ _ _ (by simp [upto_len]), set_getD _ _ _ _ (by simp [upto_len]), upto_getD, upto_getD]
    by_cases h0 : i = o
    · subst h0; simp
    · by_cases h1 : i = o + 1
      · subst h1; simp
      · rw [if_neg h0, if_neg h1, if_pos (by omega), if_pos (by omega), if_pos (by omega), if_pos (by omega)]

theorem fill2 (f : Nat → UInt8) (o : Nat) (z : UInt8) : ((((upto f (o + 3) o).set (o + 2) (f (o + 2))).set (o + 1) z).set (o + 1) (f (o + 1))).set o (f o) = upto f (o + 3) (o + 3) := by
  apply Rad.list_eq
  · simp [upto_len]
  · intro i hi
    simp only [List.length_set, upto_len] at hi
    rw [set_getD _ _ _ _ (by simp [upto_len]), set_getD _ _ _ _ (by simp [upto_len]), set_getD _ _ _ _ (by simp [upto_len]), set_getD _ _ _ _ (by simp [upto_len]), upto_getD, upto_getD]
    by_cases h0 : i = o
    · subst h0; simp
    · by_cases h1 : i = o + 1
      · subst h1; simp
      · by_cases h2 : i = o + 2
        · subst h2; simp
        · rw [if_neg h0, if_neg h1, if_neg h1, if_neg h2, if_pos (by omega), if_pos (by omega), if_pos (by omega), if_pos (by omega)]

theorem byte_of_list {t : ByteArray} {i : Nat} (hi : i < t.size) {x : UInt8} (h : t.data.toList.getD i 0 = x) : t[i] = x := by
  rw [← getD_list t i hi]; exact h

theorem g_none (s : ByteArray) (i : Nat) (h : s.size ≤ i) : Rad.g s.data.toList i = 0 := Rad.g_out (by rw [len_list]; exact h)

theorem rest_any (s : ByteArray) (W N g : Nat) (hW1 : 3 * W ≤ s.size) (hW2 : s.size < 3 * W + 3) (hN1 : 6 * N ≤ 8 * s.size + 5) (hN2 : 8 * s.size + 5 < 6 * N + 6) (w : World) (hl : Lay w g (upto (sixB s.data.toList) N (4 * W))) :
    Calls Tryz.prog 77 #[.string (s.extract (3 * W) s.size), .slice (if N = 4 * W then some ⟨g, 0, none⟩ else some ⟨g, 4 * W, none⟩) (N - 4 * W) (N - 4 * W)] w fun e w' => e = .returned (.tuple #[]) ∧ Lay w' g ((List.range N).map (sixB s.data.toList)) ∧ ∀ b, b ≤ g → Below b w w' := by
  have hsz : (s.extract (3 * W) s.size).size = s.size - 3 * W := by rw [ByteArray.size_extract]; omega
  have hat : ∀ i, 3 * W + i < s.size → (s.extract (3 * W) s.size).data.toList.getD i 0 = s.data.toList.getD (3 * W + i) 0 := fun i hi => ext_at s (3 * W) s.size i hi
  rw [← upto_all]
  by_cases h0 : s.size = 3 * W
  · obtain rfl : N = 4 * W := by omega
    refine (rest0_core _ (by rw [hsz]; omega) _ w).mono ?_
    rintro e w' ⟨rfl, rfl⟩
    exact ⟨rfl, hl, fun b _ => Below.refl _ _⟩
  · by_cases h1 : s.size = 3 * W + 1
    · obtain rfl : N = 4 * W + 2 := by omega
      have x0 : (s.extract (3 * W) s.size)[0]'(by rw [hsz]; omega) = s[3 * W] := byte_of_list _ ((hat 0 (by omega)).trans (getD_list s (3 * W) (by omega)))
      have g0 := g_at s (3 * W) (by omega)
      have b0 := s[3 * W].toNat_lt
      rw [show 4 * W + 2 - 4 * W = 2 by omega, if_neg (by omega)]
      refine (rest1_core _ (by rw [hsz]; omega) g (4 * W) 2 w _ hl (by rw [upto_len]; omega) (by rw [upto_getD, if_pos (by omega), if_neg (by omega)]) s[3 * W] (sixB s.data.toList (4 * W)) (sixB s.data.toList (4 * W + 1)) x0 ?_ ?_).mono ?_
      · rw [sixB_val, Rad.six_at1, g0, g_none s (3 * W + 1) (by omega)]
        exact or_at' (s[3 * W].toNat % 4) 0 4 _ _ _ (by decide) (by omega) rfl (by decide) (by omega) (by omega)
      · rw [sixB_val, Rad.six_at0, g0]; omega
      · rintro e w' ⟨rfl, h, hb⟩
        rw [fill1] at h
        exact ⟨rfl, h, hb⟩
    · obtain rfl : N = 4 * W + 3 := by omega
      have x0 : (s.extract (3 * W) s.size)[0]'(by rw [hsz]; omega) = s[3 * W] := byte_of_list _ ((hat 0 (by omega)).trans (getD_list s (3 * W) (by omega)))
      have x1 : (s.extract (3 * W) s.size)[1]'(by rw [hsz]; omega) = s[3 * W + 1] := byte_of_list _ ((hat 1 (by omega)).trans (getD_list s (3 * W + 1) (by omega)))
      have g0 := g_at s (3 * W) (by omega)
      have g1 := g_at s (3 * W + 1) (by omega)
      have b0 := s[3 * W].toNat_lt
      have b1 := s[3 * W + 1].toNat_lt
      rw [show 4 * W + 3 - 4 * W = 3 by omega, if_neg (by omega)]
      refine (rest2_core _ (by rw [hsz]; omega) g (4 * W) 3 w _ hl (by rw [upto_len]; omega) s[3 * W] s[3 * W + 1] (sixB s.data.toList (4 * W)) (sixB s.data.toList (4 * W + 1)) (sixB s.data.toList (4 * W + 2)) (UInt8.ofNat (s[3 * W + 1].toNat / 16)) x0 x1 ?_ ?_ ?_ ?_).mono ?_
      · rw [sixB_val, Rad.six_at2, g1, g_none s (3 * W + 2) (by omega)]; omega
      · rw [Rad.toNat_of (by omega)]; omega
      · rw [sixB_val, Rad.six_at1, g0, g1, Rad.toNat_of (by omega)]
        exact or_at' (s[3 * W].toNat % 4) (s[3 * W + 1].toNat / 16) 4 _ _ _ (by decide) (by omega) (by omega) (by omega) (by omega) (by omega)
      · rw [sixB_val, Rad.six_at0, g0]; omega
      · rintro e w' ⟨rfl, h, hb⟩
        rw [fill2] at h
        exact ⟨rfl, h, hb⟩

end Go.Proofs.YtocpikgcbibcoaaGreatDoor.radw

namespace Go.Proofs.YtocpikgcbibcoaaGreatDoor.radw
open Go.ChangeShapes Go.WideShapes Go.ChangeAt Go.RowKit Go.Proofs.YtocpikgcbibcoaaGreatDoor.common
attribute [local go_sem ↓] Go.wp_at_zero Go.wp_at_succ

/-- a reading, of the first k letters of a table -/
def rdT (T : List UInt8) (k : Nat) : List UInt8 := (List.range 256).map fun c => UInt8.ofNat (Rad.rd T k (UInt8.ofNat c))
theorem rdT_len (T : List UInt8) (k : Nat) : (rdT T k).length = 256 := by unfold rdT; rw [List.length_map, List.length_range]
theorem rdT_zero (T : List UInt8) : rdT T 0 = List.replicate 256 0 := by
  apply Rad.list_eq
  · rw [rdT_len, List.length_replicate]
  · intro i hi; rw [rdT_len] at hi; unfold rdT; rw [Rad.getD_map, if_pos hi, List.getD_eq_getElem?_getD, List.getElem?_replicate, if_pos hi]; rfl
theorem rdT_set (T : List UInt8) (k : Nat) : (rdT T k).set (T.getD k 0).toNat (UInt8.ofNat (k + 1)) = rdT T (k + 1) := by
  apply Rad.list_eq
  · rw [List.length_set, rdT_len, rdT_len]
  · intro i hi
    rw [List.length_set, rdT_len] at hi
    rw [set_getD _ _ _ _ (by rw [rdT_len]; exact (T.getD k 0).toNat_lt)]
    unfold rdT
    rw [Rad.getD_map, Rad.getD_map, if_pos hi, if_pos hi]
    by_cases h : i = (T.getD k 0).toNat
    · rw [if_pos h]
      have : T.getD k 0 = UInt8.ofNat i := by rw [h]; exact UInt8.ofNat_toNat.symm
      unfold Rad.rd
      rw [if_pos this]
    · rw [if_neg h]
      have : ¬ T.getD k 0 = UInt8.ofNat i := by
        intro e
        apply h
        rw [e, Rad.toNat_of hi]
      conv => rhs; unfold Rad.rd
      rw [if_neg this]
theorem rdT_at (T : List UInt8) (k : Nat) (c : UInt8) : (rdT T k).getD c.toNat 0 = UInt8.ofNat (Rad.rd T k c) := by
  unfold rdT
  rw [Rad.getD_map, if_pos c.toNat_lt, UInt8.ofNat_toNat]

theorem size256 : (Tryz.prog.info? 104).map (·.size) = some 256 := by kernel_rfl

def zero256 : Array Value := (List.replicate 256 (Value.int .u8 0)).toArray
theorem zero256_run (w : World) : (zeroValue 104).run Tryz.prog w = .ok (.agg zero256) w := by kernel_rfl

end Go.Proofs.YtocpikgcbibcoaaGreatDoor.radw
