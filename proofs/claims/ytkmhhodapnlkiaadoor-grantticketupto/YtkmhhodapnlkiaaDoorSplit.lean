import Derived.Test.YtkmhhodapnlkiaaDoorRest
namespace Go.Proofs.YtkmhhodapnlkiaaDoor.radw
open Go.ChangeShapes Go.WideShapes Go.ChangeAt Go.RowKit Go.Proofs.YtkmhhodapnlkiaaDoor.common
attribute [local go_sem ↓] Go.wp_at_zero Go.wp_at_succ

def sixB (l : List UInt8) (m : Nat) : UInt8 := UInt8.ofNat (Rad.six l m)

theorem sixB_val (l : List UInt8) (m : Nat) : ((sixB l m).toNat : Int) = ((Rad.six l m : Nat) : Int) := by
  unfold sixB; rw [Rad.toNat_of (Nat.lt_trans (Rad.six_lt l m) (by decide))]

theorem or_add (a b i : Nat) (h : b < 2 ^ i) : a * 2 ^ i ||| b = a * 2 ^ i + b := by
  rw [← Nat.shiftLeft_eq, Nat.shiftLeft_add_eq_or_of_lt h]

theorem or_val (a b : Nat) (ha : a < 256) (hb : b < 256) : bits .or .u8 (a : Int) (b : Int) = ((a ||| b : Nat) : Int) := u8_or_nat a b ha hb

/-- two parts of a byte, put together -/
theorem or_at (a b i c : Nat) (x y : Int) (hi : i ≤ 8) (hx : x = ((a * 2 ^ i : Nat) : Int)) (hy : y = (b : Int)) (h : b < 2 ^ i) (ha : a * 2 ^ i < 256) (hc : c = a * 2 ^ i + b) : bits .or .u8 x y = (c : Int) := by
  subst hx hy hc
  have hb : b < 256 := Nat.lt_of_lt_of_le h (Nat.pow_le_pow_right (n := 2) (j := 8) (by decide) hi)
  rw [or_val _ _ ha hb, or_add a b i h]
theorem or_at' (a b i c : Nat) (x y : Int) (hi : i ≤ 8) (hx : x = ((a * 2 ^ i : Nat) : Int)) (hy : y = (b : Int)) (h : b < 2 ^ i) (ha : a * 2 ^ i < 256) (hc : c = a * 2 ^ i + b) : bits .or .u8 y x = (c : Int) := by
  subst hx hy hc
  have hb : b < 256 := Nat.lt_of_lt_of_le h (Nat.pow_le_pow_right (n := 2) (j := 8) (by decide) hi)
  rw [or_val _ _ hb ha, Nat.or_comm, or_add a b i h]

theorem and63 : ∀ c : Fin 256, c.val &&& 63 = c.val % 64 := by decide +kernel

/-- the four numbers of three bytes -/
theorem quad (l : List UInt8) (k : Nat) (x0 x1 x2 : UInt8) (h0 : Rad.g l (3 * k) = x0.toNat) (h1 : Rad.g l (3 * k + 1) = x1.toNat) (h2 : Rad.g l (3 * k + 2) = x2.toNat) :
    (x0.toNat : Int) / 4 = ((sixB l (4 * k)).toNat : Int) ∧ bits .or .u8 ((x0.toNat : Int) * 16 % 64) ((x1.toNat : Int) / 16) = ((sixB l (4 * k + 1)).toNat : Int) ∧
      bits .or .u8 ((x1.toNat : Int) * 4 % 64) ((x2.toNat : Int) / 64) = ((sixB l (4 * k + 2)).toNat : Int) ∧ bits .and .u8 (x2.toNat : Int) 63 = ((sixB l (4 * k + 3)).toNat : Int) := by
  have b0 := x0.toNat_lt
  have b1 := x1.toNat_lt
  have b2 := x2.toNat_lt
  rw [sixB_val, sixB_val, sixB_val, sixB_val, Rad.six_at0, Rad.six_at1, Rad.six_at2, Rad.six_at3, h0, h1, h2]
  refine ⟨by omega, ?_, ?_, ?_⟩
  case refine_3 =>
    rw [← and63 ⟨x2.toNat, b2⟩]
    exact and_nat x2 63 (by decide)
  · exact or_at (x0.toNat % 4) (x1.toNat / 16) 4 _ _ _ (by decide) (by omega) (by omega) (by omega) (by omega) (by omega)
  · exact or_at (x1.toNat % 16) (x2.toNat / 64) 2 _ _ _ (by decide) (by omega) (by omega) (by omega) (by omega) (by omega)

theorem ext3 (s : ByteArray) (k : Nat) (h : 3 * k + 3 ≤ s.size) : (s.extract (3 * k) (3 * k + 3)).size = 3 := by
  rw [ByteArray.size_extract]; omega

theorem ext_at (s : ByteArray) (a b i : Nat) (h : a + i < b) : ((s.extract a b).data.toList.getD i 0) = s.data.toList.getD (a + i) 0 := by
  simp only [ByteArray.data_extract, Array.toList_extract]
  simp only [List.extract_eq_take_drop, List.getD_eq_getElem?_getD, List.getElem?_take, List.getElem?_drop]
  rw [if_pos (by omega)]

theorem upto_getD (f : Nat → UInt8) (n k i : Nat) : (upto f n k).getD i 0 = if i < n then (if i < k then f i else 0) else 0 := by unfold upto; rw [Rad.getD_map]
theorem set_getD (l : List UInt8) (i j : Nat) (c : UInt8) (hi : i < l.length) : (l.set i c).getD j 0 = if j = i then c else l.getD j 0 := by
  rw [List.getD_eq_getElem?_getD, List.getElem?_set]
  by_cases h : i = j
  · subst h; simp [hi]
  · rw [if_neg h, if_neg (fun h' => h h'.symm), List.getD_eq_getElem?_getD]

theorem fill1 (f : Nat → UInt8) (o : Nat) : ((upto f (o + 2) o).set (o + 1) (f (o + 1))).set o (f o) = upto f (o + 2) (o + 2) := by
  apply Rad.list_eq
  · simp [upto_len]
  · intro i hi
    simp only [List.length_set, upto_len] at hi
    rw [set_getD _ _ _ _ (by simp [upto_len]), set_getD _ _ _ _ (by simp [upto_len]), upto_getD, upto_getD]
    by_cases h0 : i = o
    · subst h0; simp
    · by_cases h1 : i = o + 1
      · subst h1; simp
      · rw [if_neg h0, if_neg h1, if_pos (by omega), if_pos (by omega), if_pos (by omega), if_pos (by omega)]

theorem fill2 (f : Nat → UInt8) (o : Nat) (z : UInt8) : ((((upto f (o + 3) o).set (o + 2) (f (o + 2))).set (o + 1) z).set (o + 1) (f (o + 1))).set o (f o) = upto f (o + 3) (o + 3) := by
  apply Rad.list_eq
  · simp [upto_len]
  · intro i hi
    simp only [List.length_set, upto_len] at hi
    rw [set_getD _ _ _ _ (by simp [upto_len]), set_getD _ _ _ _ (by simp [upto_len]), set_getD _ _ _ _ (by simp [upto_len]), set_getD _ _ _ _ (by simp [upto_len]), upto_getD, upto_getD]
    by_cases h0 : i = o
    · subst h0; simp
    · by_cases h1 : i = o + 1
      · subst h1; simp
      · by_cases h2 : i = o + 2
        · subst h2; simp
        · rw [if_neg h0, if_neg h1, if_neg h1, if_neg h2, if_pos (by omega), if_pos (by omega), if_pos (by omega), if_pos (by omega)]

theorem byte_of_list {t : ByteArray} {i : Nat} (hi : i < t.size) {x : UInt8} (h : t.data.toList.getD i 0 = x) : t[i] = x := by
  rw [← getD_list t i hi]; exact h

theorem g_none (s : ByteArray) (i : Nat) (h : s.size ≤ i) : Rad.g s.data.toList i = 0 := Rad.g_out (by rw [len_list]; exact h)

theorem rest_any (s : ByteArray) (W N g : Nat) (hW1 : 3 * W ≤ s.size) (hW2 : s.size < 3 * W + 3) (hN1 : 6 * N ≤ 8 * s.size + 5) (hN2 : 8 * s.size + 5 < 6 * N + 6) (w : World) (hl : Lay w g (upto (sixB s.data.toList) N (4 * W))) :
    Calls Tryd.prog 23 #[.string (s.extract (3 * W) s.size), .slice (if N = 4 * W then some ⟨g, 0, none⟩ else some ⟨g, 4 * W, none⟩) (N - 4 * W) (N - 4 * W)] w fun e w' => e = .returned (.tuple #[]) ∧ Lay w' g ((List.range N).map (sixB s.data.toList)) ∧ ∀ b, b ≤ g → Below b w w' := by
  have hsz : (s.extract (3 * W) s.size).size = s.size - 3 * W := by rw [ByteArray.size_extract]; omega
  have hat : ∀ i, 3 * W + i < s.size → (s.extract (3 * W) s.size).data.toList.getD i 0 = s.data.toList.getD (3 * W + i) 0 := fun i hi => ext_at s (3 * W) s.size i hi
  rw [← upto_all]
  by_cases h0 : s.size = 3 * W
  · obtain rfl : N = 4 * W := by omega
    refine (rest0_core _ (by rw [hsz]; omega) _ w).mono ?_
    rintro e w' ⟨rfl, rfl⟩
    exact ⟨rfl, hl, fun b _ => Below.refl _ _⟩
  · by_cases h1 : s.size = 3 * W + 1
    · obtain rfl : N = 4 * W + 2 := by omega
      have x0 : (s.extract (3 * W) s.size)[0]'(by rw [hsz]; omega) = s[3 * W] := byte_of_list _ ((hat 0 (by omega)).trans (getD_list s (3 * W) (by omega)))
      have g0 := g_at s (3 * W) (by omega)
      have b0 := s[3 * W].toNat_lt
      rw [show 4 * W + 2 - 4 * W = 2 by omega, if_neg (by omega)]
      refine (rest1_core _ (by rw [hsz]; omega) g (4 * W) 2 w _ hl (by rw [upto_len]; omega) (by rw [upto_getD, if_pos (by omega), if_neg (by omega)]) s[3 * W] (sixB s.data.toList (4 * W)) (sixB s.data.toList (4 * W + 1)) x0 ?_ ?_).mono ?_
      · rw [sixB_val, Rad.six_at1, g0, g_none s (3 * W + 1) (by omega)]
        exact or_at' (s[3 * W].toNat % 4) 0 4 _ _ _ (by decide) (by omega) rfl (by decide) (by omega) (by omega)
      · rw [sixB_val, Rad.six_at0, g0]; omega
      · rintro e w' ⟨rfl, h, hb⟩
        rw [fill1] at h
        exact ⟨rfl, h, hb⟩
    · obtain rfl : N = 4 * W + 3 := by omega
      have x0 : (s.extract (3 * W) s.size)[0]'(by rw [hsz]; omega) = s[3 * W] := byte_of_list _ ((hat 0 (by omega)).trans (getD_list s (3 * W) (by omega)))
      have x1 : (s.extract (3 * W) s.size)[1]'(by rw [hsz]; omega) = s[3 * W + 1] := byte_of_list _ ((hat 1 (by omega)).trans (getD_list s (3 * W + 1) (by omega)))
      have g0 := g_at s (3 * W) (by omega)
      have g1 := g_at s (3 * W + 1) (by omega)
      have b0 := s[3 * W].toNat_lt
      have b1 := s[3 * W + 1].toNat_lt
      rw [show 4 * W + 3 - 4 * W = 3 by omega, if_neg (by omega)]
      refine (rest2_core _ (by rw [hsz]; omega) g (4 * W) 3 w _ hl (by rw [upto_len]; omega) s[3 * W] s[3 * W + 1] (sixB s.data.toList (4 * W)) (sixB s.data.toList (4 * W + 1)) (sixB s.data.toList (4 * W + 2)) (UInt8.ofNat (s[3 * W + 1].toNat / 16)) x0 x1 ?_ ?_ ?_ ?_).mono ?_
      · rw [sixB_val, Rad.six_at2, g1, g_none s (3 * W + 2) (by omega)]; omega
      · rw [Rad.toNat_of (by omega)]; omega
      · rw [sixB_val, Rad.six_at1, g0, g1, Rad.toNat_of (by omega)]
        exact or_at' (s[3 * W].toNat % 4) (s[3 * W + 1].toNat / 16) 4 _ _ _ (by decide) (by omega) (by omega) (by omega) (by omega) (by omega)
      · rw [sixB_val, Rad.six_at0, g0]; omega
      · rintro e w' ⟨rfl, h, hb⟩
        rw [fill2] at h
        exact ⟨rfl, h, hb⟩

end Go.Proofs.YtkmhhodapnlkiaaDoor.radw
