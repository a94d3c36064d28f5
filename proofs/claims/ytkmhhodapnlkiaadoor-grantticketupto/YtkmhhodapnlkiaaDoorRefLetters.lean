import Derived.Test.YtkmhhodapnlkiaaDoorRefBits
namespace Go.Proofs.YtkmhhodapnlkiaaDoor.radw
open Go.ChangeShapes Go.WideShapes Go.ChangeAt Go.RowKit Go.Proofs.YtkmhhodapnlkiaaDoor.common

/-- a slice of numbers -/
def Ints (w : World) (v : Value) (L : Nat) (f : Nat → Nat) : Prop := ∃ p cap, v = .slice p L cap ∧ ∀ i, i < L → ∃ g, p = some ⟨g, 0, none⟩ ∧ w.cell? ⟨g, i, none⟩ = some (I (f i)) ∧ g < w.heap.size

theorem Ints.of_own {w : World} {base : Nat} {e : TypeId} {v : Value} {n : Nat} {f : Nat → Nat} (h : w.ownsRow base e 1 v n (row f n)) : Ints w v n f := by
  rcases h.2 with ⟨rfl, h0⟩ | ⟨g, cap, cur, rfl, hg, hh, hn, _, hsz, htk⟩
  · obtain rfl : n = 0 := by simpa [row_len] using h0
    exact ⟨none, 0, rfl, fun i hi => by omega⟩
  · refine ⟨_, cap, rfl, fun i hi => ⟨g, rfl, ?_, (Array.getElem?_eq_some_iff.1 hh).1⟩⟩
    have : (cur.toList.take (n * 1))[i]? = (row f n)[i]? := by rw [htk]
    rw [List.getElem?_take_of_lt (by omega)] at this
    simp only [World.cell?, hh]
    simp [row, hi] at this
    simpa using this

theorem conv_own {w : World} {base : Nat} {e : TypeId} {v : Value} {l : List UInt8} {n : Nat} (h : w.ownsRow base e 1 v n (l.map B)) (hn : l.length = n) :
    (convert 34 9 v).run Tryd.prog w = .ok (.string ⟨l.toArray⟩) w := by
  subst hn
  rcases h.2 with ⟨rfl, h0⟩ | ⟨g, cap, cur, rfl, hg, hh, hn, _, hsz, htk⟩
  · rw [run_convert_bytes_nil (P := Tryd.prog) w 34 5 Tryd.underlying34 Tryd.underlying5 0 0 9 Tryd.underlying9]
    obtain rfl : l = [] := List.eq_nil_of_length_eq_zero h0
    rfl
  · refine run_convert_bytes_back (P := Tryd.prog) w 34 9 5 ⟨g, 0, none⟩ cap l Tryd.underlying34 Tryd.underlying5 Tryd.underlying9 ?_
    intro j hj
    rw [Addr.add_mid, Nat.zero_add]
    have : (cur.toList.take (l.length * 1))[j]? = (l.map B)[j]? := by rw [htk]
    rw [List.getElem?_take_of_lt (by omega)] at this
    simp only [World.cell?, hh]
    simp [hj] at this
    simpa using this

theorem grp_lt (f : Nat → Nat) (hf : ∀ i, f i < 2) (i k : Nat) : Rad.grp f i k < 2 ^ k := by
  induction k with
  | zero => simp [Rad.grp]
  | succ k ih => unfold Rad.grp; have := hf (i + k); rw [Nat.pow_succ]; omega

def lets (T : List UInt8) (f : Nat → Nat) (n m : Nat) : List UInt8 := (List.range m).map fun j => T.getD (Rad.grp f (n * j) n) 0
theorem lets_succ (T : List UInt8) (f : Nat → Nat) (n m : Nat) : lets T f n (m + 1) = lets T f n m ++ [T.getD (Rad.grp f (n * m) n) 0] := by unfold lets; rw [List.range_succ, List.map_append]; rfl
theorem lets_len (T : List UInt8) (f : Nat → Nat) (n m : Nat) : (lets T f n m).length = m := by simp [lets]

theorem list_at {A : ByteArray} {T : List UInt8} (hA : A.data.toList = T) (i : Nat) (hi : i < A.size) : A[i] = T.getD i 0 := by
  subst hA; exact (getD_list A i hi).symm

set_option maxRecDepth 100000 in
set_option maxHeartbeats 800000 in
theorem letters4_any (v : Value) (L : Nat) (hL : L ≤ 8388608) (f : Nat → Nat) (hf : ∀ i, f i < 2) (hf0 : ∀ i, L ≤ i → f i = 0) (A : ByteArray) (T : List UInt8) (hA : A.data.toList = T) (hT : A.size = 16) (w : World) (hv : Ints w v L f) :
    Calls Tryd.prog 22 #[v, .int .i64 4, .string A] w fun e w' => e = .returned (.string ⟨(lets T f 4 ((L + 3) / 4)).toArray⟩) ∧ Below w.heap.size w w' := by
  obtain ⟨i0, hi, hz0, hz1, hz2⟩ := info_parts info8
  obtain ⟨p, cap, rfl, hcell⟩ := hv
  have HC := hide hcell
  have HA := hide hA
  have HF := hide hf
  have HF0 := hide hf0
  clear hcell hA hf hf0
  go_enter Tryd.func22, Tryd.ntmps22
  go_wp2
  go_loopw [7, 8] (fun u i wr => ∃ m : Nat, m ≤ (L + 3) / 4 ∧ i = .int .i64 ((4 * m : Nat) : Int) ∧ wr.ownsRow w.heap.size 5 1 u m ((lets T f 4 m).map B) ∧ Below w.heap.size w wr) (fun _ i _ => (L + 3) / 4 * 4 - (intOf i).toNat)
  case atStart => exact ⟨0, Nat.zero_le _, rfl, World.ownsRow_nil _ _ _ _, Below.refl _ _⟩
  case round =>
    obtain ⟨m, hm, rfl, hown, hnx⟩ := hrel
    by_cases hlt : 4 * m < L
    · have hli : ((4 * m : Nat) : Int) < (L : Int) := by omega
      have HO := hide hown
      have HX := hide hnx
      clear hown hnx
      generalize hJ : 4 * m = J at *
      have HJ := hide hJ
      clear hJ
      go_wp2
      go_loop [9, 10] (fun q k => ∃ j : Nat, j ≤ 4 ∧ k = .int .i64 j ∧ q = I (Rad.grp f J j)) (fun _ k => 4 - (intOf k).toNat)
      case atStart => exact ⟨0, Nat.zero_le _, rfl, rfl⟩
      case round =>
        obtain ⟨j, hj, rfl, rfl⟩ := hrel
        have hg := grp_lt f HF.out J j
        have hgs : Hid (Rad.grp f J (j + 1) = 2 * Rad.grp f J j + f (J + j)) := rfl
        have hpw : 2 ^ j ≤ 16 := Nat.pow_le_pow_right (n := 2) (j := 4) (by decide) hj
        by_cases hjn : j < 4
        · have hf2 := HF.out (J + j)
          have hji : (j : Int) < 4 := by omega
          by_cases hin : J + j < L
          · obtain ⟨g, rfl, hc, hgl⟩ := HC.out (J + j) hin
            have hc' : wr.cell? ⟨g, J + j, none⟩ = some (I (f (J + j))) := by rw [← hc]; exact HX.out.cell hgl
            have hx : ((J : Int) + (j : Int)) < (L : Int) := by omega
            have hx0 : (0 : Int) ≤ ((J : Int) + (j : Int)) := by omega
            have hx1 : ((J : Int) + (j : Int)).toNat = J + j := by omega
            generalize Rad.grp f J j = q at *
            generalize f (J + j) = b at *
            clear hc
            go_wp2
            go_round
            case rel => exact ⟨j + 1, by omega, by go_num, by rw [hgs.out]; exact int_eq (by omega)⟩
            case measure => simp [intOf]; omega
          · have hz : Hid (f (J + j) = 0) := HF0.out _ (by omega)
            have hx : ¬ ((J : Int) + (j : Int)) < (L : Int) := by omega
            generalize Rad.grp f J j = q at *
            go_wp2
            go_round
            case rel => exact ⟨j + 1, by omega, by go_num, by rw [hgs.out, hz.out]; exact int_eq (by omega)⟩
            case measure => simp [intOf]; omega
        · obtain rfl : j = 4 := by omega
          have hgi : ((Rad.grp f J 4 : Nat) : Int) < (A.size : Int) := by rw [hT]; omega
          have hgn : Rad.grp f J 4 < A.size := by rw [hT]; omega
          have hat := list_at HA.out (Rad.grp f J 4) hgn
          have hsn := hide (lets_succ T f 4 m)
          rw [HJ.out] at hsn
          have HTQ := hide hat
          clear hat hg hgs
          generalize Rad.grp f J 4 = q at *
          have hsz := HX.out.size
          have hown := HO.out
          clear hpw hli
          go_wp2_with (at_builtin; refine wpList_append_own _ rfl _ _ 34 rfl w.heap.size 5 i0 (.int .u8 0) 1 1 Tryd.underlying34 hi hz0 hz1 hz2 rfl (by decide) _ _ _ rfl (hown.alloc _) ⟨wr.heap.size, 0, none⟩ 1 1 [B A[q]] rfl rfl ?c1 ?c2 ?c3 ?c4 ?c5 ?_)
          case c1 => exact cell_one_new _ _ _
          case c2 => intro u hu; simp at hu; subst hu; rfl
          case c3 => unfold maxLen; omega
          case c4 => omega
          case c5 => simp; omega
          intro v' w1 hown' hgrow _
          have R1 : w1.ownsRow w.heap.size 5 1 v' (m + 1) ((lets T f 4 (m + 1)).map B) := by
            rw [hsn.out, List.map_append, ← HTQ.out]; exact hown'
          have R2 : Below w.heap.size w w1 := by
            refine (HX.out.alloc hsz _).grown hgrow (by simp; omega) ?_
            exact own_ge hown
          clear hown' hgrow hown
          have H1 := hide R1
          have H2 := hide R2
          have HE : Hid ((J : Int) + 4 = ((4 * (m + 1) : Nat) : Int)) := by show _ = _; rw [← HJ.out]; omega
          have HM : Hid (m + 1 ≤ (L + 3) / 4) := by show _ ≤ _; have := HJ.out; omega
          have HM2 : Hid ((L + 3) / 4 * 4 - (4 * (m + 1)) < (L + 3) / 4 * 4 - J) := by show _ < _; have := HJ.out; omega
          clear R1 R2
          go_wp2
          go_roundw
          case rel => exact ⟨m + 1, HM.out, int_eq HE.out, H1.out, H2.out⟩
          case measure =>
            have := HM2.out
            have := HE.out
            simp [intOf]; omega
    · obtain rfl : m = (L + 3) / 4 := by omega
      have hli : ¬ ((4 * ((L + 3) / 4) : Nat) : Int) < (L : Int) := by omega
      have hconv := conv_own hown (lets_len _ _ _ _)
      have HX := hide hnx
      generalize 4 * ((L + 3) / 4) = J at *
      clear hown hnx
      go_wp2
      go_ret
      exact ⟨rfl, HX.out⟩

set_option maxRecDepth 100000 in
set_option maxHeartbeats 800000 in
theorem letters6_any (v : Value) (L : Nat) (hL : L ≤ 8388608) (f : Nat → Nat) (hf : ∀ i, f i < 2) (hf0 : ∀ i, L ≤ i → f i = 0) (A : ByteArray) (T : List UInt8) (hA : A.data.toList = T) (hT : A.size = 64) (w : World) (hv : Ints w v L f) :
    Calls Tryd.prog 22 #[v, .int .i64 6, .string A] w fun e w' => e = .returned (.string ⟨(lets T f 6 ((L + 5) / 6)).toArray⟩) ∧ Below w.heap.size w w' := by
  obtain ⟨i0, hi, hz0, hz1, hz2⟩ := info_parts info8
  obtain ⟨p, cap, rfl, hcell⟩ := hv
  have HC := hide hcell
  have HA := hide hA
  have HF := hide hf
  have HF0 := hide hf0
  clear hcell hA hf hf0
  go_enter Tryd.func22, Tryd.ntmps22
  go_wp2
  go_loopw [7, 8] (fun u i wr => ∃ m : Nat, m ≤ (L + 5) / 6 ∧ i = .int .i64 ((6 * m : Nat) : Int) ∧ wr.ownsRow w.heap.size 5 1 u m ((lets T f 6 m).map B) ∧ Below w.heap.size w wr) (fun _ i _ => (L + 5) / 6 * 6 - (intOf i).toNat)
  case atStart => exact ⟨0, Nat.zero_le _, rfl, World.ownsRow_nil _ _ _ _, Below.refl _ _⟩
  case round =>
    obtain ⟨m, hm, rfl, hown, hnx⟩ := hrel
    by_cases hlt : 6 * m < L
    · have hli : ((6 * m : Nat) : Int) < (L : Int) := by omega
      have HO := hide hown
      have HX := hide hnx
      clear hown hnx
      generalize hJ : 6 * m = J at *
      have HJ := hide hJ
      clear hJ
      go_wp2
      go_loop [9, 10] (fun q k => ∃ j : Nat, j ≤ 6 ∧ k = .int .i64 j ∧ q = I (Rad.grp f J j)) (fun _ k => 6 - (intOf k).toNat)
      case atStart => exact ⟨0, Nat.zero_le _, rfl, rfl⟩
      case round =>
        obtain ⟨j, hj, rfl, rfl⟩ := hrel
        have hg := grp_lt f HF.out J j
        have hgs : Hid (Rad.grp f J (j + 1) = 2 * Rad.grp f J j + f (J + j)) := rfl
        have hpw : 2 ^ j ≤ 64 := Nat.pow_le_pow_right (n := 2) (j := 6) (by decide) hj
        by_cases hjn : j < 6
        · have hf2 := HF.out (J + j)
          have hji : (j : Int) < 6 := by omega
          by_cases hin : J + j < L
          · obtain ⟨g, rfl, hc, hgl⟩ := HC.out (J + j) hin
            have hc' : wr.cell? ⟨g, J + j, none⟩ = some (I (f (J + j))) := by rw [← hc]; exact HX.out.cell hgl
            have hx : ((J : Int) + (j : Int)) < (L : Int) := by omega
            have hx0 : (0 : Int) ≤ ((J : Int) + (j : Int)) := by omega
            have hx1 : ((J : Int) + (j : Int)).toNat = J + j := by omega
            generalize Rad.grp f J j = q at *
            generalize f (J + j) = b at *
            clear hc
            go_wp2
            go_round
            case rel => exact ⟨j + 1, by omega, by go_num, by rw [hgs.out]; exact int_eq (by omega)⟩
            case measure => simp [intOf]; omega
          · have hz : Hid (f (J + j) = 0) := HF0.out _ (by omega)
            have hx : ¬ ((J : Int) + (j : Int)) < (L : Int) := by omega
            generalize Rad.grp f J j = q at *
            go_wp2
            go_round
            case rel => exact ⟨j + 1, by omega, by go_num, by rw [hgs.out, hz.out]; exact int_eq (by omega)⟩
            case measure => simp [intOf]; omega
        · obtain rfl : j = 6 := by omega
          have hgi : ((Rad.grp f J 6 : Nat) : Int) < (A.size : Int) := by rw [hT]; omega
          have hgn : Rad.grp f J 6 < A.size := by rw [hT]; omega
          have hat := list_at HA.out (Rad.grp f J 6) hgn
          have hsn := hide (lets_succ T f 6 m)
          rw [HJ.out] at hsn
          have HTQ := hide hat
          clear hat hg hgs
          generalize Rad.grp f J 6 = q at *
          have hsz := HX.out.size
          have hown := HO.out
          clear hpw hli
          go_wp2_with (at_builtin; refine wpList_append_own _ rfl _ _ 34 rfl w.heap.size 5 i0 (.int .u8 0) 1 1 Tryd.underlying34 hi hz0 hz1 hz2 rfl (by decide) _ _ _ rfl (hown.alloc _) ⟨wr.heap.size, 0, none⟩ 1 1 [B A[q]] rfl rfl ?c1 ?c2 ?c3 ?c4 ?c5 ?_)
          case c1 => exact cell_one_new _ _ _
          case c2 => intro u hu; simp at hu; subst hu; rfl
          case c3 => unfold maxLen; omega
          case c4 => omega
          case c5 => simp; omega
          intro v' w1 hown' hgrow _
          have R1 : w1.ownsRow w.heap.size 5 1 v' (m + 1) ((lets T f 6 (m + 1)).map B) := by
            rw [hsn.out, List.map_append, ← HTQ.out]; exact hown'
          have R2 : Below w.heap.size w w1 := by
            refine (HX.out.alloc hsz _).grown hgrow (by simp; omega) ?_
            exact own_ge hown
          clear hown' hgrow hown
          have H1 := hide R1
          have H2 := hide R2
          have HE : Hid ((J : Int) + 6 = ((6 * (m + 1) : Nat) : Int)) := by show _ = _; rw [← HJ.out]; omega
          have HM : Hid (m + 1 ≤ (L + 5) / 6) := by show _ ≤ _; have := HJ.out; omega
          have HM2 : Hid ((L + 5) / 6 * 6 - (6 * (m + 1)) < (L + 5) / 6 * 6 - J) := by show _ < _; have := HJ.out; omega
          clear R1 R2
          go_wp2
          go_roundw
          case rel => exact ⟨m + 1, HM.out, int_eq HE.out, H1.out, H2.out⟩
          case measure =>
            have := HM2.out
            have := HE.out
            simp [intOf]; omega
    · obtain rfl : m = (L + 5) / 6 := by omega
      have hli : ¬ ((6 * ((L + 5) / 6) : Nat) : Int) < (L : Int) := by omega
      have hconv := conv_own hown (lets_len _ _ _ _)
      have HX := hide hnx
      generalize 6 * ((L + 5) / 6) = J at *
      clear hown hnx
      go_wp2
      go_ret
      exact ⟨rfl, HX.out⟩

end Go.Proofs.YtkmhhodapnlkiaaDoor.radw
