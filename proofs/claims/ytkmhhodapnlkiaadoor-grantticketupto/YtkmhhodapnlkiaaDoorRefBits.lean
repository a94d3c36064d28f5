import Derived.Test.YtkmhhodapnlkiaaDoorSplitWalks
import Derived.Test.YtkmhhodapnlkiaaDoorRadixKit
import Derived.Maps.AppendAt
namespace Go.Proofs.YtkmhhodapnlkiaaDoor.radw
open Go.ChangeShapes Go.WideShapes Go.ChangeAt Go.RowKit Go.Proofs.YtkmhhodapnlkiaaDoor.common
attribute [local go_sem ↓] Go.wp_at_zero Go.wp_at_succ

/-- a list that is being turned: its first k letters are f's, the others h's -/
def part (f h : Nat → UInt8) (n k : Nat) : List UInt8 := (List.range n).map fun i => if i < k then f i else h i
theorem part_len (f h : Nat → UInt8) (n k : Nat) : (part f h n k).length = n := by simp [part]
theorem part_getD (f h : Nat → UInt8) (n k i : Nat) (hi : i < n) : (part f h n k).getD i 0 = if i < k then f i else h i := by unfold part; rw [Rad.getD_map, if_pos hi]
theorem part_zero (f h : Nat → UInt8) (n : Nat) : part f h n 0 = (List.range n).map h := by unfold part; simp
theorem part_all (f h : Nat → UInt8) (n : Nat) : part f h n n = (List.range n).map f := by
  apply Rad.list_eq
  · simp [part]
  · intro i hi; rw [part_len] at hi; rw [part_getD _ _ _ _ _ hi, Rad.getD_map]; simp [hi]
theorem part_set (f h : Nat → UInt8) (n k : Nat) (hk : k < n) {c : UInt8} (hc : c = f k) : (part f h n k).set k c = part f h n (k + 1) := by
  subst hc
  apply Rad.list_eq
  · simp [part]
  · intro i hi
    rw [List.length_set, part_len] at hi
    rw [set_getD _ _ _ _ (by rw [part_len]; exact hk), part_getD _ _ _ _ _ hi, part_getD _ _ _ _ _ hi]
    by_cases h : i = k
    · subst h; simp
    · rw [if_neg h]
      by_cases h2 : i < k
      · rw [if_pos h2, if_pos (by omega)]
      · rw [if_neg h2, if_neg (by omega)]

theorem six_idx (l : List UInt8) (m : Nat) : ((sixB l m).toNat : Int) = ((Rad.six l m : Nat) : Int) := sixB_val l m
theorem n6_val (s : ByteArray) : (8 * (s.size : Int) + 5) / 6 = ((Rad.n6 s.size : Nat) : Int) := by unfold Rad.n6; omega
theorem third_val (s : ByteArray) : (s.size : Int) / 3 = ((s.size / 3 : Nat) : Int) := by omega

end Go.Proofs.YtkmhhodapnlkiaaDoor.radw

namespace Go.Proofs.YtkmhhodapnlkiaaDoor.radw
open Go.ChangeShapes Go.WideShapes Go.ChangeAt Go.RowKit Go.Proofs.YtkmhhodapnlkiaaDoor.common

abbrev I (n : Nat) : Value := .int .i64 (n : Int)

theorem info64 : (Tryd.prog.info? 3).map (fun i => (i.zero, i.size, i.bytes)) = some (some (.int .i64 0), 1, 8) := by kernel_rfl

theorem own_ge {w : World} {base : Nat} {e : TypeId} {size : Nat} {v : Value} {n : Nat} {xs : List Value} (h : w.ownsRow base e size v n xs) : ∀ b, v.ownBlock = some b → base ≤ b := by
  intro b hb
  rcases h.2 with ⟨rfl, _⟩ | ⟨g, cap, cur, rfl, hg, _⟩
  · cases hb
  · cases hb; exact hg

/-- the first n of a row of numbers -/
def row (f : Nat → Nat) (n : Nat) : List Value := (List.range n).map fun i => I (f i)
theorem row_succ (f : Nat → Nat) (n : Nat) : row f (n + 1) = row f n ++ [I (f n)] := by unfold row; rw [List.range_succ, List.map_append]; rfl
theorem row_len (f : Nat → Nat) (n : Nat) : (row f n).length = n := by simp [row]

theorem div_bit (c K : Nat) (hc : c < 256) : (wrap64 ((wrap64 (c : Int)).tdiv (K : Int))).tmod 2 = ((c / K % 2 : Nat) : Int) := by
  have e1 : wrap64 (c : Int) = (c : Int) := by unfold wrap64; omega
  have h1 : c / K ≤ c := Nat.div_le_self c K
  rw [e1, Int.tdiv_eq_ediv_of_nonneg (by omega), ← Int.natCast_ediv]
  clear e1
  generalize c / K = q at *
  have e2 : wrap64 (q : Int) = (q : Int) := by unfold wrap64; omega
  rw [e2, Int.tmod_eq_emod_of_nonneg (by omega)]
  omega

theorem bit_val (l : List UInt8) (k j : Nat) (hj : j < 8) (c : UInt8) (h : Rad.g l k = c.toNat) : (wrap64 ((wrap64 (c.toNat : Int)).tdiv ((2 ^ (7 - j) : Nat) : Int))).tmod 2 = ((Rad.bit l (8 * k + j) : Nat) : Int) := by
  rw [Rad.bit_at l k j hj, h, div_bit _ _ c.toNat_lt]

theorem halves (j : Nat) (hj : j < 7) : ((2 ^ (7 - j) : Nat) : Int) / 2 = ((2 ^ (7 - (j + 1)) : Nat) : Int) := by
  have : 2 ^ (7 - j) = 2 ^ (7 - (j + 1)) * 2 := by rw [← Nat.pow_succ]; congr 1; omega
  rw [this]; omega

set_option maxHeartbeats 400000 in
theorem bits_any (s : ByteArray) (w : World) (hs : s.size ≤ 1048576) :
    Calls Tryd.prog 21 #[.string s] w fun e w' => ∃ v, e = .returned v ∧ w'.ownsRow w.heap.size 3 1 v (8 * s.size) (row (Rad.bit s.data.toList) (8 * s.size)) ∧ Below w.heap.size w w' := by
  obtain ⟨i0, hi, hz0, hz1, hz2⟩ := info_parts info64
  go_enter Tryd.func21, Tryd.ntmps21
  go_wp2
  go_loopw [3, 4] (fun v i wr => ∃ k : Nat, k ≤ s.size ∧ i = .int .i64 k ∧ wr.ownsRow w.heap.size 3 1 v (8 * k) (row (Rad.bit s.data.toList) (8 * k)) ∧ Below w.heap.size w wr) (fun _ i _ => s.size - (intOf i).toNat)
  case atStart => exact ⟨0, Nat.zero_le _, rfl, World.ownsRow_nil _ _ _ _, Below.refl _ _⟩
  case round =>
    obtain ⟨k, hk, rfl, hown, hnx⟩ := hrel
    by_cases hlt : k < s.size
    · have hgk := hide (g_at s k hlt)
      obtain ⟨wo, rfl⟩ : ∃ wo : World, wo = wr := ⟨_, rfl⟩
      have HO := hide hown
      have HX := hide hnx
      clear hown hnx
      go_wp2
      go_loopw [3, 6] (fun v i wr => ∃ j : Nat, j ≤ 8 ∧ i = (if j = 8 then .int .i64 0 else .int .i64 ((2 ^ (7 - j) : Nat) : Int)) ∧ wr.ownsRow w.heap.size 3 1 v (8 * k + j) (row (Rad.bit s.data.toList) (8 * k + j)) ∧ Below w.heap.size w wr) (fun _ i _ => (intOf i).toNat)
      case atStart => exact ⟨0, Nat.zero_le _, rfl, HO.out, HX.out⟩
      case round =>
        obtain ⟨j, hj, rfl, hown, hnx⟩ := hrel
        have hsz := hnx.size
        by_cases hj8 : j < 8
        · have hbv := bit_val s.data.toList k j hj8 s[k] hgk.out
          have hp : 0 < 2 ^ (7 - j) := Nat.pow_pos (by decide)
          have hp1 : 2 ^ (7 - j) ≤ 128 := Nat.pow_le_pow_right (n := 2) (by decide) (show 7 - j ≤ 7 by omega)
          have hhalf : Hid (((2 ^ (7 - j) : Nat) : Int) / 2 = if j + 1 = 8 then 0 else ((2 ^ (7 - (j + 1)) : Nat) : Int)) := by
            show _ = _
            by_cases h7 : j = 7
            · subst h7; rfl
            · rw [if_neg (by omega), halves j (by omega)]
          have hsn := hide (row_succ (Rad.bit s.data.toList) (8 * k + j))
          rw [if_neg (by omega)]
          generalize Rad.bit s.data.toList (8 * k + j) = b at *
          generalize 2 ^ (7 - j) = K at *
          go_wp2_with (at_builtin; refine wpList_append_own _ rfl _ _ 48 rfl w.heap.size 3 i0 (.int .i64 0) 1 8 Tryd.underlying48 hi hz0 hz1 hz2 rfl (by decide) _ _ _ rfl (hown.alloc _) ⟨wr.heap.size, 0, none⟩ 1 1 [I b] rfl rfl ?c1 ?c2 ?c3 ?c4 ?c5 ?_)
          case c1 => exact cell_one_new _ _ _
          case c2 => intro u hu; simp at hu; subst hu; rfl
          case c3 => unfold maxLen; omega
          case c4 => omega
          case c5 => simp; omega
          intro v' w1 hown' hgrow _
          have R1 : w1.ownsRow w.heap.size 3 1 v' (8 * k + (j + 1)) (row (Rad.bit s.data.toList) (8 * k + (j + 1))) := by
            rw [← Nat.add_assoc, hsn.out]; exact hown'
          have R2 : Below w.heap.size w w1 := by
            refine (hnx.alloc hsz _).grown hgrow (by simp; omega) ?_
            exact own_ge hown
          clear hown' hgrow hown hbv
          have H1 := hide R1
          have H2 := hide R2
          clear R1 R2
          go_wp2
          go_roundw
          case rel => exact ⟨j + 1, by omega, by rw [hhalf.out]; split <;> rfl, H1.out, H2.out⟩
          case measure => simp [intOf]; omega
        · obtain rfl : j = 8 := by omega
          rw [if_pos rfl]
          have H1 := hide hown
          have H2 := hide hnx
          clear hown hnx
          go_wp2
          go_roundw
          case rel => exact ⟨k + 1, by omega, by go_num, H1.out, H2.out⟩
          case measure => simp [intOf]; omega
    · obtain rfl : k = s.size := by omega
      have H1 := hide hown
      have H2 := hide hnx
      clear hown hnx
      go_wp2
      go_ret
      exact ⟨_, rfl, H1.out, H2.out⟩

end Go.Proofs.YtkmhhodapnlkiaaDoor.radw
