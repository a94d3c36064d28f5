import Derived.Test.YthpickmiohakbaaDoorMacWalks
import Derived.Maps.AppendAt
namespace Go.Proofs.YthpickmiohakbaaDoor.shaw
open Go.ChangeShapes Go.WideShapes Go.ChangeAt Go.RowKit Go.Proofs.YthpickmiohakbaaDoor.common
attribute [local go_sem ↓] Go.wp_at_zero Go.wp_at_succ

theorem infoB : (Tryd.prog.info? 5).map (fun i => (i.zero, i.size, i.bytes)) = some (some (.int .u8 0), 1, 1) := by kernel_rfl
theorem own_ge {w : World} {base : Nat} {e : TypeId} {size : Nat} {v : Value} {n : Nat} {xs : List Value} (h : w.ownsRow base e size v n xs) : ∀ b, v.ownBlock = some b → base ≤ b := by
  intro b hb
  rcases h.2 with ⟨rfl, _⟩ | ⟨g, cap, cur, rfl, hg, _⟩
  · cases hb
  · cases hb; exact hg
theorem conv_own {w : World} {base : Nat} {e : TypeId} {v : Value} {l : List UInt8} {n : Nat} (h : w.ownsRow base e 1 v n (l.map B)) (hn : l.length = n) :
    (convert 45 9 v).run Tryd.prog w = .ok (.string ⟨l.toArray⟩) w := by
  subst hn
  rcases h.2 with ⟨rfl, h0⟩ | ⟨g, cap, cur, rfl, hg, hh, hn, _, hsz, htk⟩
  · rw [run_convert_bytes_nil (P := Tryd.prog) w 45 5 Tryd.underlying45 Tryd.underlying5 0 0 9 Tryd.underlying9]
    obtain rfl : l = [] := List.eq_nil_of_length_eq_zero h0
    rfl
  · refine run_convert_bytes_back (P := Tryd.prog) w 45 9 5 ⟨g, 0, none⟩ cap l Tryd.underlying45 Tryd.underlying5 Tryd.underlying9 ?_
    intro j hj
    rw [Addr.add_mid, Nat.zero_add]
    have : (cur.toList.take (l.length * 1))[j]? = (l.map B)[j]? := by rw [htk]
    rw [List.getElem?_take_of_lt (by omega)] at this
    simp only [World.cell?, hh]
    simp [hj] at this
    simpa using this
/-- a key's block, its first i bytes -/
def padL (k : List UInt8) (c : UInt8) (i : Nat) : List UInt8 := ((zpad k).take i).map (· ^^^ c)
theorem padL_succ (k : List UInt8) (c : UInt8) (i : Nat) (hk : k.length ≤ 64) (hi : i < 64) : padL k c (i + 1) = padL k c i ++ [(zpad k).getD i 0 ^^^ c] := by
  have h : i < (zpad k).length := by rw [zpad_length k hk]; exact hi
  unfold padL
  rw [List.take_succ_eq_append_getElem h, List.map_append, List.getD_eq_getElem?_getD, List.getElem?_eq_getElem h]
  rfl
theorem padL_all (k : List UInt8) (c : UInt8) (hk : k.length ≤ 64) : padL k c 64 = blk k c := by
  unfold padL blk; rw [List.take_of_length_le (by rw [zpad_length k hk]; exact Nat.le_refl _)]
theorem padL_len (k : List UInt8) (c : UInt8) (i : Nat) (hk : k.length ≤ 64) (hi : i ≤ 64) : (padL k c i).length = i := by
  unfold padL; rw [List.length_map, List.length_take, zpad_length k hk]; omega
theorem zpad_in (s : ByteArray) (i : Nat) (h : i < s.size) : (zpad s.data.toList).getD i 0 = s[i] := by
  have h' : i < s.data.toList.length := by rw [lenL]; exact h
  unfold zpad
  rw [List.getD_eq_getElem?_getD, List.getElem?_append_left h', List.getElem?_eq_getElem h']
  rfl
theorem zpad_out (s : ByteArray) (i : Nat) (h : ¬ i < s.size) : (zpad s.data.toList).getD i 0 = 0 := by
  unfold zpad
  rw [List.getD_eq_getElem?_getD, List.getElem?_append_right (by rw [lenL]; omega), List.getElem?_replicate]
  split <;> rfl

set_option maxRecDepth 100000 in
set_option maxHeartbeats 800000 in
theorem padded_any (s : ByteArray) (c : UInt8) (w : World) (hs : s.data.toList.length ≤ 64) :
    Calls Tryd.prog 11 #[.string s, .int .u8 (c.toNat : Int)] w fun e w' => e = .returned (.string ⟨(blk s.data.toList c).toArray⟩) ∧ Below w.heap.size w w' := by
  obtain ⟨i0, hi, hz0, hz1, hz2⟩ := info_parts infoB
  have HW0 := hide (Below.refl w.heap.size w)
  go_enter Tryd.func11, Tryd.ntmps11
  go_wp2_with fail
  go_loopw [5, 6] (fun v i wr => ∃ k : Nat, k ≤ 64 ∧ i = .int .i64 k ∧ wr.ownsRow w.heap.size 5 1 v k ((padL s.data.toList c k).map B) ∧ Below w.heap.size w wr) (fun _ i _ => 64 - (intOf i).toNat)
  case atStart => exact ⟨0, Nat.zero_le _, rfl, World.ownsRow_nil _ _ _ _, HW0.out⟩
  case round =>
    obtain ⟨k, hk, rfl, hown, hnx⟩ := hrel
    have hsz := hnx.size
    by_cases hlt : k < 64
    · have hki : (k : Int) < 64 := by omega
      have hsn := hide (padL_succ s.data.toList c k hs hlt)
      have HEND : Hid (∀ (v' : Value) (w1 : World), w1.ownsRow w.heap.size 5 1 v' (k + 1) ((padL s.data.toList c k).map B ++ [B ((zpad s.data.toList).getD k 0 ^^^ c)]) → w1.ownsRow w.heap.size 5 1 v' (k + 1) ((padL s.data.toList c (k + 1)).map B)) := fun v' w1 h => by rw [hsn.out, List.map_append]; exact h
      by_cases hin : k < s.size
      · have hini : (k : Int) < (s.size : Int) := by omega
        have hz := zpad_in s k hin
        have hx := xor8 s[k] c
        rw [hz] at HEND
        generalize s[k] ^^^ c = y at *
        clear hz
        go_wp2_with (at_builtin; refine wpList_append_own _ rfl _ _ 45 rfl w.heap.size 5 i0 (.int .u8 0) 1 1 Tryd.underlying45 hi hz0 hz1 hz2 rfl (by decide) _ _ _ rfl (hown.alloc _) ⟨wr.heap.size, 0, none⟩ 1 1 [B y] rfl rfl ?c1 ?c2 ?c3 ?c4 ?c5 ?_)
        try (case c1 => exact cell_one_new _ _ _)
        case c2 => first | rfl | (intro u hu; simp at hu; subst hu; rfl)
        case c3 => unfold maxLen; omega
        case c4 => omega
        case c5 => first | omega | (simp; omega)
        intro v' w1 hown' hgrow _
        have H1 := hide (HEND.out _ _ hown')
        have H2 : Hid (Below w.heap.size w w1) := (hnx.alloc hsz _).grown hgrow (by simp; omega) (own_ge hown)
        clear hown' hgrow hown hx
        go_wp2
        go_roundw
        case rel => exact ⟨k + 1, by omega, by go_num, H1.out, H2.out⟩
        case measure => simp [intOf]; omega
      · have hini : ¬ (k : Int) < (s.size : Int) := by omega
        have hz := zpad_out s k hin
        have hx : bits .xor .u8 0 (c.toNat : Int) = ((0 ^^^ c : UInt8).toNat : Int) := xor8 0 c
        rw [hz] at HEND
        generalize (0 ^^^ c : UInt8) = y at *
        clear hz
        go_wp2_with (at_builtin; refine wpList_append_own _ rfl _ _ 45 rfl w.heap.size 5 i0 (.int .u8 0) 1 1 Tryd.underlying45 hi hz0 hz1 hz2 rfl (by decide) _ _ _ rfl (hown.alloc _) ⟨wr.heap.size, 0, none⟩ 1 1 [B y] rfl rfl ?c1 ?c2 ?c3 ?c4 ?c5 ?_)
        try (case c1 => exact cell_one_new _ _ _)
        case c2 => first | rfl | (intro u hu; simp at hu; subst hu; rfl)
        case c3 => unfold maxLen; omega
        case c4 => omega
        case c5 => first | omega | (simp; omega)
        intro v' w1 hown' hgrow _
        have H1 := hide (HEND.out _ _ hown')
        have H2 : Hid (Below w.heap.size w w1) := (hnx.alloc hsz _).grown hgrow (by simp; omega) (own_ge hown)
        clear hown' hgrow hown hx
        go_wp2
        go_roundw
        case rel => exact ⟨k + 1, by omega, by go_num, H1.out, H2.out⟩
        case measure => simp [intOf]; omega
    · obtain rfl : k = 64 := by omega
      rw [padL_all _ _ hs] at hown
      have hconv := conv_own hown (by rw [← padL_all _ _ hs, padL_len _ _ _ hs (Nat.le_refl _)])
      have H2 := hide hnx
      clear hown hnx
      go_wp2
      go_ret
      exact ⟨rfl, H2.out⟩

end Go.Proofs.YthpickmiohakbaaDoor.shaw
