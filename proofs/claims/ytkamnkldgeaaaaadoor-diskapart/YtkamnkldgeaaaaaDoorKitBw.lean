import Derived.Test.YtkamnkldgeaaaaaDoorKitB
namespace Go.Proofs.YtkamnkldgeaaaaaDoor.kitw
open Go.ChangeShapes Go.WideShapes Go.ChangeAt Go.RowKit Go.Proofs.YtkamnkldgeaaaaaDoor.common

set_option maxHeartbeats 400000 in
theorem bytes_wide (s : ByteArray) (w : World) (hs : s.size ≤ 140737488355328) :
    Calls Tryd.prog 4 #[.string s] w fun e w' => ∃ v, e = .returned v ∧ w'.ownsRow w.heap.size 5 1 v s.size (s.data.toList.map B) ∧ (s.size = 0 → v = .slice none 0 0) ∧ Below w.heap.size w w' := by
  obtain ⟨i0, hi, hz0, hz1, hz2⟩ := info_parts info8
  go_enter Tryd.func4, Tryd.ntmps4
  go_wp2
  go_loopw [3, 4] (fun v i wr => ∃ k : Nat, k ≤ s.size ∧ i = .int .i64 k ∧ wr.ownsRow w.heap.size 5 1 v k ((s.data.toList.take k).map B) ∧ (k = 0 → v = .slice none 0 0) ∧ Below w.heap.size w wr) (fun _ i _ => s.size - (intOf i).toNat)
  case atStart => exact ⟨0, Nat.zero_le _, rfl, World.ownsRow_nil _ _ _ _, fun _ => rfl, Below.refl _ _⟩
  case round =>
    obtain ⟨k, hk, rfl, hown, hnil, hnx⟩ := hrel
    have hsz := hnx.size
    have HE := hide hnil
    clear hnil
    by_cases hlt : k < s.size
    · have hsn := hide (take_snoc s k hlt)
      go_wp2_with (at_builtin; refine wpList_append_own _ rfl _ _ 25 rfl w.heap.size 5 i0 (.int .u8 0) 1 1 Tryd.underlying25 hi hz0 hz1 hz2 rfl (by decide) _ _ _ rfl (hown.alloc _) ⟨wr.heap.size, 0, none⟩ 1 1 [B s[k]] rfl rfl ?c1 ?c2 ?c3 ?c4 ?c5 ?_)
      case c1 => exact cell_one_new _ _ _
      case c2 => intro u hu; simp at hu; subst hu; rfl
      case c3 => unfold maxLen; omega
      case c4 => omega
      case c5 => simp; omega
      intro v' w1 hown' hgrow _
      have R1 : w1.ownsRow w.heap.size 5 1 v' (k + 1) ((s.data.toList.take (k + 1)).map B) := by
        rw [hsn.out, List.map_append, List.map_take]; exact hown'
      have R2 : Below w.heap.size w w1 := by
        refine (hnx.alloc hsz _).grown hgrow (by simp; omega) ?_
        exact own_ge hown
      clear hown' hgrow hown
      have H1 := hide R1
      have H2 := hide R2
      clear R1 R2
      go_wp2
      go_roundw
      case rel => exact ⟨k + 1, by omega, by go_num, H1.out, fun h => by omega, H2.out⟩
      case measure => simp [intOf]; omega
    · obtain rfl : k = s.size := by omega
      have H1 : Hid (wr.ownsRow w.heap.size 5 1 u3 s.size (s.data.toList.map B)) := by
        rw [List.take_of_length_le (by simp)] at hown; exact hown
      have H2 := hide hnx
      clear hown hnx
      go_wp2
      go_ret
      exact ⟨_, rfl, H1.out, HE.out, H2.out⟩

end Go.Proofs.YtkamnkldgeaaaaaDoor.kitw
