import Derived.Test.YtkkkgpcdnjijbabDoorScopeBackM
namespace Go.Proofs.YtkkkgpcdnjijbabDoor.tm
open Go.ChangeShapes Go.WideShapes Go.ChangeAt Go.RowKit Go.Proofs.YtkkkgpcdnjijbabDoor.common Go.Proofs.YtkkkgpcdnjijbabDoor.bk
open Go.Proofs.YtkkkgpcdnjijbabDoor.ss (sc)
attribute [local go_sem ↓] Go.wp_at_zero Go.wp_at_succ

theorem drop_at (s : ByteArray) (k : Nat) (h : k < s.size) : s.data.toList.drop k = s[k] :: s.data.toList.drop (k + 1) := List.drop_eq_getElem_cons (by simpa using h)
theorem ext_one (s : ByteArray) (k : Nat) (h : k < s.size) : s.extract k (k + 1) = ⟨#[s[k]]⟩ := by
  apply ba_ext
  have e : (s.extract k (k + 1)).data.toList = (s.data.toList.drop k).take 1 := by simp
  rw [e, drop_at s k h]; rfl
theorem app_list (a b : ByteArray) : (a ++ b).data.toList = a.data.toList ++ b.data.toList := by simp

set_option maxRecDepth 100000 in
set_option maxHeartbeats 3200000 in
theorem words_any (s : ByteArray) (w : World) (hs : s.size ≤ 4294967200) :
    Calls Tryd.prog 19 #[.string s] w fun e w' => ∃ v, e = .returned v ∧ w'.ownsRow w.heap.size 9 1 v (tsq.parts 32 s).length (sc (tsq.parts 32 s)) ∧ Below w.heap.size w w' := by
  obtain ⟨i0, hi, hz0, hz1, hz2⟩ := info_parts ss.infoS
  have HP : Hid (tsq.parts 32 s = (Tm.split 32 s.data.toList).map fun l => ⟨l.toArray⟩) := rfl
  have HPL := hide (parts_le 32 s)
  go_enter Tryd.func19, Tryd.ntmps19
  go_wp2_with fail
  go_loopw [3, 4, 5] (fun v x i wr => ∃ (k : Nat) (L : List ByteArray) (q : ByteArray), k ≤ s.size ∧ i = .int .i64 k ∧ x = .string q ∧ q.size ≤ k ∧ L.length ≤ k ∧
      Hid (tsq.parts 32 s = L ++ (pre q.data.toList (Tm.split 32 (s.data.toList.drop k))).map fun l => ⟨l.toArray⟩) ∧ Hid (wr.ownsRow w.heap.size 9 1 v L.length (sc L)) ∧ Hid (Below w.heap.size w wr)) (fun _ _ i _ => s.size - (intOf i).toNat)
  case atStart => exact ⟨0, [], ⟨#[]⟩, Nat.zero_le _, rfl, rfl, Nat.le_refl _, Nat.le_refl _, by show _ = _; rw [HP.out, List.drop_zero]; show _ = [] ++ _; rw [List.nil_append]; show _ = (pre [] _).map _; rw [pre_nil], World.ownsRow_nil _ _ _ _, Below.refl _ _⟩
  case round =>
    obtain ⟨k, L, q, hk, rfl, rfl, hq, hL, HI, HO, HB⟩ := hrel
    obtain ⟨oo, on, oc, rfl⟩ : ∃ oa n cap, u3 = .slice oa n cap := by
      rcases HO.out.2 with ⟨h, _⟩ | ⟨g, cap, cur, h, _⟩
      · exact ⟨none, 0, 0, h⟩
      · exact ⟨_, _, cap, h⟩
    have hsz := HB.out.size
    have hown := HO.out
    by_cases hlt : k < s.size
    · have hki : (k : Int) < (s.size : Int) := by omega
      have k0 : (0 : Int) ≤ (k : Int) := Int.natCast_nonneg _
      have HD := hide (drop_at s k hlt)
      by_cases hb : s[k].toNat = 32
      · have hbi : (s[k].toNat : Int) = 32 := by omega
        have hb8 : s[k] = 32 := UInt8.toNat_inj.1 hb
        have HN : Hid (tsq.parts 32 s = (L ++ [q]) ++ (pre [] (Tm.split 32 (s.data.toList.drop (k + 1)))).map fun l => ⟨l.toArray⟩) := by
          show _ = _
          rw [HI.out, HD.out, hb8, pre_sep, List.map_cons, List.append_assoc]; rfl
        clear hb8 HI
        go_wp2_with (at_builtin; refine wpList_append_own _ rfl _ _ 25 rfl w.heap.size 9 i0 (.string ⟨#[]⟩) 1 16 Tryd.underlying25 hi hz0 hz1 hz2 rfl (by decide) _ _ _ rfl (hown.alloc _) ⟨wr.heap.size, 0, none⟩ 1 1 [.string q] rfl rfl (bk.cell_one_new _ _ _) ?c2 ?c3 ?c4 ?c5 ?_)
        case c2 => first | rfl | (intro u hu; simp at hu; rcases hu with rfl; rfl)
        case c3 => unfold maxLen; omega
        case c4 => omega
        case c5 => first | omega | (simp; omega)
        intro v' w2 hown' hgrow _
        have R1 : Hid (w2.ownsRow w.heap.size 9 1 v' (L ++ [q]).length (sc (L ++ [q]))) := by
          show w2.ownsRow _ _ _ _ _ _
          rw [List.length_append]
          show w2.ownsRow _ _ _ _ _ (List.map Value.string (L ++ [q]))
          rw [List.map_append]; exact hown'
        have R2 : Hid (Below w.heap.size w w2) := (HB.out.alloc hsz _).grown hgrow (by simp; omega) (own_ge hown)
        clear hown' hgrow hown
        go_wp2
        go_roundw
        case rel => exact ⟨k + 1, L ++ [q], ⟨#[]⟩, by omega, by go_num, rfl, Nat.zero_le _, by rw [List.length_append]; simp; omega, HN, R1, R2⟩
        case measure => simp [intOf]; omega
      · have hbi : ¬ (s[k].toNat : Int) = 32 := by omega
        have hb8 : s[k] ≠ 32 := fun e => hb (by rw [e]; rfl)
        have HN : Hid (tsq.parts 32 s = L ++ (pre (q ++ s.extract k (k + 1)).data.toList (Tm.split 32 (s.data.toList.drop (k + 1)))).map fun l => ⟨l.toArray⟩) := by
          show _ = _
          rw [HI.out, HD.out, pre_not 32 _ hb8, app_list, ext_one s k hlt]
        have hqs : (q ++ s.extract k (k + 1)).size = q.size + 1 := by rw [ext_one s k hlt, ByteArray.size_append]; rfl
        have HQS := hide hqs
        have k1 : (k : Int) + 1 ≤ (s.size : Int) := by omega
        have k2 : (k : Int) ≤ (k : Int) + 1 := by omega
        have k3 : ((k : Int) + 1).toNat = k + 1 := by omega
        have k4 : (0 : Int) ≤ (k : Int) + 1 := by omega
        have ww : IntKind.i64.wrap ((k : Int) + 1) = (k : Int) + 1 := wrap_le _ (by omega) (by omega)
        have hes : (s.extract k (k + 1)).size = 1 := by rw [ext_one s k hlt]; rfl
        clear hb8 HI hqs hown
        go_wp2_with fail
        go_roundw
        case rel => exact ⟨k + 1, L, q ++ s.extract k (k + 1), by omega, by go_num, rfl, by rw [HQS.out]; omega, by omega, HN, HO, HB⟩
        case measure => simp [intOf]; omega
    · obtain rfl : k = s.size := by omega
      have HN : Hid (tsq.parts 32 s = L ++ [q]) := by
        show _ = _
        rw [HI.out, List.drop_eq_nil_of_le (by rw [len_list]; exact Nat.le_refl _), pre_end]; rfl
      clear HI
      go_wp2_with (at_builtin; refine wpList_append_own _ rfl _ _ 25 rfl w.heap.size 9 i0 (.string ⟨#[]⟩) 1 16 Tryd.underlying25 hi hz0 hz1 hz2 rfl (by decide) _ _ _ rfl (hown.alloc _) ⟨wr.heap.size, 0, none⟩ 1 1 [.string q] rfl rfl (bk.cell_one_new _ _ _) ?c2 ?c3 ?c4 ?c5 ?_)
      case c2 => first | rfl | (intro u hu; simp at hu; rcases hu with rfl; rfl)
      case c3 => unfold maxLen; omega
      case c4 => omega
      case c5 => first | omega | (simp; omega)
      intro v' w2 hown' hgrow _
      have R1 : Hid (w2.ownsRow w.heap.size 9 1 v' (tsq.parts 32 s).length (sc (tsq.parts 32 s))) := by
        show w2.ownsRow _ _ _ _ _ _
        rw [HN.out, List.length_append]
        show w2.ownsRow _ _ _ _ _ (List.map Value.string (L ++ [q]))
        rw [List.map_append]; exact hown'
      have R2 : Hid (Below w.heap.size w w2) := (HB.out.alloc hsz _).grown hgrow (by simp; omega) (own_ge hown)
      clear hown' hgrow hown
      go_wp2
      go_ret
      exact ⟨_, rfl, R1.out, R2.out⟩

end Go.Proofs.YtkkkgpcdnjijbabDoor.tm
