import Derived.Test.YtkkgngmhdlmgnaaDoorRefQuote
namespace Go.Proofs.YtkkgngmhdlmgnaaDoor.jw
open Go.ChangeShapes Go.WideShapes Go.ChangeAt Go.RowKit Go.Proofs.YtkkgngmhdlmgnaaDoor.common
attribute [local go_sem ↓] Go.wp_at_zero Go.wp_at_succ

theorem inner_snoc (s : ByteArray) (k : Nat) (h : k < s.size) : Json.inner (s.data.toList.take (k + 1)) = Json.inner (s.data.toList.take k) ++ Json.esc s[k] := by
  rw [take_snoc s k h, Json.inner_append]
  simp [Json.inner]

set_option maxRecDepth 100000 in
set_option maxHeartbeats 1600000 in
theorem refQuote_any (s : ByteArray) (w : World) (hs : 6 * s.size + 8 ≤ 140737488355328) :
    Calls Tryd.prog 25 #[.string s] w fun e w' => e = .returned (if Lib.validD s.data.toList = true then .tuple #[S (Json.quote s.data.toList), .int .i64 0] else .tuple #[S [], .int .i64 2]) ∧ Below w.heap.size w w' := by
  obtain ⟨i0, hi, hz0, hz1, hz2⟩ := info_parts info8
  obtain ⟨R, hR⟩ : ∃ R : Value, (if Lib.validD s.data.toList = true then .tuple #[S (Json.quote s.data.toList), .int .i64 0] else .tuple #[S [], .int .i64 2] : Value) = R := ⟨_, rfl⟩
  rw [hR]
  have HR := hide hR
  clear hR
  go_enter Tryd.func25, Tryd.ntmps25
  go_wp2_with fail
  refine (refPlain_any s w (by omega)).mono ?_
  rintro e w' ⟨rfl, rfl⟩
  obtain ⟨w, rfl⟩ : ∃ w : World, w = w' := ⟨_, rfl⟩
  by_cases hv : Lib.validD s.data.toList = true
  · have HR2 : Hid (R = .tuple #[S (Json.quote s.data.toList), .int .i64 0]) := by show _ = _; rw [← HR.out, if_pos hv]
    rw [hv]
    clear hv HR
    go_wp2_with (at_builtin; refine wpList_append_own _ rfl _ _ 60 rfl w.heap.size 5 i0 (.int .u8 0) 1 1 Tryd.underlying60 hi hz0 hz1 hz2 rfl (by decide) _ _ _ rfl ((World.ownsRow_nil _ _ _ _).alloc _) ⟨w.heap.size, 0, none⟩ 1 1 [_] rfl rfl (cell_one_new _ _ _) ?c2 ?c3 ?c4 ?c5 ?_)
    case c2 => first | rfl | (intro u hu; simp at hu; subst hu; rfl)
    case c3 => unfold maxLen; omega
    case c4 => omega
    case c5 => first | omega | (simp; done) | (simp; omega)
    intro v1 w1 hown' hgrow _
    have H1 : Hid (w1.ownsRow w.heap.size 5 1 v1 ([34] ++ Json.inner (s.data.toList.take 0)).length (([34] ++ Json.inner (s.data.toList.take 0)).map B)) := hown'
    have H2 : Hid (Fr w.heap.size w w1) := ((Fr.refl w.heap.size w).alloc (Nat.le_refl _) _).grown ((World.ownsRow_nil _ _ _ _).alloc _) hgrow (by simp)
    clear hown' hgrow
    go_wp2_with fail
    go_loopw [5, 6] (fun v i wr => ∃ k : Nat, k ≤ s.size ∧ i = .int .i64 k ∧ wr.ownsRow w.heap.size 5 1 v ([34] ++ Json.inner (s.data.toList.take k)).length (([34] ++ Json.inner (s.data.toList.take k)).map B) ∧ Fr w.heap.size w wr) (fun _ i _ => s.size - (intOf i).toNat)
    case atStart => exact ⟨0, Nat.zero_le _, rfl, H1.out, H2.out⟩
    case round =>
      obtain ⟨k, hk, rfl, hown, hfr⟩ := hrel
      have hbw := hfr.size
      by_cases hlt : k < s.size
      · have hki : (k : Int) < (s.size : Int) := by omega
        have hlen2 := (inner_len (s.data.toList.take k)).2
        rw [List.length_take, len_list] at hlen2
        have hlen3 : ([34] ++ Json.inner (s.data.toList.take k)).length + 6 ≤ 140737488355328 := by
          simp only [List.length_append, List.length_cons, List.length_nil]; omega
        have HSN : Hid ([34] ++ Json.inner (s.data.toList.take (k + 1)) = ([34] ++ Json.inner (s.data.toList.take k)) ++ Json.esc s[k]) := by
          show _ = _
          rw [inner_snoc s k hlt, ← List.append_assoc]
        have HO := hide hown
        have HF := hide hfr
        clear hown hfr hlen2
        generalize [34] ++ Json.inner (s.data.toList.take k) = L at *
        go_wp2_with fail
        refine (refQuoted_any w.heap.size _ L s[k] wr HO.out hlen3 hbw).mono ?_
        rintro e W2 ⟨v2, rfl, ho2, hf2⟩
        have HO2 := hide ho2
        have HF2 := hide (HF.out.trans hf2)
        clear ho2 hf2
        go_wp2
        go_roundw
        case rel => exact ⟨k + 1, by omega, by go_num, by rw [HSN.out]; exact HO2.out, HF2.out⟩
        case measure => simp [intOf] <;> omega
      · obtain rfl : k = s.size := by omega
        have hall : s.data.toList.take s.size = s.data.toList := List.take_of_length_le (by rw [len_list]; exact Nat.le_refl _)
        rw [hall] at hown
        have hlen2 := (inner_len s.data.toList).2
        rw [len_list] at hlen2
        have hlen3 : ([34] ++ Json.inner s.data.toList).length + 1 ≤ 140737488355328 := by
          simp only [List.length_append, List.length_cons, List.length_nil]; omega
        have HQ : Hid (Json.quote s.data.toList = ([34] ++ Json.inner s.data.toList) ++ [34]) := by show _ = _; simp [Json.quote]
        have HF := hide hfr
        have HOw := hide hown
        clear hall hlen2 hown hfr
        generalize [34] ++ Json.inner s.data.toList = L at *
        go_wp2_with (at_builtin; refine wpList_append_own _ rfl _ _ 60 rfl w.heap.size 5 i0 (.int .u8 0) 1 1 Tryd.underlying60 hi hz0 hz1 hz2 rfl (by decide) _ _ _ rfl (HOw.out.alloc _) ⟨wr.heap.size, 0, none⟩ 1 1 [_] rfl rfl (cell_one_new _ _ _) ?d2 ?d3 ?d4 ?d5 ?_)
        case d2 => first | rfl | (intro u hu; simp at hu; subst hu; rfl)
        case d3 => unfold maxLen; omega
        case d4 => omega
        case d5 => first | omega | (simp; omega)
        intro v' w2 hown' hgrow _
        have K1 : Hid (w2.ownsRow w.heap.size 5 1 v' (Json.quote s.data.toList).length ((Json.quote s.data.toList).map B)) := by
          show w2.ownsRow _ _ _ _ _ _
          rw [HQ.out, List.length_append, List.map_append]; exact hown'
        have K2 : Hid (Below w.heap.size w w2) := ((HF.out.alloc hbw _).grown (HOw.out.alloc _) hgrow (by simp; omega)).below
        have hconv := conv_own K1.out rfl
        clear hown' hgrow
        go_wp2
        go_ret2
        exact ⟨by rw [HR2.out]; rfl, K2.out⟩
  · have HR2 : Hid (R = .tuple #[S [], .int .i64 2]) := by show _ = _; rw [← HR.out, if_neg hv]
    have hv : Lib.validD s.data.toList = false := by simpa using hv
    rw [hv]
    go_wp2
    go_ret2
    exact ⟨by rw [HR2.out]; rfl, Below.refl _ _⟩
end Go.Proofs.YtkkgngmhdlmgnaaDoor.jw
