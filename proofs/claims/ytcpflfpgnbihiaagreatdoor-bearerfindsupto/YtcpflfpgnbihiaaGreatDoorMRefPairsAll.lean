import Derived.Test.YtcpflfpgnbihiaaGreatDoorMRefPairs
import Derived.Test.YtcpflfpgnbihiaaGreatDoorMRefPieces
namespace Go.Proofs.YtcpflfpgnbihiaaGreatDoor.pctw
open Go.ChangeShapes Go.WideShapes Go.ChangeAt Go.RowKit Go.Proofs.YtcpflfpgnbihiaaGreatDoor.common
open Go.Proofs.YtcpflfpgnbihiaaGreatDoor.lst (PB cl cl_app infoP own_below)
attribute [local go_sem ↓] Go.wp_at_zero Go.wp_at_succ

set_option maxRecDepth 100000 in
set_option maxHeartbeats 3200000 in
theorem refPairs_any (s : ByteArray) (w : World) (hs : s.size ≤ 1048576) :
    Calls Tryz.prog 34 #[.string s] w fun x w' => Below w.heap.size w w' ∧
      ((33 ≤ (Pct.pieces s.data.toList).length ∧ x = .returned (.tuple #[.slice none 0 0, .int .i64 3])) ∨
        ((Pct.pieces s.data.toList).length ≤ 32 ∧ Pct.pairAll (Pct.pieces s.data.toList) = none ∧ x = .returned (.tuple #[.slice none 0 0, .int .i64 2])) ∨
        ((Pct.pieces s.data.toList).length ≤ 32 ∧ ∃ q v, Pct.pairAll (Pct.pieces s.data.toList) = some q ∧ x = .returned (.tuple #[v, .int .i64 0]) ∧ w'.ownsRow w.heap.size 35 2 v (q.map mk).length (cl (q.map mk)))) := by
  obtain ⟨i0, hi, hz0, hz1, hz2⟩ := info_parts infoP
  have HS := hide hs
  clear hs
  go_enter Tryz.func34, Tryz.ntmps34
  go_wp2_with fail
  refine (refPieces_any s w HS.out).mono ?_
  rintro x w1 ⟨v, q, rfl, hown, hb1, hq⟩
  obtain ⟨oa, cap, rfl, hc⟩ := str_cell hown
  have HC := hide hc
  have HB1 := hide hb1
  have HLE : Hid ((Pct.pieces s.data.toList).length = q.length) := by show _ = _; rw [← hq, List.length_map]
  have HQ : Hid (∀ i (h : i < q.length), ∃ h2 : i < (Pct.pieces s.data.toList).length, q[i].data.toList = (Pct.pieces s.data.toList)[i]'h2 ∧ q[i].size ≤ reachBytes) := by
    intro i h
    have h2 : i < (Pct.pieces s.data.toList).length := by rw [HLE.out]; exact h
    have e : q[i].data.toList = (Pct.pieces s.data.toList)[i]'h2 := by simp [← hq]
    refine ⟨h2, e, ?_⟩
    have hmem : (Pct.pieces s.data.toList)[i]'h2 ∈ Pct.split s.data.toList := (List.mem_filter.1 (List.getElem_mem h2)).1
    have h3 := split_le _ _ hmem
    rw [len_list, ← e, len_list] at h3
    have := HS.out
    unfold reachBytes
    omega
  clear hown hc hb1 hq
  by_cases h33 : 32 < q.length
  · have h33i : (32 : Int) < (q.length : Int) := by omega
    clear hi hz0 hz1 hz2
    go_wp2_with fail
    go_ret2
    exact ⟨HB1.out, Or.inl ⟨by rw [HLE.out]; exact h33, rfl⟩⟩
  · have h33i : ¬ (32 : Int) < (q.length : Int) := by omega
    have hq32 : q.length ≤ 32 := by omega
    go_wp2_with fail
    go_loopw [5, 6] (fun v i wr => ∃ (k : Nat) (x : List Pct.Pr), k ≤ q.length ∧ i = .int .i64 k ∧ Pct.pairAll ((Pct.pieces s.data.toList).take k) = some x ∧ wr.ownsRow w1.heap.size 35 2 v (x.map mk).length (cl (x.map mk)) ∧ Below w1.heap.size w1 wr) (fun _ i _ => q.length - (intOf i).toNat)
    case atStart => exact ⟨0, [], Nat.zero_le _, rfl, rfl, World.ownsRow_nil _ _ _ _, Below.refl _ _⟩
    case round =>
      obtain ⟨k, x, hk, rfl, hx, hown, hnx⟩ := hrel
      have hxl := Pct.pairAll_len hx
      have hxl2 : x.length ≤ k := by rw [hxl, List.length_take]; exact Nat.min_le_left _ _
      have HX := hide hx
      have HO1 := hide hown
      have HN := hide hnx
      clear hx hown hnx hxl
      by_cases hlt : k < q.length
      · have hki : (k : Int) < (q.length : Int) := by omega
        obtain ⟨g, rfl, hg0, hg1, hcell⟩ := HC.out k hlt
        have hc2 : wr.cell? ⟨g, k, none⟩ = some (.string q[k]) := (HN.out.cell (p := ⟨g, k, none⟩) hg1).trans hcell
        obtain ⟨hp2, hqe, hqs⟩ := HQ.out k hlt
        have HQE := hide hqe
        have HQS := hide hqs
        clear hqe hqs hcell
        generalize q[k] = pc at *
        go_wp2_with fail
        refine (refPiece_any pc wr HQS.out).mono ?_
        rintro y w3 ⟨hb3, hy⟩
        have HN3 := hide (HN.out.trans (hb3.mono HN.out.size))
        have HO3 := hide (own_below HO1.out hb3)
        clear hb3
        rcases hy with ⟨a, b, hab, rfl⟩ | ⟨hn, rfl⟩
        · have HXS : Hid (Pct.pairAll ((Pct.pieces s.data.toList).take (k + 1)) = some (x ++ [(a, b)])) := by
            show _ = _
            rw [pairAll_take _ k hp2 x HX.out]
            have : Pct.pair ((Pct.pieces s.data.toList)[k]'hp2) = some (a, b) := by rw [← hab, HQE.out]
            rw [this]; rfl
          clear hab
          go_wp2_with (at_builtin; refine wpList_append_own _ rfl _ _ 22 rfl w1.heap.size 35 i0 (.agg #[.string ⟨#[]⟩, .string ⟨#[]⟩]) 2 32 Tryz.underlying22 hi hz0 hz1 hz2 rfl (by decide) _ _ _ rfl ((HO3.out.alloc _).alloc _) ⟨w3.heap.size + 1, 0, none⟩ 1 1 [S a, S b] rfl rfl (cells_at _ _ _ _ (by simp)) ?c2 ?c3 ?c4 ?c5 ?_)
          case c2 => first | rfl | (intro u hu; simp at hu; rcases hu with rfl | rfl <;> rfl)
          case c3 => unfold maxLen; simp; omega
          case c4 => simp; omega
          case c5 => have := HN3.out.size; simp; omega
          intro v' w4 hown' hgrow _
          have HN4 := hide (((HN3.out.alloc HN3.out.size (.cells #[S a, S b] 35)).alloc (by have := HN3.out.size; simp; omega) _).grown hgrow (by have := HN3.out.size; simp; omega) (lst.own_ge HO3.out))
          have HO4 : Hid (w4.ownsRow w1.heap.size 35 2 v' ((x ++ [(a, b)]).map mk).length (cl ((x ++ [(a, b)]).map mk))) := by
            show w4.ownsRow _ _ _ _ _ _
            rw [List.map_append, List.length_append, cl_app, List.length_map]; exact hown'
          clear hown' hgrow
          go_wp2
          go_roundw
          case rel => exact ⟨k + 1, _, by omega, by go_num, HXS.out, HO4.out, HN4.out⟩
          case measure => simp [intOf] <;> omega
        · have HPN : Hid (Pct.pairAll (Pct.pieces s.data.toList) = none) := pairAll_none _ k hp2 (by rw [← hn, HQE.out])
          clear hn
          go_wp2_with fail
          go_ret2
          exact ⟨HB1.out.trans ((HN3.out.alloc HN3.out.size _).mono HB1.out.size), Or.inr (Or.inl ⟨by rw [HLE.out]; exact hq32, HPN.out, rfl⟩)⟩
      · obtain rfl : k = q.length := by omega
        have hx2 := HX.out
        rw [← HLE.out, List.take_length] at hx2
        have HX2 := hide hx2
        clear hx2
        go_wp2_with fail
        go_ret2
        exact ⟨HB1.out.trans (HN.out.mono HB1.out.size), Or.inr (Or.inr ⟨by rw [HLE.out]; exact hq32, x, _, HX2.out, rfl, own_mono HO1.out HB1.out.size⟩)⟩

end Go.Proofs.YtcpflfpgnbihiaaGreatDoor.pctw
